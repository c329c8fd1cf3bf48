/- The document's ring: a job is taken, and its tenant goes with it. -/
import Derived.Test.YtfddhdpnoliamaaQuTc
namespace Go.Proofs.Ytfddhdpnoliamaa
open Go.RowKit Go.Shelf
attribute [local go_sem ↓] appS_eq

set_option maxHeartbeats 8000000 in
set_option maxRecDepth 100000 in
theorem take_gone {B P : Nat} {tv cv jv : Value} {w : World} {r : Rg} (h : RS B P tv cv jv w r) (i : Nat) (hi : i < r.jobs.length) (hn : r.jobs.length ≤ 200) (hf : jat (cut1 r.jobs i) (fun x => decide ((x.ten : Int) = (r.jobs[i].ten : Int))) < 0)
    (p : Nat) (hp : p < r.tens.length) (hpt : r.tens[p] = (r.jobs[i]).ten) (hpo : ∀ m (hm : m < r.tens.length), m ≠ p → r.tens[m] ≠ (r.jobs[i]).ten) (hc : r.creds.length = r.tens.length) (ht : r.tens.length ≤ 1000) :
    Calls Try.prog 34 #[.pointer (some ⟨P, 0, none⟩), .int .i64 i] w fun e w' => e = .returned (.agg #[.int .i64 (r.jobs[i].ten : Int), .string r.jobs[i].name, .int .i64 (r.jobs[i].cost : Int)]) ∧ ∃ tv' cv' jv', RS B P tv' cv' jv' w' { r with jobs := cut1 r.jobs i, tens := cutN r.tens p, creds := cutN r.creds p, turn := if p = 0 then false else r.turn } ∧ Upd (rids P tv cv jv) (rids P tv' cv' jv') w w' := by
  have HPp : Hid (p < r.tens.length ∧ (∃ hp : p < r.tens.length, r.tens[p] = (r.jobs[i]).ten) ∧ (∀ m (hm : m < r.tens.length), m ≠ p → r.tens[m] ≠ (r.jobs[i]).ten) ∧ r.creds.length = r.tens.length ∧ r.tens.length ≤ 1000) := ⟨hp, ⟨hp, hpt⟩, hpo, hc, ht⟩
  clear hp hpt hpo hc ht
  obtain ⟨g, cap, cur, hjv, hcap, _, _, _, _⟩ := h.jobs.at (by omega)
  subst hjv
  have c4 := h.c 4 _ rfl
  have hii : (i : Int) < (r.jobs.length : Int) := by omega
  obtain ⟨g', cap', hv, _, hcell⟩ := h.jobs.form (by omega)
  cases hv
  have d0 : w.cell? ⟨g, i * 3, none⟩ = some (.int .i64 (r.jobs[i].ten : Int)) := (hcell (i * 3) (by omega)).trans (jcs_at r.jobs i hi 0 (by omega))
  have d1 : w.cell? ⟨g, i * 3 + 1, none⟩ = some (.string r.jobs[i].name) := (hcell (i * 3 + 1) (by omega)).trans (jcs_at r.jobs i hi 1 (by omega))
  have d2 : w.cell? ⟨g, i * 3 + 2, none⟩ = some (.int .i64 (r.jobs[i].cost : Int)) := (hcell (i * 3 + 2) (by omega)).trans (jcs_at r.jobs i hi 2 (by omega))
  have b1 : P < w.heap.size := (h.lt P List.mem_cons_self).2
  have b2 : g < w.heap.size := World.block_lt_of_cell? w _ d0
  have n1 : ¬ P = w.heap.size := by omega
  have n2 : ¬ g = w.heap.size := by omega
  have HH : Hid (RS B P tv cv (.slice (some ⟨g, 0, none⟩) r.jobs.length cap) w r ∧ r.jobs.length ≤ cap) := ⟨h, hcap⟩
  have H2 : Hid (Below w.heap.size w ((w.alloc (.cells #[.int .i64 0, .string ⟨#[]⟩, .int .i64 0] 34)).alloc (.cells #[.int .i64 (r.jobs[i].ten : Int), .string r.jobs[i].name, .int .i64 (r.jobs[i].cost : Int)] 34))) := ((Below.refl _ w).alloc (Nat.le_refl _) _).alloc (by rw [World.size_alloc]; omega) _
  clear hcell h
  have l8 := heap_alloc_new (w.alloc (.cells #[.int .i64 0, .string ⟨#[]⟩, .int .i64 0] 34)) (.cells #[.int .i64 (r.jobs[i].ten : Int), .string r.jobs[i].name, .int .i64 (r.jobs[i].cost : Int)] 34)
  rw [World.size_alloc] at l8
  have l9 : ((w.alloc (.cells #[.int .i64 0, .string ⟨#[]⟩, .int .i64 0] 34)).alloc (.cells #[.int .i64 (r.jobs[i].ten : Int), .string r.jobs[i].name, .int .i64 (r.jobs[i].cost : Int)] 34)).heap[w.heap.size]? = some (.cells #[.int .i64 0, .string ⟨#[]⟩, .int .i64 0] 34 (0, 0)) := (heap_al _ _ w.heap.size (by rw [World.size_alloc]; omega)).trans (heap_alloc_new w _)
  have HL8 : Hid _ := l8
  have HL9 : Hid _ := l9
  clear l8 l9
  generalize hjx : r.jobs[i] = jx at *
  clear hjx
  go_enter Try.func34, Try.ntmps34
  go_wp2
  generalize hWW : ((w.alloc (.cells #[.int .i64 0, .string ⟨#[]⟩, .int .i64 0] 34)).alloc (.cells #[.int .i64 (jx.ten : Int), .string jx.name, .int .i64 (jx.cost : Int)] 34)) = W at *
  have hR := HH.out.1.up H2.out
  clear c4 d0 d1 d2
  have c4 := hR.c 4 _ rfl
  have hWs := H2.out.size
  have hUp : Upd (rids P tv cv (.slice (some ⟨g, 0, none⟩) r.jobs.length cap)) (rids P tv cv (.slice (some ⟨g, 0, none⟩) r.jobs.length cap)) w W := Upd.of_below H2.out
  obtain ⟨i0, hi0, hz0, hz1, hz2⟩ := info_p infJ
  obtain ⟨ad, had⟩ : ∃ ad : Addr, (if cap = i + 1 then some (⟨g, 0, none⟩ : Addr) else some ⟨g, (i + 1) * 3, none⟩) = some ad := by
    split
    · exact ⟨_, rfl⟩
    · exact ⟨_, rfl⟩
  have had2 : r.jobs.length - (i + 1) ≠ 0 → ad = ⟨g, (i + 1) * 3, none⟩ := fun e => by
    have := HH.out.2
    rw [if_neg (by omega)] at had
    exact (Option.some.inj had).symm
  obtain ⟨v', w', hrun, hrow, hgr, hat⟩ := RowL.cut (P := Try.prog) (w := W.drew) (h := (hR.jobs.keep fun _ _ => rfl)) 30 30 i0 (.agg #[.int .i64 0, .string ⟨#[]⟩, .int .i64 0]) 32 Try.underlying30 hi0 hz0 hz1 hz2 rfl i (cap - (i + 1)) hi ad had2 (by omega) (by have := hR.lo; show B ≤ W.heap.size; omega)
  have hap : (appS #[30, 30] 30 #[.slice (some ⟨g, 0, none⟩) i i, .slice (if cap = i + 1 then some (⟨g, 0, none⟩ : Addr) else some ⟨g, (i + 1) * 3, none⟩) (r.jobs.length - (i + 1)) (cap - (i + 1))]).run Try.prog W.drew = .ok v' w' := by rw [had]; exact hrun
  clear had had2
  have hicap : (i : Int) ≤ (cap : Int) := by have := HH.out.2; omega
  obtain ⟨i1, hi1⟩ : ∃ i1, i1 = i + 1 := ⟨_, rfl⟩
  have hi2 : (i : Int) + 1 = (i1 : Int) := by omega
  have hw1 : IntKind.i64.wrap (i1 : Int) = (i1 : Int) := by rw [IntKind.wrap_i64]; omega
  have hi3 : (i1 : Int) ≤ (r.jobs.length : Int) := by omega
  have hi4 : (r.jobs.length : Int) ≤ (cap : Int) := by have := HH.out.2; omega
  rw [← hi1] at hap
  have HI1 : Hid (i1 = i + 1) := hi1
  have HP1 : Hid (RowL w' B 34 3 v' (r.jobs.length - 1) ((jcs r.jobs).take (i * 3) ++ (jcs r.jobs).drop ((i + 1) * 3)) ∧ W.drew.grownBy w' none) := ⟨hrow, hgr⟩
  have HR : Hid (RS B P tv cv (.slice (some ⟨g, 0, none⟩) r.jobs.length cap) W r ∧ Upd (rids P tv cv (.slice (some ⟨g, 0, none⟩) r.jobs.length cap)) (rids P tv cv (.slice (some ⟨g, 0, none⟩) r.jobs.length cap)) w W) := ⟨hR, hUp⟩
  have HAt : Hid (v'.ownBlock = some g ∨ v'.ownBlock = some W.drew.heap.size) := hat
  have eP : w'.heap[P]? = W.heap[P]? := hgr.block P (by show P < W.heap.size; omega) (by simp)
  have r1 : w'.cell? ⟨P, 4, none⟩ = some (.slice (some ⟨g, 0, none⟩) r.jobs.length cap) := by rw [World.cell?_of_block (w := W) eP]; exact c4
  have r2 : w'.frozen? ⟨P, 4, none⟩ = false := by rw [World.frozen?_of_block (w := W) eP]; exact Lib.frozen_of_heap hR.blk 4
  obtain ⟨av, cv', hv'⟩ := hrow.shape
  obtain ⟨f1, f2⟩ := hR.jobsCut i hi hrow hgr hat
  have hJb : (w'.setCell ⟨P, 4, none⟩ v').heap[w.heap.size + 1]? = some (.cells #[.int .i64 (jx.ten : Int), .string jx.name, .int .i64 (jx.cost : Int)] 34 (0, 0)) := (f2.block _ (Array.getElem?_eq_some_iff.1 HL8.out).1 (fun e => by have := (HH.out.1.lt _ e).2; omega)).trans HL8.out
  have hJc : (w'.setCell ⟨P, 4, none⟩ v').heap[w.heap.size]? = some (.cells #[.int .i64 0, .string ⟨#[]⟩, .int .i64 0] 34 (0, 0)) := (f2.block _ (Array.getElem?_eq_some_iff.1 HL9.out).1 (fun e => by have := (HH.out.1.lt _ e).2; omega)).trans HL9.out
  have hW8 : w.heap.size + 1 < W.heap.size := (Array.getElem?_eq_some_iff.1 HL8.out).1
  have hnot : ∀ x, w.heap.size ≤ x → x < W.heap.size → ¬ x ∈ rids P tv cv v' := fun x hx1 hx2 e => by
    rw [rids_last] at e
    rcases List.mem_append.1 e with e | e
    · have := (HH.out.1.lt _ (by rw [rids_last]; exact List.mem_append_left _ e)).2
      omega
    · have e2 := mem_ob.1 e
      rcases hat with a | a
      · rw [a] at e2
        have := Option.some.inj e2
        omega
      · rw [a] at e2
        have e3 : W.heap.size = x := Option.some.inj e2
        omega
  have HF : Hid (RS B P tv cv v' (w'.setCell ⟨P, 4, none⟩ v') { r with jobs := cut1 r.jobs i } ∧ Upd (rids P tv cv (.slice (some ⟨g, 0, none⟩) r.jobs.length cap)) (rids P tv cv v') w (w'.setCell ⟨P, 4, none⟩ v') ∧ (w'.setCell ⟨P, 4, none⟩ v').heap[w.heap.size + 1]? = some (.cells #[.int .i64 (jx.ten : Int), .string jx.name, .int .i64 (jx.cost : Int)] 34 (0, 0)) ∧ (w'.setCell ⟨P, 4, none⟩ v').heap[w.heap.size]? = some (.cells #[.int .i64 0, .string ⟨#[]⟩, .int .i64 0] 34 (0, 0)) ∧ ¬ w.heap.size ∈ rids P tv cv v' ∧ ¬ w.heap.size + 1 ∈ rids P tv cv v') := ⟨f1, hUp.trans f2, hJb, hJc, hnot _ (by omega) (by omega), hnot _ (by omega) (by omega)⟩
  clear hW8 hnot
  clear f1 f2 hJb hJc
  clear hi1 hrun hrow hgr hat hR hUp hi0 hz0 hz1 hz2 hWs eP hWW HH H2 b1 b2 HP1 HR HAt HL8 HL9
  go_wp2
  go_region
  rw [← hv']
  generalize (if cap = i1 then some (⟨g, 0, none⟩ : Addr) else some ⟨g, i1 * 3, none⟩) = ao2 at *
  obtain ⟨f1, f2, f3, f4⟩ := HF.out
  generalize w'.setCell ⟨P, 4, none⟩ v' = W2 at *
  have j0 : W2.cell? ⟨w.heap.size + 1, 0, none⟩ = some (.int .i64 (jx.ten : Int)) := by rw [Lib.cell_of_heap f3]; rfl
  have j1 : W2.cell? ⟨w.heap.size + 1, 1, none⟩ = some (.string jx.name) := by rw [Lib.cell_of_heap f3]; rfl
  have j2 : W2.cell? ⟨w.heap.size + 1, 2, none⟩ = some (.int .i64 (jx.cost : Int)) := by rw [Lib.cell_of_heap f3]; rfl
  have hcl : (cut1 r.jobs i).length ≤ 100000 := by unfold cut1; rw [List.length_append, List.length_take, List.length_drop]; omega
  have HFi : Hid (Calls Try.prog 30 #[.pointer (some ⟨P, 0, none⟩), .int .i64 (jx.ten : Int)] W2 fun e w' => e = .returned (.int .i64 (jat (cut1 r.jobs i) (fun x => decide ((x.ten : Int) = (jx.ten : Int))))) ∧ ∃ m, w' = W2.drewN m) := First_any P jx.ten v' (cut1 r.jobs i) W2 (f1.c 4 v' rfl) f1.jobs.readJ hcl
  generalize jat (cut1 r.jobs i) (fun x => decide ((x.ten : Int) = (jx.ten : Int))) = z at *
  clear r1 r2 hap c4 hcl
  clear HF
  have HW2 : Hid (RS B P tv cv v' W2 { r with jobs := cut1 r.jobs i } ∧ Upd (rids P tv cv (.slice (some ⟨g, 0, none⟩) r.jobs.length cap)) (rids P tv cv v') w W2 ∧ W2.heap[w.heap.size + 1]? = some (.cells #[.int .i64 (jx.ten : Int), .string jx.name, .int .i64 (jx.cost : Int)] 34 (0, 0)) ∧ W2.heap[w.heap.size]? = some (.cells #[.int .i64 0, .string ⟨#[]⟩, .int .i64 0] 34 (0, 0)) ∧ ¬ w.heap.size ∈ rids P tv cv v' ∧ ¬ w.heap.size + 1 ∈ rids P tv cv v') := ⟨f1, f2, f3, f4⟩
  clear f1 f2 f3 f4
  go_wp2_with fail
  refine HFi.out.mono ?_
  rintro e w3 ⟨rfl, m, rfl⟩
  clear HFi
  go_wp2
  obtain ⟨hp, ⟨_, hpt⟩, hpo, hc, ht⟩ := HPp.out
  obtain ⟨gt, capT, _, htv, hcapT, _⟩ := HW2.out.1.tens.at (show 0 < r.tens.length by omega)
  obtain ⟨gc, capC, _, hcv, hcapC, _⟩ := HW2.out.1.creds.at (show 0 < r.creds.length by omega)
  have HP2 : Hid ((∀ m (hm : m < r.tens.length), m ≠ p → r.tens[m] ≠ jx.ten) ∧ r.creds.length = r.tens.length ∧ r.tens.length ≤ 1000 ∧ p < r.tens.length ∧ (∃ hp : p < r.tens.length, r.tens[p] = jx.ten) ∧ r.tens.length ≤ capT ∧ r.creds.length ≤ capC) := ⟨hpo, hc, ht, hp, ⟨hp, hpt⟩, hcapT, hcapC⟩
  clear HPp hp hpt hpo hc ht hcapT hcapC
  clear j0 j1 j2 hf hi2 hw1 hi3 hi4 HI1 hicap hv' hii n1 n2
  generalize hI : rids P tv cv (Value.slice (some { block := g, off := 0 }) r.jobs.length cap) = I at *
  have HII : Hid (rids P tv cv (Value.slice (some { block := g, off := 0 }) r.jobs.length cap) = I) := hI
  clear hI
  generalize hR : w.heap.size = N at *
  have HRN : Hid (w.heap.size = N) := hR
  clear hR
  have HJN : Hid (¬ N + 1 ∈ rids P tv cv v') := HW2.out.2.2.2.2.2
  generalize hjl : cut1 r.jobs i = jl at *
  have HJL : Hid (cut1 r.jobs i = jl) := hjl
  clear hjl
  go_loopw [6] (fun v wr => ∃ k : Nat, v = .int .i64 (k : Int) ∧ k ≤ r.tens.length ∧ ((k ≤ p ∧ ∃ m, wr = W2.drewN m) ∨ (p < k ∧ ∃ tv' cv', RS B P tv' cv' v' wr { r with jobs := jl, tens := cutN r.tens p, creds := cutN r.creds p, turn := if p = 0 then false else r.turn } ∧ Upd I (rids P tv' cv' v') w wr ∧ wr.heap[N + 1]? = some (.cells #[.int .i64 (jx.ten : Int), .string jx.name, .int .i64 (jx.cost : Int)] 34 (0, 0)) ∧ wr.heap[N]? = some (.cells #[.int .i64 0, .string ⟨#[]⟩, .int .i64 0] 34 (0, 0)) ∧ ¬ N ∈ rids P tv' cv' v'))) (fun v _ => r.tens.length - (intOf v).toNat)
  case atStart => exact ⟨0, rfl, Nat.zero_le _, .inl ⟨Nat.zero_le _, m, rfl⟩⟩
  case round =>
    obtain ⟨k, rfl, hkn, hk | hk⟩ := hrel
    · obtain ⟨hkp, m1, rfl⟩ := hk
      obtain ⟨h1, h2, h3, h4, ⟨h5, h6⟩, h7, h8⟩ := HP2.out
      have hW := HW2.out.1
      rw [htv] at hW
      have c1 : W2.cell? ⟨P, 1, none⟩ = some (.slice (some ⟨gt, 0, none⟩) r.tens.length capT) := hW.c 1 _ rfl
      have hkl : k < r.tens.length := by omega
      have hki : (k : Int) < (r.tens.length : Int) := by omega
      obtain ⟨g', cap', hv, _, hcell⟩ := hW.tens.form (show 0 < r.tens.length by omega)
      cases hv
      have d0 : W2.cell? ⟨gt, k, none⟩ = some (.int .i64 (r.tens[k] : Int)) := (hcell k (by show k < r.tens.length * 1; omega)).trans (by simp [ns, hkl])
      have j0 : W2.cell? ⟨N + 1, 0, none⟩ = some (.int .i64 (jx.ten : Int)) := by
        rw [Lib.cell_of_heap HW2.out.2.2.1]; rfl
      obtain ⟨k1, hk1⟩ : ∃ k1, k1 = k + 1 := ⟨_, rfl⟩
      have hk2 : (k : Int) + 1 = (k1 : Int) := by omega
      have hw2 : IntKind.i64.wrap (k1 : Int) = (k1 : Int) := by rw [IntKind.wrap_i64]; omega
      have HK : Hid (k1 = k + 1) := hk1
      rcases Nat.lt_or_ge k p with hlt | hge
      · have hne : ¬ (r.tens[k] : Int) = (jx.ten : Int) := fun e => h1 k hkl (by omega) (by omega)
        have HE : Hid (k < p) := hlt
        clear h1 h2 h3 h4 h6 h7 h8 hW hcell hk1 hkn hkp hlt
        generalize (r.tens[k] : Int) = x1 at *
        go_wp2
        go_region
        go_wp2
        refine ⟨⟨k1, rfl, by have := HK.out; omega, .inl ⟨by have := HK.out; have := HE.out; omega, _, rfl⟩⟩, ?_⟩
        have := HK.out
        simp [intOf]; omega
      · -- HIT
        have hke : k = p := by omega
        subst hke
        have hhit : (r.tens[k] : Int) = (jx.ten : Int) := by omega
        have hX0 : RS B P tv cv v' (W2.drewN (m1 + 1)) { r with jobs := jl } := HW2.out.1.keep fun _ _ => rfl
        have hUX : Upd I (rids P tv cv v') w (W2.drewN (m1 + 1)) := HW2.out.2.1.drewN _
        have hXj : (W2.drewN (m1 + 1)).heap[N + 1]? = some (.cells #[.int .i64 (jx.ten : Int), .string jx.name, .int .i64 (jx.cost : Int)] 34 (0, 0)) := HW2.out.2.2.1
        have hXz : (W2.drewN (m1 + 1)).heap[N]? = some (.cells #[.int .i64 0, .string ⟨#[]⟩, .int .i64 0] 34 (0, 0)) := HW2.out.2.2.2.1
        have hXn := HW2.out.2.2.2.2.1
        have hXn1 : ¬ N + 1 ∈ rids P tv cv v' := HJN.out
        have HX : Hid (RS B P tv cv v' (W2.drewN (m1 + 1)) { r with jobs := jl } ∧ Upd I (rids P tv cv v') w (W2.drewN (m1 + 1)) ∧ (W2.drewN (m1 + 1)).heap[N + 1]? = some (.cells #[.int .i64 (jx.ten : Int), .string jx.name, .int .i64 (jx.cost : Int)] 34 (0, 0)) ∧ (W2.drewN (m1 + 1)).heap[N]? = some (.cells #[.int .i64 0, .string ⟨#[]⟩, .int .i64 0] 34 (0, 0)) ∧ ¬ N ∈ rids P tv cv v' ∧ ¬ N + 1 ∈ rids P tv cv v') := ⟨hX0, hUX, hXj, hXz, hXn, hXn1⟩
        have HHs : Hid (r.creds.length = r.tens.length ∧ r.tens.length ≤ 1000 ∧ r.tens.length ≤ capT ∧ r.creds.length ≤ capC) := ⟨h2, h3, h7, h8⟩
        clear h1 h2 h3 h4 h6 h7 h8 hX0 hUX hXj hXz hXn hXn1 hW hcell hk1 hkn
        have hb1 : (k : Int) ≤ (capT : Int) := by have := HHs.out; omega
        have hb2 : (k1 : Int) ≤ (r.tens.length : Int) := by have := HK.out; omega
        have hb3 : (r.tens.length : Int) ≤ (capT : Int) := by have := HHs.out; omega
        have hb4 : (k : Int) ≤ (capC : Int) := by have := HHs.out; omega
        have hb5 : (k1 : Int) ≤ (r.creds.length : Int) := by have := HHs.out; have := HK.out; omega
        have hb6 : (r.creds.length : Int) ≤ (capC : Int) := by have := HHs.out; omega
        rw [hhit] at d0
        by_cases hk0 : k = 0
        · subst hk0
          have hk1e : k1 = 1 := HK.out
          subst hk1e
          have q0 : W2.cell? ⟨gt, 0, none⟩ = some (.int .i64 (jx.ten : Int)) := d0
          have q1 : (0 : Int) < (r.tens.length : Int) := hki
          have q2 : (1 : Int) ≤ (r.tens.length : Int) := hb2
          have q3 : (0 : Int) ≤ (capT : Int) := by omega
          have q4 : (1 : Int) ≤ (r.creds.length : Int) := hb5
          have q5 : (0 : Int) ≤ (capC : Int) := by omega
          have q6 : W2.cell? ⟨P, 3, none⟩ = some (.bool r.turn) := HW2.out.1.c 3 _ rfl
          have q7 : W2.frozen? ⟨P, 3, none⟩ = false := Lib.frozen_of_heap HW2.out.1.blk 3
          clear d0 hki hb1 hb2 hb4 hb5 hk2 hw2 hhit hge hkp
          have HkL : Hid (0 < r.tens.length) := hkl
          clear hkl
          go_wp2
          go_region
          go_wp2_with fail
          obtain ⟨hX, hUX, hYj0, hYz0, hYn, hYn1⟩ := HX.out
          obtain ⟨_, hY, hU9⟩ := hX.turnTo false
          have hUY := hUX.trans hU9
          have hYj := (hU9.block _ (Array.getElem?_eq_some_iff.1 hYj0).1 hYn1).trans hYj0
          have hYz := (hU9.block _ (Array.getElem?_eq_some_iff.1 hYz0).1 hYn).trans hYz0
          clear hYj0 hYz0 hX hUX hU9 q6 q7 q0 c1 j0 HX
          generalize (W2.drewN (m1 + 1)).setCell ⟨P, 3, none⟩ (.bool false) = Y at *
          obtain ⟨h2, h3, h7, h8⟩ := HHs.out
          rw [htv, hcv] at hY hUY hYn hYn1
          have hkl := HkL.out
          have hk1 : 1 = 0 + 1 := rfl
          have hk0 : 0 = 0 := rfl
          obtain ⟨v1, w1, hap1, ⟨av1, cp1, hv1⟩, r1, r2, hZ, hUZ⟩ := hY.tens_cut rfl h7 0 1 hkl hk1 h3
          have c1 : Y.cell? ⟨P, 1, none⟩ = some (.slice (some ⟨gt, 0, none⟩) r.tens.length capT) := hY.c 1 _ rfl
          have HZ : Hid (RS B P v1 (.slice (some ⟨gc, 0, none⟩) r.creds.length capC) v' (w1.setCell ⟨P, 1, none⟩ v1) { r with jobs := jl, tens := cutN r.tens 0, turn := false } ∧ Upd I (rids P v1 (.slice (some ⟨gc, 0, none⟩) r.creds.length capC) v') w (w1.setCell ⟨P, 1, none⟩ v1) ∧ (w1.setCell ⟨P, 1, none⟩ v1).heap[N + 1]? = some (.cells #[.int .i64 (jx.ten : Int), .string jx.name, .int .i64 (jx.cost : Int)] 34 (0, 0)) ∧ (w1.setCell ⟨P, 1, none⟩ v1).heap[N]? = some (.cells #[.int .i64 0, .string ⟨#[]⟩, .int .i64 0] 34 (0, 0)) ∧ ¬ N ∈ rids P v1 (.slice (some ⟨gc, 0, none⟩) r.creds.length capC) v' ∧ ¬ N + 1 ∈ rids P v1 (.slice (some ⟨gc, 0, none⟩) r.creds.length capC) v') := ⟨hZ, hUY.trans hUZ, (hUZ.block _ (Array.getElem?_eq_some_iff.1 hYj).1 hYn1).trans hYj, (hUZ.block _ (Array.getElem?_eq_some_iff.1 hYz).1 hYn).trans hYz, fun e => by
              rcases hUZ.new _ e with e | e
              · exact hYn e
              · have := (Array.getElem?_eq_some_iff.1 hYz).1
                omega, fun e => by
              rcases hUZ.new _ e with e | e
              · exact hYn1 e
              · have := (Array.getElem?_eq_some_iff.1 hYj).1
                omega⟩
          rw [hv1] at hap1 HZ
          clear hY hUY hYj hYz hYn hYn1 hZ hUZ hv1 hk1 hk0 hkl h2 h3 h7 h8 htv hcv
          go_region
          generalize (if capT = 1 then some (⟨gt, 0, none⟩ : Addr) else some ⟨gt, 1, none⟩) = ao3 at *
          go_wp2_with fail
          obtain ⟨h2, h3, h7, h8⟩ := HHs.out
          have hkl := HkL.out
          have hk1 : 1 = 0 + 1 := rfl
          have hk0 : 0 = 0 := rfl
          obtain ⟨hZ, hUZ, hZj, hZz, hZn, hZn1⟩ := HZ.out
          clear HZ hap1 r1 r2 c1
          generalize w1.setCell ⟨P, 1, none⟩ (.slice av1 (r.tens.length - 1) cp1) = Z at *
          obtain ⟨v2, w2, hap2, ⟨av2, cp2, hv2⟩, r1, r2, hF, hUF⟩ := hZ.creds_cut rfl h8 0 1 (by omega) hk1 (by omega)
          have c2 : Z.cell? ⟨P, 2, none⟩ = some (.slice (some ⟨gc, 0, none⟩) r.creds.length capC) := hZ.c 2 _ rfl
          have HF2 : Hid (RS B P (.slice av1 (r.tens.length - 1) cp1) v2 v' (w2.setCell ⟨P, 2, none⟩ v2) { r with jobs := jl, tens := cutN r.tens 0, creds := cutN r.creds 0, turn := if 0 = 0 then false else r.turn } ∧ Upd I (rids P (.slice av1 (r.tens.length - 1) cp1) v2 v') w (w2.setCell ⟨P, 2, none⟩ v2) ∧ (w2.setCell ⟨P, 2, none⟩ v2).heap[N + 1]? = some (.cells #[.int .i64 (jx.ten : Int), .string jx.name, .int .i64 (jx.cost : Int)] 34 (0, 0)) ∧ (w2.setCell ⟨P, 2, none⟩ v2).heap[N]? = some (.cells #[.int .i64 0, .string ⟨#[]⟩, .int .i64 0] 34 (0, 0)) ∧ ¬ N ∈ rids P (.slice av1 (r.tens.length - 1) cp1) v2 v') := ⟨by
              have e : (if 0 = 0 then false else r.turn) = false := if_pos hk0
              rw [e]
              exact hF, hUZ.trans hUF, (hUF.block _ (Array.getElem?_eq_some_iff.1 hZj).1 hZn1).trans hZj, (hUF.block _ (Array.getElem?_eq_some_iff.1 hZz).1 hZn).trans hZz, fun e => by
              rcases hUF.new _ e with e | e
              · exact hZn e
              · have := (Array.getElem?_eq_some_iff.1 hZz).1
                omega⟩
          rw [hv2] at hap2 HF2
          clear hF hUF hZ hUZ hZj hZz hZn hZn1 hv2 hk1 hk0 hkl h2 h3 h7 h8
          go_region
          generalize (if capC = 1 then some (⟨gc, 0, none⟩ : Addr) else some ⟨gc, 1, none⟩) = ao4 at *
          go_wp2
          obtain ⟨h2, h3, h7, h8⟩ := HHs.out
          have hkl := HkL.out
          have hk1 : 1 = 0 + 1 := rfl
          have hk0 : 0 = 0 := rfl
          refine ⟨⟨1, rfl, by omega, .inr ⟨by omega, .slice av1 (r.tens.length - 1) cp1, .slice av2 (r.creds.length - 1) cp2, HF2.out⟩⟩, ?_⟩
          simp [intOf]; omega
        · have hk0i : ¬ (k : Int) = 0 := by omega
          have hk0b : ((k : Int) == 0) = false := by simpa using hk0i
          have HK0 : Hid (¬ k = 0) := hk0
          clear hk0
          have HkL : Hid (k < r.tens.length) := hkl
          clear hkl
          go_wp2
          go_region
          go_wp2
          obtain ⟨hY, hUY, hYj, hYz, hYn, hYn1⟩ := HX.out
          clear d0 c1 j0 HX hhit hge hkp
          generalize (W2.drewN (m1 + 1)) = Y at *
          obtain ⟨h2, h3, h7, h8⟩ := HHs.out
          rw [htv, hcv] at hY hUY hYn hYn1
          have hkl := HkL.out
          have hk1 := HK.out
          have hk0 := HK0.out
          obtain ⟨v1, w1, hap1, ⟨av1, cp1, hv1⟩, r1, r2, hZ, hUZ⟩ := hY.tens_cut rfl h7 k k1 hkl hk1 h3
          have c1 : Y.cell? ⟨P, 1, none⟩ = some (.slice (some ⟨gt, 0, none⟩) r.tens.length capT) := hY.c 1 _ rfl
          have HZ : Hid (RS B P v1 (.slice (some ⟨gc, 0, none⟩) r.creds.length capC) v' (w1.setCell ⟨P, 1, none⟩ v1) { r with jobs := jl, tens := cutN r.tens k, turn := r.turn } ∧ Upd I (rids P v1 (.slice (some ⟨gc, 0, none⟩) r.creds.length capC) v') w (w1.setCell ⟨P, 1, none⟩ v1) ∧ (w1.setCell ⟨P, 1, none⟩ v1).heap[N + 1]? = some (.cells #[.int .i64 (jx.ten : Int), .string jx.name, .int .i64 (jx.cost : Int)] 34 (0, 0)) ∧ (w1.setCell ⟨P, 1, none⟩ v1).heap[N]? = some (.cells #[.int .i64 0, .string ⟨#[]⟩, .int .i64 0] 34 (0, 0)) ∧ ¬ N ∈ rids P v1 (.slice (some ⟨gc, 0, none⟩) r.creds.length capC) v' ∧ ¬ N + 1 ∈ rids P v1 (.slice (some ⟨gc, 0, none⟩) r.creds.length capC) v') := ⟨hZ, hUY.trans hUZ, (hUZ.block _ (Array.getElem?_eq_some_iff.1 hYj).1 hYn1).trans hYj, (hUZ.block _ (Array.getElem?_eq_some_iff.1 hYz).1 hYn).trans hYz, fun e => by
              rcases hUZ.new _ e with e | e
              · exact hYn e
              · have := (Array.getElem?_eq_some_iff.1 hYz).1
                omega, fun e => by
              rcases hUZ.new _ e with e | e
              · exact hYn1 e
              · have := (Array.getElem?_eq_some_iff.1 hYj).1
                omega⟩
          rw [hv1] at hap1 HZ
          clear hY hUY hYj hYz hYn hYn1 hZ hUZ hv1 hk1 hk0 hkl h2 h3 h7 h8 htv hcv
          go_region
          generalize (if capT = k1 then some (⟨gt, 0, none⟩ : Addr) else some ⟨gt, k1, none⟩) = ao3 at *
          go_wp2_with fail
          obtain ⟨h2, h3, h7, h8⟩ := HHs.out
          have hkl := HkL.out
          have hk1 := HK.out
          have hk0 := HK0.out
          obtain ⟨hZ, hUZ, hZj, hZz, hZn, hZn1⟩ := HZ.out
          clear HZ hap1 r1 r2 c1
          generalize w1.setCell ⟨P, 1, none⟩ (.slice av1 (r.tens.length - 1) cp1) = Z at *
          obtain ⟨v2, w2, hap2, ⟨av2, cp2, hv2⟩, r1, r2, hF, hUF⟩ := hZ.creds_cut rfl h8 k k1 (by omega) hk1 (by omega)
          have c2 : Z.cell? ⟨P, 2, none⟩ = some (.slice (some ⟨gc, 0, none⟩) r.creds.length capC) := hZ.c 2 _ rfl
          have HF2 : Hid (RS B P (.slice av1 (r.tens.length - 1) cp1) v2 v' (w2.setCell ⟨P, 2, none⟩ v2) { r with jobs := jl, tens := cutN r.tens k, creds := cutN r.creds k, turn := if k = 0 then false else r.turn } ∧ Upd I (rids P (.slice av1 (r.tens.length - 1) cp1) v2 v') w (w2.setCell ⟨P, 2, none⟩ v2) ∧ (w2.setCell ⟨P, 2, none⟩ v2).heap[N + 1]? = some (.cells #[.int .i64 (jx.ten : Int), .string jx.name, .int .i64 (jx.cost : Int)] 34 (0, 0)) ∧ (w2.setCell ⟨P, 2, none⟩ v2).heap[N]? = some (.cells #[.int .i64 0, .string ⟨#[]⟩, .int .i64 0] 34 (0, 0)) ∧ ¬ N ∈ rids P (.slice av1 (r.tens.length - 1) cp1) v2 v') := ⟨by
              have e : (if k = 0 then false else r.turn) = r.turn := if_neg hk0
              rw [e]
              exact hF, hUZ.trans hUF, (hUF.block _ (Array.getElem?_eq_some_iff.1 hZj).1 hZn1).trans hZj, (hUF.block _ (Array.getElem?_eq_some_iff.1 hZz).1 hZn).trans hZz, fun e => by
              rcases hUF.new _ e with e | e
              · exact hZn e
              · have := (Array.getElem?_eq_some_iff.1 hZz).1
                omega⟩
          rw [hv2] at hap2 HF2
          clear hF hUF hZ hUZ hZj hZz hZn hZn1 hv2 hk1 hk0 hkl h2 h3 h7 h8
          go_region
          generalize (if capC = k1 then some (⟨gc, 0, none⟩ : Addr) else some ⟨gc, k1, none⟩) = ao4 at *
          go_wp2
          obtain ⟨h2, h3, h7, h8⟩ := HHs.out
          have hkl := HkL.out
          have hk1 := HK.out
          have hk0 := HK0.out
          refine ⟨⟨k1, rfl, by omega, .inr ⟨by omega, .slice av1 (r.tens.length - 1) cp1, .slice av2 (r.creds.length - 1) cp2, HF2.out⟩⟩, ?_⟩
          simp [intOf]; omega
    · obtain ⟨hkp, tv', cv', hS, hU, hSj, hSz, hSn⟩ := hk
      obtain ⟨h1, h2, h3, h4, ⟨h5, h6⟩, h7, h8⟩ := HP2.out
      obtain ⟨tao, tcap, htv'⟩ := hS.tens.shape
      have hlen : (cutN r.tens p).length = r.tens.length - 1 := cutN_len h5
      have c1 : wr.cell? ⟨P, 1, none⟩ = some (.slice tao (r.tens.length - 1) tcap) := by rw [← hlen, ← htv']; exact hS.c 1 _ rfl
      obtain ⟨n1, hn1⟩ : ∃ n1, n1 = r.tens.length - 1 := ⟨_, rfl⟩
      rw [← hn1] at c1
      have HN1 : Hid (n1 = r.tens.length - 1) := hn1
      by_cases hlt : k < n1
      · obtain ⟨g', cap', hv, _, hcell⟩ := hS.tens.form (show 0 < (cutN r.tens p).length by omega)
        rw [htv'] at hv
        cases hv
        have hk1l : k + 1 < r.tens.length := by omega
        have d0 : wr.cell? ⟨g', k, none⟩ = some (.int .i64 (r.tens[k + 1] : Int)) := by
          refine (hcell k (by show k < (cutN r.tens p).length * 1; omega)).trans ?_
          show (ns (cutN r.tens p))[k]? = _
          unfold ns cutN
          rw [List.getElem?_map, List.getElem?_append_right (by rw [List.length_take]; omega), List.getElem?_drop, List.length_take, Nat.min_eq_left (by omega), show p + 1 + (k - p) = k + 1 from by omega, List.getElem?_eq_getElem hk1l]
          rfl
        have hne : ¬ (r.tens[k + 1] : Int) = (jx.ten : Int) := fun e => h1 (k + 1) hk1l (by omega) (by omega)
        have j0 : wr.cell? ⟨N + 1, 0, none⟩ = some (.int .i64 (jx.ten : Int)) := by rw [Lib.cell_of_heap hSj]; rfl
        have hki : (k : Int) < (n1 : Int) := by omega
        obtain ⟨k1, hk1⟩ : ∃ k1, k1 = k + 1 := ⟨_, rfl⟩
        have hk2 : (k : Int) + 1 = (k1 : Int) := by omega
        have hw2 : IntKind.i64.wrap (k1 : Int) = (k1 : Int) := by rw [IntKind.wrap_i64]; omega
        have HK : Hid (k1 = k + 1 ∧ p < k ∧ k + 1 < r.tens.length) := ⟨hk1, hkp, hk1l⟩
        have HS : Hid (RS B P (.slice (some ⟨g', 0, none⟩) (cutN r.tens p).length tcap) cv' v' wr { r with jobs := jl, tens := cutN r.tens p, creds := cutN r.creds p, turn := if p = 0 then false else r.turn } ∧ Upd I (rids P (.slice (some ⟨g', 0, none⟩) (cutN r.tens p).length tcap) cv' v') w wr ∧ wr.heap[N + 1]? = some (.cells #[.int .i64 (jx.ten : Int), .string jx.name, .int .i64 (jx.cost : Int)] 34 (0, 0)) ∧ wr.heap[N]? = some (.cells #[.int .i64 0, .string ⟨#[]⟩, .int .i64 0] 34 (0, 0)) ∧ ¬ N ∈ rids P (.slice (some ⟨g', 0, none⟩) (cutN r.tens p).length tcap) cv' v') := by
          rw [← htv']
          exact ⟨hS, hU, hSj, hSz, hSn⟩
        clear h1 h2 h3 h4 h6 h7 h8 hS hU hSj hSz hSn hcell hk1 hkn hkp hlt htv' hn1 htv hcv hlen h5
        generalize (r.tens[k + 1] : Int) = x1 at *
        go_wp2
        go_region
        go_wp2
        refine ⟨⟨k1, rfl, by have := HK.out; omega, .inr ⟨by have := HK.out; omega, .slice (some ⟨g', 0, none⟩) (cutN r.tens p).length tcap, cv', HS.out.1.keep (fun _ _ => rfl), HS.out.2.1.drewN 1, HS.out.2.2.1, HS.out.2.2.2.1, HS.out.2.2.2.2⟩⟩, ?_⟩
        have := HK.out
        simp [intOf]; omega
      · have hki : ¬ (k : Int) < (n1 : Int) := by omega
        have j0 : wr.cell? ⟨N + 1, 0, none⟩ = some (.int .i64 (jx.ten : Int)) := by rw [Lib.cell_of_heap hSj]; rfl
        have j1 : wr.cell? ⟨N + 1, 1, none⟩ = some (.string jx.name) := by rw [Lib.cell_of_heap hSj]; rfl
        have j2 : wr.cell? ⟨N + 1, 2, none⟩ = some (.int .i64 (jx.cost : Int)) := by rw [Lib.cell_of_heap hSj]; rfl
        have x0 : wr.cell? ⟨N, 0, none⟩ = some (.int .i64 0) := by rw [Lib.cell_of_heap hSz]; rfl
        have x1 : wr.cell? ⟨N, 1, none⟩ = some (.string ⟨#[]⟩) := by rw [Lib.cell_of_heap hSz]; rfl
        have x2 : wr.cell? ⟨N, 2, none⟩ = some (.int .i64 0) := by rw [Lib.cell_of_heap hSz]; rfl
        have y0 : wr.frozen? ⟨N, 0, none⟩ = false := Lib.frozen_of_heap hSz 0
        have y1 : wr.frozen? ⟨N, 1, none⟩ = false := Lib.frozen_of_heap hSz 1
        have y2 : wr.frozen? ⟨N, 2, none⟩ = false := Lib.frozen_of_heap hSz 2
        have HEnd : Hid _ := take_end (jx := jx) hS hU (by rw [HRN.out]; exact Nat.le_refl _) hSz hSn
        clear h1 h2 h3 h4 h6 h7 h8 hS hU hSj hSz hSn hkn hkp hlt htv' hn1 htv hcv hlen h5
        go_wp2
        obtain ⟨hE, hG⟩ := HEnd.out
        have g0 : (((wr.setCell ⟨N, 0, none⟩ (.int .i64 (jx.ten : Int))).setCell ⟨N, 1, none⟩ (.string jx.name)).setCell ⟨N, 2, none⟩ (.int .i64 (jx.cost : Int))).cell? ⟨N, 0, none⟩ = some (.int .i64 (jx.ten : Int)) := by rw [Lib.cell_of_heap hG]; rfl
        have g1 : (((wr.setCell ⟨N, 0, none⟩ (.int .i64 (jx.ten : Int))).setCell ⟨N, 1, none⟩ (.string jx.name)).setCell ⟨N, 2, none⟩ (.int .i64 (jx.cost : Int))).cell? ⟨N, 1, none⟩ = some (.string jx.name) := by rw [Lib.cell_of_heap hG]; rfl
        have g2 : (((wr.setCell ⟨N, 0, none⟩ (.int .i64 (jx.ten : Int))).setCell ⟨N, 1, none⟩ (.string jx.name)).setCell ⟨N, 2, none⟩ (.int .i64 (jx.cost : Int))).cell? ⟨N, 2, none⟩ = some (.int .i64 (jx.cost : Int)) := by rw [Lib.cell_of_heap hG]; rfl
        generalize ((wr.setCell ⟨N, 0, none⟩ (.int .i64 (jx.ten : Int))).setCell ⟨N, 1, none⟩ (.string jx.name)).setCell ⟨N, 2, none⟩ (.int .i64 (jx.cost : Int)) = W5 at *
        refine bodyPost_ret (v := .agg #[.int .i64 (jx.ten : Int), .string jx.name, .int .i64 (jx.cost : Int)]) (by simp [results, Try.results34, go_sem, g0, g1, g2]) rfl ?_
        rw [← HII.out] at hE
        have eT : (if p = 0 then false else r.turn) = (!decide (p = 0) && r.turn) := by by_cases e : p = 0 <;> simp [e]
        rw [eT, ← HJL.out] at hE
        exact ⟨rfl, tv', cv', v', hE⟩
end Go.Proofs.Ytfddhdpnoliamaa
