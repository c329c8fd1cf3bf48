/- The document's ring: a job is taken, and its tenant stays. -/
import Derived.Test.YtfddhdpnoliamaaQuRu
namespace Go.Proofs.Ytfddhdpnoliamaa
open Go.RowKit Go.Shelf
attribute [local go_sem ↓] appS_eq

set_option maxHeartbeats 8000000 in
set_option maxRecDepth 100000 in
theorem take_keep {B P : Nat} {tv cv jv : Value} {w : World} {r : Rg} (h : RS B P tv cv jv w r) (i : Nat) (hi : i < r.jobs.length) (hn : r.jobs.length ≤ 200) (hf : 0 ≤ jat (cut1 r.jobs i) (fun x => decide ((x.ten : Int) = (r.jobs[i].ten : Int)))) :
    Calls Try.prog 34 #[.pointer (some ⟨P, 0, none⟩), .int .i64 i] w fun e w' => e = .returned (.agg #[.int .i64 (r.jobs[i].ten : Int), .string r.jobs[i].name, .int .i64 (r.jobs[i].cost : Int)]) ∧ ∃ jv', RS B P tv cv jv' w' { r with jobs := cut1 r.jobs i } ∧ Upd (rids P tv cv jv) (rids P tv cv jv') w w' := by
  obtain ⟨g, cap, cur, hjv, hcap, _, _, _, _⟩ := h.jobs.at (by omega)
  subst hjv
  have c4 := h.c 4 _ rfl
  have hii : (i : Int) < (r.jobs.length : Int) := by omega
  obtain ⟨g', cap', hv, _, hcell⟩ := h.jobs.form (by omega)
  cases hv
  have d0 : w.cell? ⟨g, i * 3, none⟩ = some (.int .i64 (r.jobs[i].ten : Int)) := (hcell (i * 3) (by omega)).trans (jcs_at r.jobs i hi 0 (by omega))
  have d1 : w.cell? ⟨g, i * 3 + 1, none⟩ = some (.string r.jobs[i].name) := (hcell (i * 3 + 1) (by omega)).trans (jcs_at r.jobs i hi 1 (by omega))
  have d2 : w.cell? ⟨g, i * 3 + 2, none⟩ = some (.int .i64 (r.jobs[i].cost : Int)) := (hcell (i * 3 + 2) (by omega)).trans (jcs_at r.jobs i hi 2 (by omega))
  have b1 : P < w.heap.size := (h.lt P List.mem_cons_self).2
  have b2 : g < w.heap.size := World.block_lt_of_cell? w _ d0
  have n1 : ¬ P = w.heap.size := by omega
  have n2 : ¬ g = w.heap.size := by omega
  have HH : Hid (RS B P tv cv (.slice (some ⟨g, 0, none⟩) r.jobs.length cap) w r ∧ r.jobs.length ≤ cap) := ⟨h, hcap⟩
  have H2 : Hid (Below w.heap.size w ((w.alloc (.cells #[.int .i64 0, .string ⟨#[]⟩, .int .i64 0] 34)).alloc (.cells #[.int .i64 (r.jobs[i].ten : Int), .string r.jobs[i].name, .int .i64 (r.jobs[i].cost : Int)] 34))) := ((Below.refl _ w).alloc (Nat.le_refl _) _).alloc (by rw [World.size_alloc]; omega) _
  clear hcell h
  have l8 := heap_alloc_new (w.alloc (.cells #[.int .i64 0, .string ⟨#[]⟩, .int .i64 0] 34)) (.cells #[.int .i64 (r.jobs[i].ten : Int), .string r.jobs[i].name, .int .i64 (r.jobs[i].cost : Int)] 34)
  rw [World.size_alloc] at l8
  have l9 : ((w.alloc (.cells #[.int .i64 0, .string ⟨#[]⟩, .int .i64 0] 34)).alloc (.cells #[.int .i64 (r.jobs[i].ten : Int), .string r.jobs[i].name, .int .i64 (r.jobs[i].cost : Int)] 34)).heap[w.heap.size]? = some (.cells #[.int .i64 0, .string ⟨#[]⟩, .int .i64 0] 34 (0, 0)) := (heap_al _ _ w.heap.size (by rw [World.size_alloc]; omega)).trans (heap_alloc_new w _)
  have HL8 : Hid _ := l8
  have HL9 : Hid _ := l9
  clear l8 l9
  generalize hjx : r.jobs[i] = jx at *
  clear hjx
  go_enter Try.func34, Try.ntmps34
  go_wp2
  generalize hWW : ((w.alloc (.cells #[.int .i64 0, .string ⟨#[]⟩, .int .i64 0] 34)).alloc (.cells #[.int .i64 (jx.ten : Int), .string jx.name, .int .i64 (jx.cost : Int)] 34)) = W at *
  have hR := HH.out.1.up H2.out
  clear c4 d0 d1 d2
  have c4 := hR.c 4 _ rfl
  have hWs := H2.out.size
  have hUp : Upd (rids P tv cv (.slice (some ⟨g, 0, none⟩) r.jobs.length cap)) (rids P tv cv (.slice (some ⟨g, 0, none⟩) r.jobs.length cap)) w W := Upd.of_below H2.out
  obtain ⟨i0, hi0, hz0, hz1, hz2⟩ := info_p infJ
  obtain ⟨ad, had⟩ : ∃ ad : Addr, (if cap = i + 1 then some (⟨g, 0, none⟩ : Addr) else some ⟨g, (i + 1) * 3, none⟩) = some ad := by
    split
    · exact ⟨_, rfl⟩
    · exact ⟨_, rfl⟩
  have had2 : r.jobs.length - (i + 1) ≠ 0 → ad = ⟨g, (i + 1) * 3, none⟩ := fun e => by
    have := HH.out.2
    rw [if_neg (by omega)] at had
    exact (Option.some.inj had).symm
  obtain ⟨v', w', hrun, hrow, hgr, hat⟩ := RowL.cut (P := Try.prog) (w := W.drew) (h := (hR.jobs.keep fun _ _ => rfl)) 30 30 i0 (.agg #[.int .i64 0, .string ⟨#[]⟩, .int .i64 0]) 32 Try.underlying30 hi0 hz0 hz1 hz2 rfl i (cap - (i + 1)) hi ad had2 (by omega) (by have := hR.lo; show B ≤ W.heap.size; omega)
  have hap : (appS #[30, 30] 30 #[.slice (some ⟨g, 0, none⟩) i i, .slice (if cap = i + 1 then some (⟨g, 0, none⟩ : Addr) else some ⟨g, (i + 1) * 3, none⟩) (r.jobs.length - (i + 1)) (cap - (i + 1))]).run Try.prog W.drew = .ok v' w' := by rw [had]; exact hrun
  clear had had2
  have hicap : (i : Int) ≤ (cap : Int) := by have := HH.out.2; omega
  obtain ⟨i1, hi1⟩ : ∃ i1, i1 = i + 1 := ⟨_, rfl⟩
  have hi2 : (i : Int) + 1 = (i1 : Int) := by omega
  have hw1 : IntKind.i64.wrap (i1 : Int) = (i1 : Int) := by rw [IntKind.wrap_i64]; omega
  have hi3 : (i1 : Int) ≤ (r.jobs.length : Int) := by omega
  have hi4 : (r.jobs.length : Int) ≤ (cap : Int) := by have := HH.out.2; omega
  rw [← hi1] at hap
  have HI1 : Hid (i1 = i + 1) := hi1
  have HP1 : Hid (RowL w' B 34 3 v' (r.jobs.length - 1) ((jcs r.jobs).take (i * 3) ++ (jcs r.jobs).drop ((i + 1) * 3)) ∧ W.drew.grownBy w' none) := ⟨hrow, hgr⟩
  have HR : Hid (RS B P tv cv (.slice (some ⟨g, 0, none⟩) r.jobs.length cap) W r ∧ Upd (rids P tv cv (.slice (some ⟨g, 0, none⟩) r.jobs.length cap)) (rids P tv cv (.slice (some ⟨g, 0, none⟩) r.jobs.length cap)) w W) := ⟨hR, hUp⟩
  have HAt : Hid (v'.ownBlock = some g ∨ v'.ownBlock = some W.drew.heap.size) := hat
  have eP : w'.heap[P]? = W.heap[P]? := hgr.block P (by show P < W.heap.size; omega) (by simp)
  have r1 : w'.cell? ⟨P, 4, none⟩ = some (.slice (some ⟨g, 0, none⟩) r.jobs.length cap) := by rw [World.cell?_of_block (w := W) eP]; exact c4
  have r2 : w'.frozen? ⟨P, 4, none⟩ = false := by rw [World.frozen?_of_block (w := W) eP]; exact Lib.frozen_of_heap hR.blk 4
  obtain ⟨av, cv', hv'⟩ := hrow.shape
  obtain ⟨f1, f2⟩ := hR.jobsCut i hi hrow hgr hat
  have hJb : (w'.setCell ⟨P, 4, none⟩ v').heap[w.heap.size + 1]? = some (.cells #[.int .i64 (jx.ten : Int), .string jx.name, .int .i64 (jx.cost : Int)] 34 (0, 0)) := (f2.block _ (Array.getElem?_eq_some_iff.1 HL8.out).1 (fun e => by have := (HH.out.1.lt _ e).2; omega)).trans HL8.out
  have hJc : (w'.setCell ⟨P, 4, none⟩ v').heap[w.heap.size]? = some (.cells #[.int .i64 0, .string ⟨#[]⟩, .int .i64 0] 34 (0, 0)) := (f2.block _ (Array.getElem?_eq_some_iff.1 HL9.out).1 (fun e => by have := (HH.out.1.lt _ e).2; omega)).trans HL9.out
  have HF : Hid (RS B P tv cv v' (w'.setCell ⟨P, 4, none⟩ v') { r with jobs := cut1 r.jobs i } ∧ Upd (rids P tv cv (.slice (some ⟨g, 0, none⟩) r.jobs.length cap)) (rids P tv cv v') w (w'.setCell ⟨P, 4, none⟩ v') ∧ (w'.setCell ⟨P, 4, none⟩ v').heap[w.heap.size + 1]? = some (.cells #[.int .i64 (jx.ten : Int), .string jx.name, .int .i64 (jx.cost : Int)] 34 (0, 0)) ∧ (w'.setCell ⟨P, 4, none⟩ v').heap[w.heap.size]? = some (.cells #[.int .i64 0, .string ⟨#[]⟩, .int .i64 0] 34 (0, 0)) ∧ ¬ w.heap.size ∈ rids P tv cv v') := ⟨f1, hUp.trans f2, hJb, hJc, fun e => by
    have hW8 : w.heap.size + 1 < W.heap.size := (Array.getElem?_eq_some_iff.1 HL8.out).1
    rw [rids_last] at e
    rcases List.mem_append.1 e with e | e
    · have := (HH.out.1.lt _ (by rw [rids_last]; exact List.mem_append_left _ e)).2
      omega
    · have e2 := mem_ob.1 e
      rcases hat with a | a
      · rw [a] at e2
        have := Option.some.inj e2
        omega
      · rw [a] at e2
        have e3 : W.heap.size = w.heap.size := Option.some.inj e2
        omega⟩
  clear f1 f2 hJb hJc
  clear hi1 hrun hrow hgr hat hR hUp hi0 hz0 hz1 hz2 hWs eP hWW HH H2 b1 b2 HP1 HR HAt HL8 HL9
  go_wp2
  go_region
  rw [← hv']
  generalize (if cap = i1 then some (⟨g, 0, none⟩ : Addr) else some ⟨g, i1 * 3, none⟩) = ao2 at *
  obtain ⟨f1, f2, f3, f4⟩ := HF.out
  generalize w'.setCell ⟨P, 4, none⟩ v' = W2 at *
  have j0 : W2.cell? ⟨w.heap.size + 1, 0, none⟩ = some (.int .i64 (jx.ten : Int)) := by rw [Lib.cell_of_heap f3]; rfl
  have j1 : W2.cell? ⟨w.heap.size + 1, 1, none⟩ = some (.string jx.name) := by rw [Lib.cell_of_heap f3]; rfl
  have j2 : W2.cell? ⟨w.heap.size + 1, 2, none⟩ = some (.int .i64 (jx.cost : Int)) := by rw [Lib.cell_of_heap f3]; rfl
  have hcl : (cut1 r.jobs i).length ≤ 100000 := by unfold cut1; rw [List.length_append, List.length_take, List.length_drop]; omega
  have HFi : Hid (Calls Try.prog 30 #[.pointer (some ⟨P, 0, none⟩), .int .i64 (jx.ten : Int)] W2 fun e w' => e = .returned (.int .i64 (jat (cut1 r.jobs i) (fun x => decide ((x.ten : Int) = (jx.ten : Int))))) ∧ ∃ m, w' = W2.drewN m) := First_any P jx.ten v' (cut1 r.jobs i) W2 (f1.c 4 v' rfl) f1.jobs.readJ hcl
  have HE : Hid (∀ m, RS B P tv cv v' ((((W2.drewN m).setCell ⟨w.heap.size, 0, none⟩ (.int .i64 (jx.ten : Int))).setCell ⟨w.heap.size, 1, none⟩ (.string jx.name)).setCell ⟨w.heap.size, 2, none⟩ (.int .i64 (jx.cost : Int))) { r with jobs := cut1 r.jobs i } ∧ Upd (rids P tv cv (.slice (some ⟨g, 0, none⟩) r.jobs.length cap)) (rids P tv cv v') w ((((W2.drewN m).setCell ⟨w.heap.size, 0, none⟩ (.int .i64 (jx.ten : Int))).setCell ⟨w.heap.size, 1, none⟩ (.string jx.name)).setCell ⟨w.heap.size, 2, none⟩ (.int .i64 (jx.cost : Int)))) := fun m => by
    have hfar : ∀ k : Nat, k ≠ w.heap.size → ((((W2.drewN m).setCell ⟨w.heap.size, 0, none⟩ (.int .i64 (jx.ten : Int))).setCell ⟨w.heap.size, 1, none⟩ (.string jx.name)).setCell ⟨w.heap.size, 2, none⟩ (.int .i64 (jx.cost : Int))).heap[k]? = W2.heap[k]? := fun k hk => (Below.heap_setCell _ ⟨w.heap.size, 2, none⟩ _ k hk).trans ((Below.heap_setCell _ ⟨w.heap.size, 1, none⟩ _ k hk).trans (Below.heap_setCell _ ⟨w.heap.size, 0, none⟩ _ k hk))
    refine ⟨f1.keep fun k hk => hfar k fun e => f4.2 (by rw [← e]; exact hk), ⟨f2.os, f2.tape, f2.output, ?_, fun k h1 h2 => (hfar k (by omega)).trans (f2.block k h1 h2), f2.new⟩⟩
    have e : ((((W2.drewN m).setCell ⟨w.heap.size, 0, none⟩ (.int .i64 (jx.ten : Int))).setCell ⟨w.heap.size, 1, none⟩ (.string jx.name)).setCell ⟨w.heap.size, 2, none⟩ (.int .i64 (jx.cost : Int))).heap.size = W2.heap.size := by simp [World.setCell, World.drewN]
    rw [e]
    exact f2.size
  generalize jat (cut1 r.jobs i) (fun x => decide ((x.ten : Int) = (jx.ten : Int))) = z at *
  have hz : ¬ z < 0 := by omega
  have x0 : W2.cell? ⟨w.heap.size, 0, none⟩ = some (.int .i64 0) := by rw [Lib.cell_of_heap f4.1]; rfl
  have x1 : W2.cell? ⟨w.heap.size, 1, none⟩ = some (.string ⟨#[]⟩) := by rw [Lib.cell_of_heap f4.1]; rfl
  have x2 : W2.cell? ⟨w.heap.size, 2, none⟩ = some (.int .i64 0) := by rw [Lib.cell_of_heap f4.1]; rfl
  have y0 : W2.frozen? ⟨w.heap.size, 0, none⟩ = false := Lib.frozen_of_heap f4.1 0
  have y1 : W2.frozen? ⟨w.heap.size, 1, none⟩ = false := Lib.frozen_of_heap f4.1 1
  have y2 : W2.frozen? ⟨w.heap.size, 2, none⟩ = false := Lib.frozen_of_heap f4.1 2
  have HG : Hid (∀ m, ((((W2.drewN m).setCell ⟨w.heap.size, 0, none⟩ (.int .i64 (jx.ten : Int))).setCell ⟨w.heap.size, 1, none⟩ (.string jx.name)).setCell ⟨w.heap.size, 2, none⟩ (.int .i64 (jx.cost : Int))).heap[w.heap.size]? = some (.cells #[.int .i64 (jx.ten : Int), .string jx.name, .int .i64 (jx.cost : Int)] 34 (0, 0))) := fun m => by
    have e1 : ((W2.drewN m).setCell ⟨w.heap.size, 0, none⟩ (.int .i64 (jx.ten : Int))).heap[w.heap.size]? = some (.cells #[.int .i64 (jx.ten : Int), .string ⟨#[]⟩, .int .i64 0] 34 (0, 0)) := by rw [Go.Joins.block_setCell (w := W2.drewN m) f4.1]; rfl
    have e2 : (((W2.drewN m).setCell ⟨w.heap.size, 0, none⟩ (.int .i64 (jx.ten : Int))).setCell ⟨w.heap.size, 1, none⟩ (.string jx.name)).heap[w.heap.size]? = some (.cells #[.int .i64 (jx.ten : Int), .string jx.name, .int .i64 0] 34 (0, 0)) := by rw [Go.Joins.block_setCell e1]; rfl
    rw [Go.Joins.block_setCell e2]
    rfl
  clear f1 f2 f3 f4 HF r1 r2 hap c4 hcl hf
  go_wp2_with fail
  refine HFi.out.mono ?_
  rintro e w3 ⟨rfl, m, rfl⟩
  go_wp2
  have hG := HG.out m
  have g0 : ((((W2.drewN m).setCell ⟨w.heap.size, 0, none⟩ (.int .i64 (jx.ten : Int))).setCell ⟨w.heap.size, 1, none⟩ (.string jx.name)).setCell ⟨w.heap.size, 2, none⟩ (.int .i64 (jx.cost : Int))).cell? ⟨w.heap.size, 0, none⟩ = some (.int .i64 (jx.ten : Int)) := by rw [Lib.cell_of_heap hG]; rfl
  have g1 : ((((W2.drewN m).setCell ⟨w.heap.size, 0, none⟩ (.int .i64 (jx.ten : Int))).setCell ⟨w.heap.size, 1, none⟩ (.string jx.name)).setCell ⟨w.heap.size, 2, none⟩ (.int .i64 (jx.cost : Int))).cell? ⟨w.heap.size, 1, none⟩ = some (.string jx.name) := by rw [Lib.cell_of_heap hG]; rfl
  have g2 : ((((W2.drewN m).setCell ⟨w.heap.size, 0, none⟩ (.int .i64 (jx.ten : Int))).setCell ⟨w.heap.size, 1, none⟩ (.string jx.name)).setCell ⟨w.heap.size, 2, none⟩ (.int .i64 (jx.cost : Int))).cell? ⟨w.heap.size, 2, none⟩ = some (.int .i64 (jx.cost : Int)) := by rw [Lib.cell_of_heap hG]; rfl
  have hEm := HE.out m
  generalize ((((W2.drewN m).setCell ⟨w.heap.size, 0, none⟩ (.int .i64 (jx.ten : Int))).setCell ⟨w.heap.size, 1, none⟩ (.string jx.name)).setCell ⟨w.heap.size, 2, none⟩ (.int .i64 (jx.cost : Int))) = W5 at *
  refine bodyPost_ret (v := .agg #[.int .i64 (jx.ten : Int), .string jx.name, .int .i64 (jx.cost : Int)]) (by simp [results, Try.results34, go_sem, g0, g1, g2]) rfl ?_
  exact ⟨rfl, v', hEm⟩
end Go.Proofs.Ytfddhdpnoliamaa
