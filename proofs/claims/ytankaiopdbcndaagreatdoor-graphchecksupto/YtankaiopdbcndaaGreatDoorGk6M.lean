/- Check of targets among files. -/
import Derived.Test.YtankaiopdbcndaaGreatDoorGk5M
import Derived.Test.YtankaiopdbcndaaGreatDoorGq7M
import Derived.Test.YtankaiopdbcndaaGreatDoorTc7
namespace Go.Proofs.YtankaiopdbcndaaGreatDoor
open Go.RowKit Go.Shelf Go.Maps Go.WideMaps
/-- The first target's error. -/
def gkF (F : List (List UInt8)) : List ByteArray → List Tg → Option (ByteArray × Int)
  | _, [] => none
  | T, t :: l => if teF F T t = 0 then gkF F (tkF T t.os).2 l else some (t.nm, teF F T t)
/-- What Check tells; b: there is a circle. -/
def gcV (FL : List Fl) (L : List Tg) (b : Bool) : ByteArray × Int :=
  if chF FL = 0 then (if ckN L = 0 then ((gkF (FL.map pth) (FL.map (·.pa)) L).getD (⟨#[]⟩, if b = true then 10 else 0)) else (⟨#[]⟩, ckN L)) else (⟨#[]⟩, chF FL)
theorem teF_congr {F F' : List (List UInt8)} (h : ∀ k, k ∈ F ↔ k ∈ F') (T : List ByteArray) (t : Tg) : teF F T t = teF F' T t := by
  unfold teF
  have e : (fun x : ByteArray => !decide (tl x ∈ F)) = fun x => !decide (tl x ∈ F') := funext fun x => by
    congr 1
    rw [Bool.eq_iff_iff]
    simp [h]
  rw [e]
theorem gkF_congr {F F' : List (List UInt8)} (h : ∀ k, k ∈ F ↔ k ∈ F') : ∀ (T : List ByteArray) (L : List Tg), gkF F T L = gkF F' T L
  | _, [] => rfl
  | T, t :: l => by rw [gkF, gkF, teF_congr h, gkF_congr h]
theorem tkF_len : ∀ (T l : List ByteArray), (tkF T l).2.length ≤ T.length + l.length
  | T, [] => by simp [tkF]
  | T, x :: l => by
    rw [tkF]
    split
    · simp
    · have := tkF_len (T ++ [x]) l
      simp at this ⊢
      omega
theorem teF_few {F : List (List UInt8)} {T : List ByteArray} {t : Tg} (h : teF F T t = 0) : t.os.length ≤ 60 := by
  unfold teF at h
  split at h
  · exact absurd h (by decide)
  · split at h
    · exact absurd h (by decide)
    · split at h
      · exact absurd h (by decide)
      · rename_i h3
        omega
theorem chF_sz {FL : List Fl} (h : chF FL = 0) : FL.length ≤ 60 ∧ ∀ f ∈ FL, f.pa.size ≤ 100 := by
  unfold chF at h
  split at h
  · exact absurd h (by decide)
  · rename_i h1
    refine ⟨by omega, fun f hf => ?_⟩
    split at h
    · rename_i h2
      have := flEs_all h2 f hf
      unfold flE at this
      split at this
      · exact absurd this (by decide)
      · rename_i h3
        rw [Bool.not_eq_false] at h3
        unfold pathOk at h3
        rw [Bool.and_eq_true, decide_eq_true_eq] at h3
        exact h3.1
    · rename_i h2
      exact absurd h h2
/-- How Check ends. -/
def GkP (FL : List Fl) (L : List Tg) (w : World) (e : Ending) (w' : World) : Prop := ∃ b : Bool, (ckN L = 0 → (b = true ↔ ∃ k, k ∈ L.map tnm ∧ Rp (ndT (nfL L)) k k)) ∧ e = .returned (.tuple #[.string (gcV FL L b).1, .int .i64 (gcV FL L b).2]) ∧ Below w.heap.size w w'
theorem gk_any (FL : List Fl) (L : List Tg) {r : ByteArray × Int} {w w' : World} (hb : Below w.heap.size w w') (h : ∀ b, gcV FL L b = r) : GkP FL L w (.returned (.tuple #[.string r.1, .int .i64 r.2])) w' :=
  ⟨@decide (∃ k, k ∈ L.map tnm ∧ Rp (ndT (nfL L)) k k) (Classical.propDecidable _), fun _ => by simp, by rw [h], hb⟩

set_option maxHeartbeats 4000000 in
set_option maxRecDepth 100000 in
theorem gCheck_any (ao : Option Addr) (cap : Nat) (L : List Tg) (fo : Option Addr) (fc : Nat) (FL : List Fl) (w : World) (h : Fine w ao L) (hss : ∀ t ∈ L, ∀ s ∈ t.ss, s.size ≤ maxLen) (hf : IsFl w fo FL) (hm : MaxIs w) :
    Calls Tryz.prog 27 #[.slice ao L.length cap, .slice fo FL.length fc] w (GkP FL L w) := by
  have HT : Hid (Calls Tryz.prog 40 #[.slice fo FL.length fc] w fun e w' => e = .returned (.int .i64 (chF FL)) ∧ Hid (Below w.heap.size w w')) := (Check_any fo fc FL w hf hm).mono fun e w' h => ⟨h.1, h.2⟩
  have H1 : Hid (∀ W, Below w.heap.size w W → Calls Tryz.prog 29 #[.slice ao L.length cap] W (NdP L W)) := fun W hb => needsOf_any ao cap L W (h.is.below hb (Nat.le_refl _)) h.len h.sz
  by_cases c0 : chF FL = 0
  · by_cases k0 : ckN L = 0
    · have hN := ckN_ok.1 k0
      obtain ⟨hfl, hfs⟩ := chF_sz c0
      have HP : Hid (∀ W, Below w.heap.size w W → Calls Tryz.prog 41 #[.slice fo FL.length fc] W fun e w' => ∃ P, e = .returned (pt P) ∧ PlP P FL W w') := fun W hb => newPlaces_any fo fc FL W (hf.below hb (Nat.le_refl _)) hfl (fun f hf2 => by have := hfs f hf2; unfold maxLen; omega)
      have HC : Hid (∀ M n w1 w2, w1.ownsMap Tryz.prog 9 slE M n (ndD L) → n ≤ 60 → Below w.heap.size w w1 → Below w1.heap.size w1 w2 → Calls Tryz.prog 33 #[.map (some M)] w2 (CrP (nfL L) (L.map tnm) w2)) := fun M n w1 w2 g1 g2 g3 g4 => circle_any M n (ndD L) (nfL L) (lfL L) (L.map tnm) w2 ((lt_of g1 (fun t ht => ((h.is.tx t ht).2.1).below g3 (Nat.le_refl _)) h.sz).below g4 (Nat.le_refl _)) g2 (by rw [List.length_map]; exact hN.len) hN.nod (fun k => has_mem.symm) hN.cl (fun k hk2 => by
        obtain ⟨t, ht, rfl⟩ := List.mem_map.1 hk2
        exact h.nm t ht)
      have HTE : Hid (∀ P M F T v t w1 wr, t ∈ L → Below w.heap.size w w1 → PS P M F T v w1 wr → T.length ≤ 100000 → Calls Tryz.prog 42 #[pt P, encT t] wr fun e w' => e = .returned (.int .i64 (teF F T t)) ∧ Hid ((teF F T t = 0 → ∃ v', PS P M F (tkF T t.os).2 v' w1 w') ∧ Below w1.heap.size w1 w' ∧ ∃ v', Kp P v wr v' w')) := fun P M F T v t w1 wr ht hb hps hl => by
        obtain ⟨x1, x2, x3, x4⟩ := h.is.tx t ht
        exact (targetError_any P M F T v t w1 wr hps (hm.up hb) ⟨x1.below hb (Nat.le_refl _), x2.below hb (Nat.le_refl _), x3.below hb (Nat.le_refl _), x4.below hb (Nat.le_refl _)⟩ (hss t ht) hl).mono fun e w' q => ⟨q.1, q.2.1, q.2.2.out⟩
      have hln := hN.len
      have hli : (L.length : Int) ≤ 60 := by omega
      have HV : Hid (∀ b r, (gkF (FL.map pth) (FL.map (·.pa)) L).getD (⟨#[]⟩, if b = true then 10 else 0) = r → gcV FL L b = r) := fun b r hr => by
        unfold gcV
        rw [if_pos c0, if_pos k0]
        exact hr
      have HF : Hid (IsTg w ao L) := h.is
      rw [c0] at HT
      clear h hss hf hm hN hfs c0
      go_enter Tryz.func27, Tryz.ntmps27
      go_wp2_with fail
      refine HT.out.mono ?_
      rintro e w1 ⟨rfl, G1⟩
      have HN := H1.out w1 G1.out
      unfold NdP at HN
      rw [k0] at HN
      clear HT H1
      go_wp2_with fail
      refine HN.mono ?_
      rintro e w2 ⟨mo, rfl, -, g2, g3⟩
      obtain ⟨M, n, rfl, g4, g5, g6⟩ := g2 (by first | exact rfl | exact trivial)
      have HB2 : Hid (Below w.heap.size w w2) := G1.out.trans (g3.mono G1.out.size)
      have HCi : Hid (∀ w3, Below w2.heap.size w2 w3 → Calls Tryz.prog 33 #[.map (some M)] w3 (CrP (nfL L) (L.map tnm) w3)) := fun w3 hb => HC.out M n w2 w3 g6 g5 HB2.out hb
      have HPl := HP.out w2 HB2.out
      clear g2 g3 g4 g5 g6 G1 HN HC HP
      go_wp2_with fail
      refine HPl.mono ?_
      rintro e w3 ⟨P, rfl, hpl⟩
      obtain ⟨Mp, F, v, hF, hps⟩ := hpl
      have HI : Hid (∃ T' v', PS P Mp F T' v' w2 w3 ∧ gkF (FL.map pth) (FL.map (·.pa)) L = gkF F T' (L.drop 0) ∧ T'.length ≤ 60 + 0 * 60) := ⟨_, v, hps, by rw [List.drop_zero]; exact (gkF_congr hF _ _).symm, by rw [List.length_map]; omega⟩
      clear hF hps HPl
      unfold pt
      go_wp2
      go_loopw [30] (fun i wr => ∃ k : Nat, k ≤ L.length ∧ i = .int .i64 (k : Int) ∧ Hid (∃ T' v', PS P Mp F T' v' w2 wr ∧ gkF (FL.map pth) (FL.map (·.pa)) L = gkF F T' (L.drop k) ∧ T'.length ≤ 60 + k * 60)) (fun i _ => L.length - (intOf i).toNat)
      case atStart => exact ⟨0, Nat.zero_le _, rfl, HI⟩
      case round =>
        clear HI
        obtain ⟨k, hk, rfl, HI⟩ := hrel
        obtain ⟨T', v', hps, he, hT⟩ := HI.out
        clear HI
        by_cases hlt : k < L.length
        · have hki : (k : Int) < (L.length : Int) := by omega
          rcases HF.out.at_ with h | ⟨g, o, rfl, hg, hcc⟩
          · exfalso; rw [h] at hlt; exact absurd hlt (by simp)
          have hb : Below w.heap.size w wr := HB2.out.trans (hps.bel.mono HB2.out.size)
          obtain ⟨z0, z1, z2, z3, z4⟩ := hcc.below hb hg k hlt
          rw [List.drop_eq_getElem_cons hlt, gkF] at he
          have hmem : L[k] ∈ L := List.getElem_mem hlt
          have hsl := HF.out.tx _ hmem
          generalize hx : L[k] = t at z0 z1 z2 z3 z4 he hmem hsl
          obtain ⟨W, hW⟩ : ∃ W, W = wr.alloc (.cells #[.string t.nm, t.vs, t.vn, t.vo, t.vc] 38) := ⟨_, rfl⟩
          have hWb : Below wr.heap.size wr W := by rw [hW]; exact (Below.refl _ wr).alloc (Nat.le_refl _) _
          have hWc : W.heap[wr.heap.size]? = some (.cells #[.string t.nm, t.vs, t.vn, t.vo, t.vc] 38 (0, 0)) := by rw [hW]; exact heap_alloc_new wr _
          have HTa := HTE.out P Mp F T' v' t w2 W hmem HB2.out (hps.below hWb) (by omega)
          have HT2 : Hid (teF F T' t = 0 → gkF (FL.map pth) (FL.map (·.pa)) L = gkF F (tkF T' t.os).2 (L.drop (k + 1)) ∧ (tkF T' t.os).2.length ≤ 60 + (k + 1) * 60) := fun e => by
            rw [if_pos e] at he
            have := tkF_len T' t.os
            have := teF_few e
            exact ⟨he, by omega⟩
          have HT3 : Hid (teF F T' t ≠ 0 → ∀ b, gcV FL L b = (t.nm, teF F T' t)) := fun e b => HV.out b _ (by rw [he, if_neg e]; rfl)
          have HWc : Hid (W.heap[wr.heap.size]? = some (.cells #[.string t.nm, t.vs, t.vn, t.vo, t.vc] 38 (0, 0))) := hWc
          obtain ⟨s1, s2, s3, s4⟩ := hsl
          obtain ⟨a1, n1, q1, e1⟩ := s1.1
          obtain ⟨a2, n2, q2, e2⟩ := s2.1
          obtain ⟨a3, n3, q3, e3⟩ := s3.1
          obtain ⟨a4, n4, q4, e4⟩ := s4.1
          have HNb : Hid (wr.heap.size ≠ P ∧ v'.ownBlock ≠ some wr.heap.size) := ⟨fun e => by have := blk_lt hps.c; omega, fun e => by have := (hps.row.lt _ e).2; omega⟩
          have HBW : Hid (∀ w', Below w2.heap.size w2 w' → Below w.heap.size w w') := fun w' hb => HB2.out.trans (hb.mono HB2.out.size)
          clear hps he hT hb hWb hWc s1 s2 s3 s4 hmem hx HTE hcc hg
          obtain ⟨nm, vs, vn, vo, vc, ss, ns, os, cs⟩ := t
          simp only at z0 z1 z2 z3 z4 e1 e2 e3 e4 HTa HT2 HT3 HWc hW
          subst e1 e2 e3 e4
          subst hW
          unfold encT pt at HTa
          simp only at HTa
          generalize teF F T' _ = te at *
          by_cases ht0 : te = 0
          · subst ht0
            go_wp2_with fail
            refine HTa.mono ?_
            rintro e w4 ⟨rfl, G4⟩
            have HE : Hid (∃ T' v', PS P Mp F T' v' w2 w4 ∧ gkF (FL.map pth) (FL.map (·.pa)) L = gkF F T' (L.drop (k + 1)) ∧ T'.length ≤ 60 + (k + 1) * 60) := by
              obtain ⟨v2, hv2⟩ := G4.out.1 (by first | exact rfl | exact trivial)
              obtain ⟨y1, y2⟩ := HT2.out (by first | exact rfl | exact trivial)
              exact ⟨_, v2, hv2, y1, y2⟩
            clear G4 HT2 HT3 HTa
            go_wp2
            exact ⟨⟨k + 1, by omega, by go_num, HE⟩, by simp [intOf]; omega⟩
          · have hte : ¬ (te : Int) = 0 := ht0
            go_wp2_with fail
            refine HTa.mono ?_
            rintro e w4 ⟨rfl, G4⟩
            have HE : Hid (GkP FL L w (.returned (.tuple #[.string nm, .int .i64 te])) w4) := gk_any FL L (HBW.out _ G4.out.2.1) (HT3.out ht0)
            have hnm : w4.cell? ⟨wr.heap.size, 0, none⟩ = some (.string nm) := by
              obtain ⟨v2, hv2⟩ := G4.out.2.2
              have e := (hv2.2 wr.heap.size (blk_lt HWc.out) HNb.out.1 HNb.out.2).1.trans HWc.out
              rw [Lib.cell_of_heap e]; try rfl
            clear G4 HT2 HT3 HTa HBW
            go_wp2
            go_ret2
            exact HE.out
        · obtain rfl : k = L.length := by omega
          have hki : ¬ (L.length : Int) < (L.length : Int) := by omega
          rw [List.drop_length, gkF] at he
          have HV2 : Hid (∀ b, gcV FL L b = (⟨#[]⟩, if b = true then 10 else 0)) := fun b => HV.out b _ (by rw [he]; rfl)
          have HCa := HCi.out wr hps.bel
          have HBW : Hid (Below w.heap.size w wr) := HB2.out.trans (hps.bel.mono HB2.out.size)
          clear hps he hT HV HTE HCi HB2
          unfold CrP at HCa
          go_wp2_with fail
          refine HCa.mono ?_
          rintro e w4 ⟨fv, c, rfl, q1, q2, q3⟩
          have HB4 : Hid (Below w.heap.size w w4) := HBW.out.trans (q2.mono HBW.out.size)
          obtain ⟨va, vc, rfl⟩ := row_form q1
          have HR : Hid (∀ b : Bool, (b = true ↔ 0 < c.length) → (b = true ↔ ∃ k, k ∈ L.map tnm ∧ Rp (ndT (nfL L)) k k)) := fun b hb => by
            rw [hb]
            rcases q3 with ⟨q3, q4⟩ | ⟨rfl, q4⟩
            · have hp : 0 < c.length := by have := q3.ne; simpa using this
              refine ⟨fun _ => ⟨_, ?_, q3.loop⟩, fun _ => hp⟩
              rw [List.getElem_map]
              exact q4 _ (List.getElem_mem _)
            · refine ⟨fun h => absurd h (by simp), fun ⟨k, hk, hr⟩ => absurd hr (q4 k hk)⟩
          have hcl : (c.length : Int) ≤ 60 := by
            rcases q3 with ⟨q3, q4⟩ | ⟨rfl, q4⟩
            · have := q3.nod.length_le_of_subset (l₂ := L.map tnm) fun k hk => by
                obtain ⟨y, hy, rfl⟩ := List.mem_map.1 hk
                exact q4 y hy
              rw [List.length_map, List.length_map] at this
              omega
            · simp
          clear q1 q2 q3 HCa HBW
          by_cases hc : 0 < c.length
          · have hci : (0 : Int) < (c.length : Int) := by omega
            have HE : Hid (GkP FL L w (.returned (.tuple #[.string ⟨#[]⟩, .int .i64 10])) w4) := ⟨true, fun _ => HR.out true (by simp [hc]), by rw [HV2.out]; rfl, HB4.out⟩
            clear HR HV2 HB4
            go_wp2
            go_ret2
            exact HE.out
          · have hci : ¬ (0 : Int) < (c.length : Int) := by omega
            have HE : Hid (GkP FL L w (.returned (.tuple #[.string ⟨#[]⟩, .int .i64 0])) w4) := ⟨false, fun _ => HR.out false (by simp [hc]), by rw [HV2.out]; rfl, HB4.out⟩
            clear HR HV2 HB4
            go_wp2
            go_ret2
            exact HE.out
    · have HE : Hid (∀ w', Below w.heap.size w w' → GkP FL L w (.returned (.tuple #[.string ⟨#[]⟩, .int .i64 (ckN L)])) w') := fun w' hb => gk_any FL L hb (r := (⟨#[]⟩, ckN L)) fun b => by
        unfold gcV
        rw [if_pos c0, if_neg k0]
      rw [c0] at HT
      clear h hss hf hm
      generalize L.length = ln at *
      generalize FL.length = fln at *
      unfold NdP at H1
      generalize ckN L = c at *
      have hc1 : ¬(c : Int) = 0 := k0
      clear c0 k0
      go_enter Tryz.func27, Tryz.ntmps27
      go_wp2_with fail
      refine HT.out.mono ?_
      rintro e w1 ⟨rfl, G1⟩
      have HN := H1.out w1 G1.out
      clear HT H1
      go_wp2_with fail
      refine HN.mono ?_
      rintro e w2 ⟨mo, rfl, g1, g2, g3⟩
      have HE2 : Hid _ := HE.out w2 (G1.out.trans (g3.mono G1.out.size))
      clear g1 g2 g3 G1 HE HN
      go_wp2
      go_ret2
      exact HE2.out
  · have HE : Hid (∀ w', Below w.heap.size w w' → GkP FL L w (.returned (.tuple #[.string ⟨#[]⟩, .int .i64 (chF FL)])) w') := fun w' hb => gk_any FL L hb (r := (⟨#[]⟩, chF FL)) fun b => by
      unfold gcV
      rw [if_neg c0]
    clear h hss hf hm H1
    generalize L.length = ln at *
    generalize FL.length = fln at *
    generalize chF FL = c at *
    have hc1 : ¬(c : Int) = 0 := c0
    clear c0
    go_enter Tryz.func27, Tryz.ntmps27
    go_wp2_with fail
    refine HT.out.mono ?_
    rintro e w1 ⟨rfl, G1⟩
    have HE2 : Hid _ := HE.out w1 G1.out
    clear HT HE
    go_wp2
    go_ret2
    exact HE2.out
end Go.Proofs.YtankaiopdbcndaaGreatDoor
