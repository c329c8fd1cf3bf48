/- A tree over another: the program's. -/
import Derived.Deep.RegionHeld3
import Derived.Test.YtkmlooepakinfaaGreatDoorTf6
namespace Go.Proofs.YtkmlooepakinfaaGreatDoor
open Go.RowKit Go.Shelf Go.Maps Go.WideMaps Go.Sort

theorem okT_nodup0 {L : List Fl} (h : okT L) : (L.map pth).Nodup := List.pairwise_map.2 (h.2.2.imp fun hh e => by have := hh.1; rw [e] at this; exact List.lt_irrefl _ this)

set_option maxRecDepth 100000 in
set_option maxHeartbeats 2000000 in
theorem CollectF (g : Nat) (lb : Array Value) (eg : ∀ args w, (callFunc g args).run Tryz.prog w = .ok (.enter g args) w) (D0 : DataW Unit) (N : Nat) (hN : N ≤ 1000000) (w : World) (hseq : SeqStopsK Fence.wide 3 Tryz.prog g lb (fun f : Fl => #[encF f]) KeepsWalks (AllF D0) (fun _ => True) N w) :
    Calls Tryz.prog 65 #[.func (.func g) #[] lb] w (SqP D0 w) := by
  have HA : Hid (Calls Tryz.prog 102 #[.slice none 0 0, .func (.func g) #[] lb] w (SqP D0 w)) := (callsIn_wide (n := 4)).1 (appendSeqF g lb eg D0 N hN w hseq)
  clear eg hseq
  go_enter Tryz.func65, Tryz.ntmps65
  go_wp2_with fail
  refine HA.out.mono ?_
  rintro e w1 ⟨v, fs, rfl, h1, h2, h3⟩
  have HE : Hid (AllF D0 fs ∧ w1.ownsRow w.heap.size 25 3 v fs.length (flCells fs) ∧ Below w.heap.size w w1) := ⟨h1, h2, h3⟩
  clear h1 h2 h3
  go_wp2
  go_ret
  exact ⟨v, fs, rfl, HE.out⟩

set_option maxRecDepth 100000 in
set_option maxHeartbeats 2000000 in
theorem SortedF (g : Nat) (lb : Array Value) (eg : ∀ args w, (callFunc g args).run Tryz.prog w = .ok (.enter g args) w) (D0 : DataW Unit) (N : Nat) (hN : N ≤ 1000000) (L : List Fl) (hL : L.Pairwise fun f g => pth f < pth g) (hl : L.length ≤ 1000000) (hp : ∀ F, AllF D0 F → F.Perm L) (w : World) (hseq : SeqStopsK Fence.wide 3 Tryz.prog g lb (fun f : Fl => #[encF f]) KeepsWalks (AllF D0) (fun _ => True) N w) :
    Calls Tryz.prog 40 #[.func (.func g) #[] lb, .func (.func 27) #[] #[]] w fun e w' => ∃ v, e = .returned v ∧ w'.ownsRow w.heap.size 25 3 v L.length (flCells L) ∧ Below w.heap.size w w' := by
  have HA : Hid (Calls Tryz.prog 65 #[.func (.func g) #[] lb] w (SqP D0 w)) := CollectF g lb eg D0 N hN w hseq
  have HP : Hid (L.Pairwise (fun f g => pth f < pth g) ∧ L.length ≤ 1000000 ∧ ∀ F, AllF D0 F → F.Perm L) := ⟨hL, hl, hp⟩
  clear eg hseq hL hl hp
  go_enter Tryz.func40, Tryz.ntmps40
  go_wp2_with fail
  refine HA.out.mono ?_
  rintro e w1 ⟨v, fs, rfl, h1, h2, h3⟩
  have hpp := HP.out.2.2 fs h1
  have HS : Hid (Calls Tryz.prog 35 #[v, .func (.func 27) #[] #[]] w1 fun e w' => e = .returned (.tuple #[]) ∧ w'.ownsRow w.heap.size 25 3 v L.length (flCells L) ∧ w1.grownBy w' v.ownBlock) := sortFiles h2 HP.out.1 hpp (by have := hpp.length_eq; have := HP.out.2.1; omega)
  have HB : Hid (Below w.heap.size w w1 ∧ ∀ k, v.ownBlock = some k → w.heap.size ≤ k) := ⟨h3, fun k hk => (h2.lt k hk).1⟩
  clear h1 h2 h3 hpp HA
  go_wp2_with fail
  refine HS.out.mono ?_
  rintro e w2 ⟨rfl, h4, h5⟩
  have HE : Hid (w2.ownsRow w.heap.size 25 3 v L.length (flCells L) ∧ Below w.heap.size w w2) := ⟨h4, HB.out.1.grown h5 HB.out.1.size HB.out.2⟩
  clear h4 h5 HS
  go_wp2
  go_ret
  exact ⟨v, rfl, HE.out⟩

set_option maxRecDepth 100000 in
set_option maxHeartbeats 4000000 in
theorem laidOver_any (A C : List Fl) (hA : okT A) (hC : okT C) (bl bh nl nh : Nat) (w : World) (hl : w.ownsMap Tryz.prog 9 fileE bl nl (byD A)) (hh : w.ownsMap Tryz.prog 9 fileE bh nh (byD C)) (hnl : nl ≤ 60) (hnh : nh ≤ 60) :
    Calls Tryz.prog 19 #[.map (some bl), .map (some bh)] w fun e w' => ∃ a c, e = .returned (.slice a (ovF A C).length c) ∧ w'.ownsRow w.heap.size 25 3 (.slice a (ovF A C).length c) (ovF A C).length (flCells (ovF A C)) ∧ Below w.heap.size w w' := by
  have nA := okT_nodup0 hA
  have nC := okT_nodup0 hC
  have HC : Hid (Calls Tryz.prog 38 #[.map (some bl)] w fun e w' => e = .returned (.map (some w.heap.size)) ∧ w'.ownsMap Tryz.prog 9 fileE w.heap.size nl (byD A) ∧ w'.ownsMap Tryz.prog 9 fileE bl nl (byD A) ∧ Below w.heap.size w w') := cloneF_any _ _ bl nl (byD A) w hl
  have HH : Hid (w.ownsMap Tryz.prog 9 fileE bh nh (byD C) ∧ bh < w.heap.size) := ⟨hh, hh.lt⟩
  have HZ : Hid (Maps.size (byD C) ≤ 60) := Nat.le_trans hh.size_le hnh
  have HP : Hid ((ovF A C).Pairwise (fun f g => pth f < pth g) ∧ (ovF A C).length ≤ 1000000 ∧ ∀ D, BothD D (byD A) (byD C) → ∀ F, AllF D F → F.Perm (ovF A C)) := by
    refine ⟨ovF_up nA nC, ?_, fun D hD F hF => allF_perm hD nA nC hF⟩
    have h1 := (ovF_perm A C).length_eq
    unfold ovU at h1
    rw [List.length_append] at h1
    have h2 : (A.filter fun f => !hasP C (pth f)).length ≤ A.length := List.length_filter_le _ _
    have := hA.1
    have := hC.1
    omega
  clear hl hh hA hC nA nC
  go_enter Tryz.func19, Tryz.ntmps19
  go_wp2_with fail
  refine HC.out.mono ?_
  rintro e w1 ⟨rfl, h1, _, hb1⟩
  have HCp : Hid (Calls Tryz.prog 39 #[.map (some w.heap.size), .map (some bh)] w1 fun e w' => e = .returned (.tuple #[]) ∧ (∃ D, w'.ownsMap Tryz.prog 9 fileE w.heap.size (nl + Maps.size (byD C)) D ∧ BothD D (byD A) (byD C)) ∧ w1.grownBy w' (some w.heap.size)) := Copy_any w.heap.size bh nl nh (byD A) (byD C) w1 h1 (ownsMap_heap HH.out.1 (hb1.block bh HH.out.2)) (by have := HH.out.2; omega) (by have := HZ.out; unfold maxLen; omega)
  have HB1 : Hid (Below w.heap.size w w1) := hb1
  clear h1 hb1 HC HH
  go_wp2_with fail
  refine HCp.out.mono ?_
  rintro e w2 ⟨rfl, ⟨D, hD, hBoth⟩, hg2⟩
  have HB2 : Hid (Below w.heap.size w w2) := HB1.out.grown hg2 HB1.out.size (fun k hk => by cases hk; exact Nat.le_refl _)
  have HD : Hid (w2.ownsMap Tryz.prog 9 fileE w.heap.size (nl + Maps.size (byD C)) D) := hD
  have HPD : Hid (∀ F, AllF D F → F.Perm (ovF A C)) := HP.out.2.2 D hBoth
  have HV : Hid (Calls Tryz.prog 41 #[.map (some w.heap.size)] w2 fun e w' => e = .returned (.func (.func 66) #[] #[.pointer (some ⟨w2.heap.size, 0, none⟩)]) ∧ w' = w2.alloc (.cells #[.map (some w.heap.size)] 44)) := Values_any (some w.heap.size) w2
  clear hD hBoth hg2 HCp HB1
  go_wp2_with fail
  refine HV.out.mono ?_
  rintro e w3 ⟨rfl, hw3⟩
  have hb3 : Below w2.heap.size w2 w3 := by rw [hw3]; exact (Below.refl _ w2).alloc (Nat.le_refl _) _
  have hsz3 : w3.heap.size = w2.heap.size + 1 := by rw [hw3]; exact World.size_alloc _ _
  have hD3 : w3.ownsMap Tryz.prog 9 fileE w.heap.size (nl + Maps.size (byD C)) D := ownsMap_heap HD.out (hb3.block _ HD.out.lt)
  have hc3 : w3.cell? ⟨w2.heap.size, 0, none⟩ = some (.map (some w.heap.size)) := by rw [hw3]; exact Lib.cell_of_heap (heap_alloc_new w2 _) 0
  have HS : Hid (Calls Tryz.prog 40 #[.func (.func 66) #[] #[.pointer (some ⟨w2.heap.size, 0, none⟩)], .func (.func 27) #[] #[]] w3 fun e w' => ∃ v, e = .returned v ∧ w'.ownsRow w3.heap.size 25 3 v (ovF A C).length (flCells (ovF A C)) ∧ Below w3.heap.size w3 w') :=
    SortedF 66 #[.pointer (some ⟨w2.heap.size, 0, none⟩)] (enters_of Tryz.func66 (by kernel_rfl) rfl) D (Maps.size D) (Nat.le_trans hD3.size_le (by have := HZ.out; omega)) (ovF A C) HP.out.1 HP.out.2.1 HPD.out w3
      (values1 Fence.wide 3 trivial rfl (by decide) w2.heap.size w.heap.size (nl + Maps.size (byD C)) D w3 (by omega) hc3 hD3)
  have HB3 : Hid (Below w.heap.size w w3) := HB2.out.trans (hb3.mono HB2.out.size)
  clear hb3 hsz3 hD3 hc3 hw3 HV HD HPD
  go_wp2_with fail
  refine HS.out.mono ?_
  rintro e w4 ⟨v, rfl, hr4, hb4⟩
  obtain ⟨a, c, rfl⟩ := own_shape hr4
  have HE : Hid (w4.ownsRow w.heap.size 25 3 (.slice a (ovF A C).length c) (ovF A C).length (flCells (ovF A C)) ∧ Below w.heap.size w w4) := ⟨own_mono hr4 HB3.out.size, HB3.out.trans (hb4.mono HB3.out.size)⟩
  clear hr4 hb4 HS
  go_wp2
  go_ret
  exact ⟨a, c, rfl, HE.out⟩

/-- What Over answers. -/
def ovE (A C : List Fl) : Int := if erF A C ≠ 0 then erF A C else if (thruF A C || thruF C A) = true then 6 else if 60 < (ovF A C).length then 2 else 0
def ovL (A C : List Fl) : List Fl := if ovE A C = 0 then ovF A C else []

set_option maxHeartbeats 8000000 in
set_option maxRecDepth 100000 in
theorem Over_any (ao co : Option Addr) (ac cc : Nat) (A C : List Fl) (w : World) (ha : IsFl w ao A) (hc : IsFl w co C) (hm : MaxIs w) :
    Calls Tryz.prog 5 #[.slice ao A.length ac, .slice co C.length cc] w (RsP (ovE A C) (ovL A C) w) := by
  have hAb : Below w.heap.size w (w.alloc (.cells #[.slice ao A.length ac, .slice co C.length cc] 22)) := (Below.refl _ w).alloc (Nat.le_refl _) _
  have HF1 : Hid (Calls Tryz.prog 16 #[.slice (some ⟨w.heap.size, 0, none⟩) 2 2] (w.alloc (.cells #[.slice ao A.length ac, .slice co C.length cc] 22)) fun e w' => e = .returned (.int .i64 (erF A C)) ∧ Below w.heap.size w w') := by
    refine (firstError_two ao co ac cc A C w.heap.size _ (ha.below hAb (Nat.le_refl _)) (hc.below hAb (Nat.le_refl _)) (hm.up hAb) (al_at w _ _ _ 0 _ rfl rfl) (al_at w _ _ _ 1 _ rfl rfl)).mono ?_
    rintro e w' ⟨rfl, hb⟩
    exact ⟨rfl, hAb.trans (hb.mono hAb.size)⟩
  clear hAb
  by_cases h0 : erF A C = 0
  · obtain ⟨hA, hC⟩ := erF_zero h0
    have oA := okT_of hA
    have oC := okT_of hC
    have pA := ok_paths oA
    have pC := ok_paths oC
    rw [h0] at HF1
    have HBA : Hid (∀ W, Below w.heap.size w W → Calls Tryz.prog 17 #[.slice ao A.length ac] W fun e w' => e = .returned (.map (some W.heap.size)) ∧ w'.ownsMap Tryz.prog 9 fileE W.heap.size A.length (byD A) ∧ Below W.heap.size W w') := fun W hW => byPath_any ao ac A W (by have := oA.1; omega) (ha.below hW (Nat.le_refl _)) (fun f hf => by have := pA f hf; unfold maxLen; omega)
    have HBC : Hid (∀ W, Below w.heap.size w W → Calls Tryz.prog 17 #[.slice co C.length cc] W fun e w' => e = .returned (.map (some W.heap.size)) ∧ w'.ownsMap Tryz.prog 9 fileE W.heap.size C.length (byD C) ∧ Below W.heap.size W w') := fun W hW => byPath_any co cc C W (by have := oC.1; omega) (hc.below hW (Nat.le_refl _)) (fun f hf => by have := pC f hf; unfold maxLen; omega)
    have HGA : Hid (∀ M n W, Below w.heap.size w W → W.ownsMap Tryz.prog 9 fileE M n (byD C) → Calls Tryz.prog 18 #[.slice ao A.length ac, .map (some M)] W fun e w' => e = .returned (.bool (thruF A C)) ∧ Below W.heap.size W w') := fun M n W hW hM => by
      have := someGo_any ao ac A M n (byD C) W (by have := oA.1; omega) (ha.below hW (Nat.le_refl _)) (fun f hf => by have := pA f hf; omega) hM
      rw [anyD] at this
      exact this
    have HGC : Hid (∀ M n W, Below w.heap.size w W → W.ownsMap Tryz.prog 9 fileE M n (byD A) → Calls Tryz.prog 18 #[.slice co C.length cc, .map (some M)] W fun e w' => e = .returned (.bool (thruF C A)) ∧ Below W.heap.size W w') := fun M n W hW hM => by
      have := someGo_any co cc C M n (byD A) W (by have := oC.1; omega) (hc.below hW (Nat.le_refl _)) (fun f hf => by have := pC f hf; omega) hM
      rw [anyD] at this
      exact this
    have HLO : Hid (∀ bl bh W, W.ownsMap Tryz.prog 9 fileE bl A.length (byD A) → W.ownsMap Tryz.prog 9 fileE bh C.length (byD C) → Calls Tryz.prog 19 #[.map (some bl), .map (some bh)] W fun e w' => ∃ a c, e = .returned (.slice a (ovF A C).length c) ∧ w'.ownsRow W.heap.size 25 3 (.slice a (ovF A C).length c) (ovF A C).length (flCells (ovF A C)) ∧ Below W.heap.size W w') := fun bl bh W h1 h2 => laidOver_any A C oA oC bl bh A.length C.length W h1 h2 oA.1 oC.1
    have HE6 : Hid ((thruF A C || thruF C A) = true → ovE A C = 6 ∧ ovL A C = []) := fun h => by
      have e : ovE A C = 6 := by unfold ovE; rw [if_neg (by simp [h0]), if_pos h]
      exact ⟨e, by unfold ovL; rw [e, if_neg (by decide)]⟩
    have HE2 : Hid ((thruF A C || thruF C A) = false → 60 < (ovF A C).length → ovE A C = 2 ∧ ovL A C = []) := fun h h2 => by
      have e : ovE A C = 2 := by unfold ovE; rw [if_neg (by simp [h0]), if_neg (by rw [h]; decide), if_pos h2]
      exact ⟨e, by unfold ovL; rw [e, if_neg (by decide)]⟩
    have HE0 : Hid ((thruF A C || thruF C A) = false → ¬ 60 < (ovF A C).length → ovE A C = 0 ∧ ovL A C = ovF A C) := fun h h2 => by
      have e : ovE A C = 0 := by unfold ovE; rw [if_neg (by simp [h0]), if_neg (by rw [h]; decide), if_neg h2]
      exact ⟨e, by unfold ovL; rw [e, if_pos rfl]⟩
    clear ha hc hm hA hC oA oC pA pC h0
    go_enter Tryz.func5, Tryz.ntmps5
    go_wp2_with fail
    refine HF1.out.mono ?_
    rintro e w1 ⟨rfl, hb1⟩
    have HB1 : Hid (Below w.heap.size w w1) := hb1
    clear hb1 HF1
    go_wp2_with fail
    refine (HBA.out _ HB1.out).mono ?_
    rintro e w2 ⟨rfl, hm2, hb2⟩
    have HB2 : Hid (Below w.heap.size w w2) := HB1.out.trans (hb2.mono HB1.out.size)
    have HM2 : Hid (w2.ownsMap Tryz.prog 9 fileE w1.heap.size A.length (byD A)) := hm2
    clear hm2 hb2
    go_wp2_with fail
    refine (HBC.out _ HB2.out).mono ?_
    rintro e w3 ⟨rfl, hm3, hb3⟩
    have HB3 : Hid (Below w.heap.size w w3) := HB2.out.trans (hb3.mono HB2.out.size)
    have HMA3 : Hid (w3.ownsMap Tryz.prog 9 fileE w1.heap.size A.length (byD A)) := ownsMap_heap HM2.out (hb3.block _ HM2.out.lt)
    have HMC3 : Hid (w3.ownsMap Tryz.prog 9 fileE w2.heap.size C.length (byD C)) := hm3
    clear hm3 hb3 HM2 HBA HBC
    go_wp2_with fail
    refine (HGA.out _ _ _ HB3.out HMC3.out).mono ?_
    rintro e w4 ⟨rfl, hb4⟩
    have HB4 : Hid (Below w.heap.size w w4) := HB3.out.trans (hb4.mono HB3.out.size)
    have HMA4 : Hid (w4.ownsMap Tryz.prog 9 fileE w1.heap.size A.length (byD A)) := ownsMap_heap HMA3.out (hb4.block _ HMA3.out.lt)
    have HMC4 : Hid (w4.ownsMap Tryz.prog 9 fileE w2.heap.size C.length (byD C)) := ownsMap_heap HMC3.out (hb4.block _ HMC3.out.lt)
    clear hb4 HMA3 HMC3 HGA
    cases h1 : thruF A C with
    | true =>
      have HZ : Hid (ovE A C = 6 ∧ ovL A C = []) := HE6.out (by rw [h1]; rfl)
      clear h1
      go_wp2
      refine bodyPost_ret (v := .tuple #[.slice none 0 0, .int .i64 6]) (by simp [results, Tryz.results5, go_sem]) rfl ?_
      rw [HZ.out.1, HZ.out.2]
      exact RsP_nil 6 HB4.out
    | false =>
      rw [h1] at HE6 HE2 HE0
      clear h1
      go_wp2_with fail
      refine (HGC.out _ _ _ HB4.out HMA4.out).mono ?_
      rintro e w5 ⟨rfl, hb5⟩
      have HB5 : Hid (Below w.heap.size w w5) := HB4.out.trans (hb5.mono HB4.out.size)
      have HMA5 : Hid (w5.ownsMap Tryz.prog 9 fileE w1.heap.size A.length (byD A)) := ownsMap_heap HMA4.out (hb5.block _ HMA4.out.lt)
      have HMC5 : Hid (w5.ownsMap Tryz.prog 9 fileE w2.heap.size C.length (byD C)) := ownsMap_heap HMC4.out (hb5.block _ HMC4.out.lt)
      clear hb5 HMA4 HMC4 HGC
      cases h2 : thruF C A with
      | true =>
        have HZ : Hid (ovE A C = 6 ∧ ovL A C = []) := HE6.out (by rw [h2]; rfl)
        clear h2
        go_wp2
        refine bodyPost_ret (v := .tuple #[.slice none 0 0, .int .i64 6]) (by simp [results, Tryz.results5, go_sem]) rfl ?_
        rw [HZ.out.1, HZ.out.2]
        exact RsP_nil 6 HB5.out
      | false =>
        rw [h2] at HE2 HE0
        clear h2
        go_wp2_with fail
        refine (HLO.out _ _ _ HMA5.out HMC5.out).mono ?_
        rintro e w6 ⟨a, c, rfl, hr6, hb6⟩
        have HB6 : Hid (Below w.heap.size w w6) := HB5.out.trans (hb6.mono HB5.out.size)
        have HR6 : Hid (w6.ownsRow w.heap.size 25 3 (.slice a (ovF A C).length c) (ovF A C).length (flCells (ovF A C))) := own_mono hr6 HB5.out.size
        clear hr6 hb6 HMA5 HMC5 HLO
        by_cases hln : 60 < (ovF A C).length
        · have HZ : Hid (ovE A C = 2 ∧ ovL A C = []) := HE2.out rfl hln
          have hli : (60 : Int) < ((ovF A C).length : Int) := by omega
          clear hln
          go_wp2
          refine bodyPost_ret (v := .tuple #[.slice none 0 0, .int .i64 2]) (by simp [results, Tryz.results5, go_sem]) rfl ?_
          rw [HZ.out.1, HZ.out.2]
          exact RsP_nil 2 HB6.out
        · have HZ : Hid (ovE A C = 0 ∧ ovL A C = ovF A C) := HE0.out rfl hln
          have hli : ¬ (60 : Int) < ((ovF A C).length : Int) := by omega
          clear hln
          go_wp2
          refine bodyPost_ret (v := .tuple #[.slice a (ovF A C).length c, .int .i64 0]) (by simp [results, Tryz.results5, go_sem]) rfl ?_
          rw [HZ.out.1, HZ.out.2]
          exact ⟨a, c, rfl, HR6.out, HB6.out⟩
  · have HZ : Hid (ovE A C = erF A C ∧ ovL A C = []) := by
      have e : ovE A C = erF A C := by unfold ovE; rw [if_pos h0]
      exact ⟨e, by unfold ovL; rw [e, if_neg h0]⟩
    rw [HZ.out.1, HZ.out.2]
    clear HZ ha hc hm
    generalize erF A C = c at *
    have h0' : (c != 0) = true := by simpa using h0
    clear h0
    go_enter Tryz.func5, Tryz.ntmps5
    go_wp2_with fail
    refine HF1.out.mono ?_
    rintro e w1 ⟨rfl, hb1⟩
    have HB : Hid (Below w.heap.size w w1) := hb1
    clear hb1
    go_wp2
    refine bodyPost_ret (v := .tuple #[.slice none 0 0, .int .i64 c]) (by simp [results, Tryz.results5, go_sem]) rfl ?_
    exact RsP_nil c HB.out
end Go.Proofs.YtkmlooepakinfaaGreatDoor

/- The document's look at two trees that differ. -/
namespace Go.Proofs.YtkmlooepakinfaaGreatDoor
open Go.RowKit Go.Shelf Go.Maps Go.WideMaps Go.Sort

/-- Where a path stands first. -/
def FaR (L : List Fl) (s : List UInt8) (i : Int) : Prop := (i = -1 ∧ ∀ f ∈ L, pth f ≠ s) ∨ ∃ (j : Nat) (hj : j < L.length), i = j ∧ pth L[j] = s ∧ ∀ j' (hj' : j' < L.length), j' < j → pth L[j'] ≠ s

/-- The paths that were added when k of the files have been looked at. -/
def dtL (A C : List Fl) (k : Nat) : List (List UInt8) := addAll (othF (A.take k) C ++ othF (C.take (k - A.length)) A)
theorem dtL_a (A C : List Fl) (k : Nat) (hk : k < A.length) : dtL A C (k + 1) = if sameB (getF C (pth A[k])) A[k] = true then dtL A C k else insN (pth A[k]) (dtL A C k) := by
  unfold dtL
  rw [show k + 1 - A.length = 0 by omega, show k - A.length = 0 by omega, List.take_zero, List.take_succ_eq_append_getElem hk, othF_snoc]
  rw [show othF [] A = [] from rfl, List.append_nil, List.append_nil]
  split
  · rfl
  · rw [addAll_snoc]
theorem dtL_c (A C : List Fl) (k : Nat) (j : Nat) (hk : k = A.length + j) (hc : j < C.length) : dtL A C (k + 1) = if sameB (getF A (pth C[j])) C[j] = true then dtL A C k else insN (pth C[j]) (dtL A C k) := by
  unfold dtL
  rw [show k + 1 - A.length = j + 1 by omega, show k - A.length = j by omega, List.take_of_length_le (l := A) (i := k + 1) (by omega), List.take_of_length_le (l := A) (i := k) (by omega), List.take_succ_eq_append_getElem hc, othF_snoc]
  split
  · rfl
  · rw [← List.append_assoc, addAll_snoc]
theorem dtL_end (A C : List Fl) : dtL A C (A.length + C.length) = difF A C := by
  unfold dtL
  rw [List.take_of_length_le (by omega), List.take_of_length_le (by omega), dif_same]
theorem dtL_zero (A C : List Fl) : dtL A C 0 = [] := by
  unfold dtL
  rw [Nat.zero_sub]
  rfl
theorem dtL_len (A C : List Fl) (k : Nat) : (dtL A C k).length ≤ A.length + C.length := by
  unfold dtL
  refine Nat.le_trans (addAll_len _) ?_
  rw [List.length_append]
  have h1 := othF_len (A.take k) C
  have h2 := othF_len (C.take (k - A.length)) A
  have h3 : (A.take k).length ≤ A.length := by rw [List.length_take]; omega
  have h4 : (C.take (k - A.length)).length ≤ C.length := by rw [List.length_take]; omega
  omega
theorem insN_ne (s : List UInt8) (l : List (List UInt8)) : insN s l ≠ [] := fun e => by
  have := (insN_mem s s l).2 (.inl rfl)
  rw [e] at this
  cases this

/-- How it stands ahead of a round. -/
def DtI (A C : List Fl) (w : World) (ov i : Value) (wr : World) : Prop := ∃ k : Nat, k ≤ A.length + C.length ∧ i = .int .i64 k ∧ wr.ownsRow w.heap.size 9 1 ov (dtL A C k).length ((dtL A C k).map encStr) ∧ (dtL A C k = [] → ov = .slice none 0 0) ∧ Below w.heap.size w wr
end Go.Proofs.YtkmlooepakinfaaGreatDoor

/- A file among others, as the document adds it; a copy of files. -/
namespace Go.Proofs.YtkmlooepakinfaaGreatDoor
open Go.RowKit Go.Shelf Go.Maps Go.WideMaps Go.Sort
attribute [local go_sem ↓] appS_eq

theorem insF_take (f : Fl) : ∀ (L : List Fl) (k : Nat), k ≤ L.length → (∀ (j : Nat) (hj : j < L.length), j < k → pth L[j] < pth f) → (∀ hk : k < L.length, ¬ pth L[k] < pth f) → insF f L = L.take k ++ f :: L.drop k
  | [], k, hk, _, _ => by simp [insF]
  | g :: l, 0, _, _, h2 => by
    have h3 : ¬ pth g < pth f := h2 (by simp)
    unfold insF
    rw [if_neg h3]
    rfl
  | g :: l, k + 1, hk, h1, h2 => by
    have h3 : pth g < pth f := h1 0 (by simp) (by omega)
    have ih := insF_take f l k (by simpa using hk) (fun j hj hjk => h1 (j + 1) (by simp; omega) (by omega)) (fun hk2 => h2 (by simp; omega))
    unfold insF
    rw [if_pos h3, ih]
    rfl
theorem flCells_app (A C : List Fl) : flCells (A ++ C) = flCells A ++ flCells C := by simp [flCells]
theorem flCells_len (A : List Fl) : (flCells A).length = A.length * 3 := by
  induction A with
  | nil => rfl
  | cons f l ih =>
    have e : flCells (f :: l) = [.string f.pa, .string f.tx, .bool f.rn] ++ flCells l := rfl
    rw [e, List.length_append, ih, List.length_cons]
    simp
    omega
theorem flCells_one (A : List Fl) : ∀ u ∈ flCells A, u.oneCell' = true := fun u hu => by
  obtain ⟨f, _, hf⟩ := List.mem_flatMap.1 hu
  simp at hf
  rcases hf with rfl | rfl | rfl <;> rfl
/-- Cell by cell. -/
theorem flAt_cells {w : World} {g o : Nat} {F : List Fl} (h : FlAt g o F w) : ∀ j u, (flCells F)[j]? = some u → w.cell? ⟨g, o + j, none⟩ = some u := fun j u hu => by
  have hj : j < (flCells F).length := (List.getElem?_eq_some_iff.1 hu).1
  rw [flCells_len] at hj
  have hq : j / 3 < F.length := by omega
  obtain ⟨h0, h1, h2⟩ := h (j / 3) hq
  obtain ⟨k0, k1, k2⟩ := flCells_get F (j / 3) hq
  have hm : j % 3 = 0 ∨ j % 3 = 1 ∨ j % 3 = 2 := by omega
  rcases hm with e | e | e
  · have e2 : j = j / 3 * 3 := by omega
    rw [e2] at hu ⊢
    rw [k0] at hu
    rw [← hu]
    exact h0
  · have e2 : j = j / 3 * 3 + 1 := by omega
    rw [e2] at hu ⊢
    rw [k1] at hu
    rw [← hu]
    exact h1
  · have e2 : j = j / 3 * 3 + 2 := by omega
    rw [e2] at hu ⊢
    rw [k2] at hu
    rw [← hu]
    exact h2
theorem flAt_own {w : World} {B g n c : Nat} {F : List Fl} (h : w.ownsRow B 25 3 (.slice (some ⟨g, 0, none⟩) n c) n (flCells F)) (hn : n = F.length) : FlAt g 0 F w := fun j hj => by
  obtain ⟨k0, k1, k2⟩ := flCells_get F j hj
  simp only [Nat.zero_add]
  exact ⟨(h.cellAt _ (by omega)).trans k0, (h.cellAt _ (by omega)).trans k1, (h.cellAt _ (by omega)).trans k2⟩
theorem flAt_drop {w : World} {g o : Nat} {F : List Fl} (h : FlAt g o F w) (k : Nat) : FlAt g (o + k * 3) (F.drop k) w := fun j hj => by
  have hj2 : k + j < F.length := by rw [List.length_drop] at hj; omega
  obtain ⟨h0, h1, h2⟩ := h (k + j) hj2
  have e : o + k * 3 + j * 3 = o + (k + j) * 3 := by omega
  rw [e, List.getElem_drop]
  exact ⟨h0, h1, h2⟩
theorem flAt_take {w : World} {g o : Nat} {F : List Fl} (h : FlAt g o F w) (k : Nat) : FlAt g o (F.take k) w := fun j hj => by
  have hj2 : j < F.length := by rw [List.length_take] at hj; omega
  rw [List.getElem_take]
  exact h j hj2
theorem flAt_heap {w w' : World} {g o : Nat} {F : List Fl} (h : FlAt g o F w) (hb : w'.heap[g]? = w.heap[g]?) : FlAt g o F w' := fun j hj =>
  ⟨(World.cell?_of_block (w := w) hb).trans (h j hj).1, (World.cell?_of_block (w := w) hb).trans (h j hj).2.1, (World.cell?_of_block (w := w) hb).trans (h j hj).2.2⟩

/-- How adding ends. -/
def AfP (B : Nat) (F : List Fl) (w : World) (e : Ending) (w' : World) : Prop := ∃ g c, e = .returned (.slice (some ⟨g, 0, none⟩) F.length c) ∧ w'.ownsRow B 25 3 (.slice (some ⟨g, 0, none⟩) F.length c) F.length (flCells F) ∧ Below w.heap.size w w' ∧ w.heap.size ≤ g

/-- Both appends, wherever the file stands. -/
theorem addF_ap {B g cap : Nat} {F : List Fl} {X : World} (hF : FlAt g 0 F X) (hg : g < X.heap.size) (hB : B ≤ X.heap.size) (f : Fl) (hn : F.length ≤ 1000) (hcap : F.length ≤ cap) (k : Nat) (hk : k ≤ F.length) (n : Nat) :
    ∃ (A : Addr) (v1 : Value) (g2 c2 : Nat) (w1 w2 : World), (if cap = k then some (⟨g, 0, none⟩ : Addr) else some ⟨g, k * 3, none⟩) = some A ∧
      (appS #[22, 22] 22 #[.slice (some ⟨X.heap.size, 0, none⟩) 1 1, .slice (some A) (F.length - k) (cap - k)]).run Tryz.prog ((X.alloc (.cells #[.string f.pa, .string f.tx, .bool f.rn] 25)).drewN n) = .ok v1 w1 ∧
      (appS #[22, 22] 22 #[.slice (some ⟨g, 0, none⟩) k k, v1]).run Tryz.prog w1 = .ok (.slice (some ⟨g2, 0, none⟩) (F.length + 1) c2) w2 ∧
      w2.ownsRow B 25 3 (.slice (some ⟨g2, 0, none⟩) (F.length + 1) c2) (F.length + 1) (flCells (F.take k ++ f :: F.drop k)) ∧ Below X.heap.size X w2 ∧ X.heap.size ≤ g2 := by
  obtain ⟨i0, hi, hz0, hz1, hz2⟩ := info_p infF
  obtain ⟨Y, hY⟩ : ∃ Y, Y = (X.alloc (.cells #[.string f.pa, .string f.tx, .bool f.rn] 25)).drewN n := ⟨_, rfl⟩
  rw [← hY]
  have hzY : Y.heap.size = X.heap.size + 1 := by rw [hY]; exact World.size_alloc _ _
  have hoY : ∀ x : Nat, x < X.heap.size → Y.heap[x]? = X.heap[x]? := fun x hx => by rw [hY]; exact heap_al X _ x hx
  have hnY : Y.heap[X.heap.size]? = some (.cells #[.string f.pa, .string f.tx, .bool f.rn] 25 (0, 0)) := by rw [hY]; exact heap_alloc_new X _
  have hbY : Below X.heap.size X Y := by rw [hY]; exact below_drewN ((Below.refl _ X).alloc (Nat.le_refl _) _) n
  have hFY : FlAt g 0 F Y := flAt_heap hF (hoY g hg)
  obtain ⟨A, hA, hsrc⟩ : ∃ A : Addr, (if cap = k then some (⟨g, 0, none⟩ : Addr) else some ⟨g, k * 3, none⟩) = some A ∧ ∀ j u, (flCells (F.drop k))[j]? = some u → Y.cell? (A.add j) = some u := by
    by_cases hck : cap = k
    · refine ⟨⟨g, 0, none⟩, by simp [hck], fun j u hu => ?_⟩
      have : F.drop k = [] := List.drop_eq_nil_iff.2 (by omega)
      rw [this] at hu
      cases hu
    · refine ⟨⟨g, k * 3, none⟩, by simp [hck], fun j u hu => ?_⟩
      rw [Addr.add_lit]
      have := flAt_cells (flAt_drop hFY k) j u hu
      rwa [Nat.zero_add] at this
  have hown0 : Y.ownsRow X.heap.size 25 3 (.slice (some ⟨X.heap.size, 0, none⟩) 1 1) 1 [.string f.pa, .string f.tx, .bool f.rn] :=
    ⟨rfl, .inr ⟨X.heap.size, 1, #[.string f.pa, .string f.tx, .bool f.rn], rfl, Nat.le_refl _, hnY, Nat.le_refl _, by decide, rfl, rfl⟩⟩
  obtain ⟨v1, w1, hr1, ho1, hg1', _⟩ := run_append_own (P := Tryz.prog) Y X.heap.size 22 22 25 i0 (.agg #[.string ⟨#[]⟩, .string ⟨#[]⟩, .bool false]) 3 40 Tryz.underlying22 hi hz0 hz1 hz2 rfl (by decide) (.slice (some ⟨X.heap.size, 0, none⟩) 1 1) 1 [.string f.pa, .string f.tx, .bool f.rn] hown0 A (F.length - k) (cap - k) (flCells (F.drop k)) (by rw [flCells_len, List.length_drop]) hsrc (flCells_one _) (by unfold maxLen; omega) (by omega) (by omega)
  obtain ⟨g1, c1, hv1, hg3, hg4⟩ := ho1.form (by omega)
  have hw1 : ∀ x : Nat, x < X.heap.size → w1.heap[x]? = X.heap[x]? := fun x hx => (hg1'.block x (by omega) (fun e => by simp [Value.ownBlock] at e; omega)).trans (hoY x hx)
  have hcells1 : ∀ j u, ([.string f.pa, .string f.tx, .bool f.rn] ++ flCells (F.drop k))[j]? = some u → w1.cell? ((⟨g1, 0, none⟩ : Addr).add j) = some u := by
    have := ho1
    rw [hv1] at this
    exact this.cells rfl
  have hFt : ∀ j u, (flCells (F.take k))[j]? = some u → w1.cell? ((⟨g, 0, none⟩ : Addr).add j) = some u := fun j u hu => by
    rw [add0]
    have := flAt_cells (flAt_take (flAt_heap hF (hw1 g hg)) k) j u hu
    rwa [Nat.zero_add] at this
  obtain ⟨v2, w2, hr2, ho2, hg2'⟩ := run_append_arg_grows (P := Tryz.prog) w1 22 22 25 i0 (.agg #[.string ⟨#[]⟩, .string ⟨#[]⟩, .bool false]) 3 40 Tryz.underlying22 hi hz0 hz1 hz2 rfl (by decide) ⟨g, 0, none⟩ k k (flCells (F.take k)) (by rw [flCells_len, List.length_take]; omega) hFt ⟨g1, 0, none⟩ (1 + (F.length - k)) c1 ([.string f.pa, .string f.tx, .bool f.rn] ++ flCells (F.drop k)) (by rw [List.length_append, flCells_len, List.length_drop]; simp; omega) hcells1 (by omega) (by unfold maxLen; omega) (by omega)
  have hsz1 : X.heap.size ≤ w1.heap.size := by have := hg1'.size; omega
  have el : k + (1 + (F.length - k)) = F.length + 1 := by omega
  have ec : flCells (F.take k) ++ ([.string f.pa, .string f.tx, .bool f.rn] ++ flCells (F.drop k)) = flCells (F.take k ++ f :: F.drop k) := by
    rw [flCells_app]
    rfl
  rw [el, ec] at ho2
  obtain ⟨g2, c2, hv2, hg5, _⟩ := ho2.form (by omega)
  subst hv2
  rw [hv1] at hr1
  refine ⟨A, _, g2, c2, w1, w2, hA, hr1, hr2, own_mono ho2 (by omega), ⟨hg2'.os.trans (hg1'.os.trans hbY.os), hg2'.tape.trans (hg1'.tape.trans hbY.tape), hg2'.output.trans (hg1'.output.trans hbY.output), by have := hg2'.size; omega, fun x hx => (hg2'.block x (by omega) (fun e => by cases e)).trans (hw1 x hx)⟩, by omega⟩
end Go.Proofs.YtkmlooepakinfaaGreatDoor

/- The document's AddFile; a copy of files; a file in the place of another. -/
namespace Go.Proofs.YtkmlooepakinfaaGreatDoor
open Go.RowKit Go.Shelf Go.Maps Go.WideMaps Go.Sort
attribute [local go_sem ↓] appS_eq
end Go.Proofs.YtkmlooepakinfaaGreatDoor

/- The document's OverTree. -/
namespace Go.Proofs.YtkmlooepakinfaaGreatDoor
open Go.RowKit Go.Shelf Go.Maps Go.WideMaps Go.Sort
attribute [local go_sem ↓] appS_eq

/-- A copy of files, laid behind a list with nothing in it. -/
theorem copyF {ao : Option Addr} {ac : Nat} {L : List Fl} {w : World} (hl : IsFl w ao L) (hn : L.length ≤ 10000000) :
    ∃ g c w', (appS #[22, 22] 22 #[.slice (some ⟨w.heap.size, 0, none⟩) 0 0, .slice ao L.length ac]).run Tryz.prog (w.alloc (.cells #[] 25)) = .ok (.slice (some ⟨g, 0, none⟩) L.length c) w' ∧
      w'.ownsRow w.heap.size 25 3 (.slice (some ⟨g, 0, none⟩) L.length c) L.length (flCells L) ∧ Below w.heap.size w w' := by
  obtain ⟨i0, hi, hz0, hz1, hz2⟩ := info_p infF
  have hb : Below w.heap.size w (w.alloc (.cells #[] 25)) := (Below.refl _ w).alloc (Nat.le_refl _) _
  have hown0 : (w.alloc (.cells #[] 25)).ownsRow w.heap.size 25 3 (.slice (some ⟨w.heap.size, 0, none⟩) 0 0) 0 [] :=
    ⟨rfl, .inr ⟨w.heap.size, 0, #[], rfl, Nat.le_refl _, heap_alloc_new w _, Nat.le_refl _, by decide, rfl, rfl⟩⟩
  cases ao with
  | none =>
    have hL : L = [] := by
      rcases hl with h | ⟨g, o, e, _⟩
      · exact h
      · cases e
    subst hL
    refine ⟨w.heap.size, 0, w.alloc (.cells #[] 25), ?_, hown0, hb⟩
    unfold appS
    simp [Builtin.append_, run_underlying Tryz.underlying22, sizeOf, typeInfo, hi, Builtin.lenOf, Builtin.firstCells, storeCells]
  | some ad =>
    have hsrc : ∀ j u, (flCells L)[j]? = some u → (w.alloc (.cells #[] 25)).cell? (ad.add j) = some u := fun j u hu => by
      rcases hl.below hb (Nat.le_refl _) with h | ⟨g, o, e, hg, hc⟩
      · subst h; simp [flCells] at hu
      · obtain rfl := Option.some.inj e
        rw [Addr.add_lit]
        exact flAt_cells hc j u hu
    obtain ⟨v1, w1, hr1, ho1, hg1', hnil⟩ := run_append_own (P := Tryz.prog) (w.alloc (.cells #[] 25)) w.heap.size 22 22 25 i0 (.agg #[.string ⟨#[]⟩, .string ⟨#[]⟩, .bool false]) 3 40 Tryz.underlying22 hi hz0 hz1 hz2 rfl (by decide) (.slice (some ⟨w.heap.size, 0, none⟩) 0 0) 0 [] hown0 ad L.length ac (flCells L) (flCells_len L) hsrc (flCells_one _) (by unfold maxLen; omega) (by omega) hb.size
    rw [Nat.zero_add, List.nil_append] at ho1
    rcases ho1.2 with ⟨e, _⟩ | ⟨g1, c1, cur, e, _⟩
    · have := (hnil.1 e).1
      cases this
    · subst e
      exact ⟨g1, c1, w1, hr1, ho1, hb.grown hg1' hb.size fun k hk => by simp [Value.ownBlock] at hk; omega⟩
/-- A file in the place of another. -/
theorem flCells_set (F : List Fl) (f : Fl) (k : Nat) (hk : k < F.length) : flCells (F.set k f) = ((((flCells F).set (k * 3) (.string f.pa)).set (k * 3 + 1) (.string f.tx)).set (k * 3 + 2) (.bool f.rn)) := by
  induction F generalizing k with
  | nil => simp at hk
  | cons g l ih =>
    have e : flCells (g :: l) = .string g.pa :: .string g.tx :: .bool g.rn :: flCells l := rfl
    cases k with
    | zero => rw [e]; rfl
    | succ k =>
      have e2 : flCells ((g :: l).set (k + 1) f) = .string g.pa :: .string g.tx :: .bool g.rn :: flCells (l.set k f) := rfl
      rw [e2, e, ih k (by simpa using hk)]
      have a1 : (k + 1) * 3 = k * 3 + 1 + 1 + 1 := by omega
      rw [a1]
      rfl
theorem setRow {B g c : Nat} {F : List Fl} {w : World} (h : w.ownsRow B 25 3 (.slice (some ⟨g, 0, none⟩) F.length c) F.length (flCells F)) (f : Fl) (k : Nat) (hk : k < F.length) :
    ((((w.setCell ⟨g, k * 3, none⟩ (.string f.pa)).setCell ⟨g, k * 3 + 1, none⟩ (.string f.tx)).setCell ⟨g, k * 3 + 2, none⟩ (.bool f.rn))).ownsRow B 25 3 (.slice (some ⟨g, 0, none⟩) F.length c) F.length (flCells (F.set k f)) := by
  rcases h.2 with ⟨e, _⟩ | ⟨g', c', cur, e, hbase, hb, h1, h2, h3, h4⟩
  · cases e
  · injection e with e1 _ e2
    injection e1 with e1
    injection e1 with e1
    subst e1 e2
    refine ⟨by rw [flCells_len, List.length_set], .inr ⟨g, c, ((cur.setIfInBounds (k * 3) (.string f.pa)).setIfInBounds (k * 3 + 1) (.string f.tx)).setIfInBounds (k * 3 + 2) (.bool f.rn), rfl, hbase, ?_, h1, h2, by simpa using h3, ?_⟩⟩
    · simp only [World.setCell, Array.getElem?_modify, hb]
      rfl
    · rw [flCells_set F f k hk, ← h4]
      simp only [Array.toList_setIfInBounds]
      rw [List.take_set, List.take_set, List.take_set]
end Go.Proofs.YtkmlooepakinfaaGreatDoor

/- The document's OverTree, walked. -/
namespace Go.Proofs.YtkmlooepakinfaaGreatDoor
open Go.RowKit Go.Shelf Go.Maps Go.WideMaps Go.Sort
attribute [local go_sem ↓] appS_eq

theorem set_map {L : List Fl} (f : Fl) (hn : (L.map pth).Nodup) (j : Nat) (hj : j < L.length) (h : pth L[j] = pth f) : (L.map fun g => if pth g = pth f then f else g) = L.set j f := by
  refine List.ext_getElem (by simp) fun i h1 h2 => ?_
  have hi : i < L.length := by simpa using h1
  rw [List.getElem_map, List.getElem_set]
  by_cases e : j = i
  · subst e
    rw [if_pos h, if_pos rfl]
  · rw [if_neg e, if_neg]
    intro e2
    have hp := List.pairwise_iff_getElem.1 hn
    rcases Nat.lt_trichotomy i j with hij | hij | hij
    · exact absurd (by rw [List.getElem_map, List.getElem_map, e2, h]) (hp i j (by simpa using hi) (by simpa using hj) hij)
    · exact e hij.symm
    · exact absurd (by rw [List.getElem_map, List.getElem_map, e2, h]) (hp j i (by simpa using hj) (by simpa using hi) hij)
theorem lt_nodup {L : List Fl} (h : L.Pairwise fun a b => pth a < pth b) : (L.map pth).Nodup := List.pairwise_map.2 (h.imp fun hh e => by rw [e] at hh; exact List.lt_irrefl _ hh)
theorem putF_yes {L : List Fl} {f : Fl} (h : L.Pairwise fun a b => pth a < pth b) (j : Nat) (hj : j < L.length) (he : pth L[j] = pth f) : putF L f = L.set j f := by
  unfold putF
  rw [if_pos ((hasP_iff L _).2 ⟨L[j], List.getElem_mem hj, he⟩)]
  exact set_map f (lt_nodup h) j hj he
theorem putF_no {L : List Fl} {f : Fl} (h : ∀ g ∈ L, pth g ≠ pth f) : putF L f = insF f L := by
  unfold putF
  rw [if_neg]
  intro h2
  obtain ⟨g, hg, e⟩ := (hasP_iff L _).1 h2
  exact h g hg e
theorem insF_len (f : Fl) : ∀ L : List Fl, (insF f L).length = L.length + 1
  | [] => rfl
  | g :: l => by
    unfold insF
    split
    · rw [List.length_cons, insF_len f l, List.length_cons]
    · simp
theorem ovR_len (A C : List Fl) : (ovR A C).length ≤ A.length + C.length := by
  refine snocInd (P := fun C => (ovR A C).length ≤ A.length + C.length) (by simp [ovR]) (fun l a ih => ?_) C
  rw [ovR_snoc, List.length_append]
  unfold putF
  split
  · rw [List.length_map]
    omega
  · rw [insF_len]
    simp
    omega
/-- Whoever goes through a file does so in the one over the other, too. -/
theorem thru_mem (L M : List Fl) : thruF L M = true ↔ ∃ f ∈ L, ∃ g ∈ M, inB f.pa g.pa = true := by
  unfold thruF
  simp only [List.any_eq_true]
theorem fit_no {L : List Fl} (h : okT L) {f g : Fl} (hf : f ∈ L) (hg : g ∈ L) : inB f.pa g.pa = false := by
  obtain ⟨i, hi, rfl⟩ := List.getElem_of_mem hf
  obtain ⟨j, hj, rfl⟩ := List.getElem_of_mem hg
  have hp := List.pairwise_iff_getElem.1 h.2.2
  rcases Nat.lt_trichotomy i j with hij | hij | hij
  · exact (hp i j hi hj hij).2.2
  · subst hij; exact inB_self _
  · exact (hp j i hj hi hij).2.1
theorem same_pa {f g : Fl} (h : pth f = pth g) : f.pa = g.pa := bytes_ext h
theorem thru_ov {A C X : List Fl} (hA : okT A) (hC : okT C) (hX : ∀ f, f ∈ X ↔ f ∈ ovU A C) : thruF X X = (thruF A C || thruF C A) := by
  rw [Bool.eq_iff_iff, Bool.or_eq_true, thru_mem, thru_mem, thru_mem]
  constructor
  · rintro ⟨f, hf, g, hg, h⟩
    rw [hX, ovU_mem] at hf hg
    rcases hf with ⟨hf, _⟩ | hf
    · rcases hg with ⟨hg, _⟩ | hg
      · rw [fit_no hA hf hg] at h; cases h
      · exact .inl ⟨f, hf, g, hg, h⟩
    · rcases hg with ⟨hg, _⟩ | hg
      · exact .inr ⟨f, hf, g, hg, h⟩
      · rw [fit_no hC hf hg] at h; cases h
  · have key : ∀ a ∈ A, (∃ c ∈ C, pth c = pth a) ∨ (hasP C (pth a) = false) := fun a _ => by
      cases e : hasP C (pth a) with
      | true => exact .inl ((hasP_iff C _).1 e)
      | false => exact .inr rfl
    rintro (⟨f, hf, g, hg, h⟩ | ⟨f, hf, g, hg, h⟩)
    · rcases key f hf with ⟨c, hc, e⟩ | e
      · rw [← same_pa e, fit_no hC hc hg] at h; cases h
      · exact ⟨f, (hX f).2 ((ovU_mem A C f).2 (.inl ⟨hf, e⟩)), g, (hX g).2 ((ovU_mem A C g).2 (.inr hg)), h⟩
    · rcases key g hg with ⟨c, hc, e⟩ | e
      · rw [← same_pa e, fit_no hC hf hc] at h; cases h
      · exact ⟨f, (hX f).2 ((ovU_mem A C f).2 (.inr hf)), g, (hX g).2 ((ovU_mem A C g).2 (.inl ⟨hg, e⟩)), h⟩

/-- What the document's OverTree answers of two trees. -/
def oeD (A C : List Fl) : Int := if thruF (ovF A C) (ovF A C) = true then 6 else if 60 < (ovF A C).length then 2 else 0
def olD (A C : List Fl) : List Fl := if thruF (ovF A C) (ovF A C) = true then [] else if 60 < (ovF A C).length then [] else ovF A C
/-- How it stands behind so many files of the second. -/
def OvI (A C : List Fl) (w : World) (k : Nat) (ov : Value) (wr : World) : Prop := ∃ g c, ov = .slice (some ⟨g, 0, none⟩) (ovR A (C.take k)).length c ∧ wr.ownsRow w.heap.size 25 3 (.slice (some ⟨g, 0, none⟩) (ovR A (C.take k)).length c) (ovR A (C.take k)).length (flCells (ovR A (C.take k))) ∧ Below w.heap.size w wr
theorem own_fz {w : World} {B g n c : Nat} {e : TypeId} {s : Nat} {xs : List Value} (h : w.ownsRow B e s (.slice (some ⟨g, 0, none⟩) n c) n xs) (j : Nat) : w.frozen? ⟨g, j, none⟩ = false := by
  rcases h.2 with ⟨e, _⟩ | ⟨g', c', cur, e, _, hb, _⟩
  · cases e
  · injection e with e1 _ _
    injection e1 with e1
    injection e1 with e1
    subst e1
    simp only [World.frozen?]
    rw [hb]
    simp
end Go.Proofs.YtkmlooepakinfaaGreatDoor

/- What is spoilt: a row of files, a row of texts, of one's own. -/
namespace Go.Proofs.YtkmlooepakinfaaGreatDoor
open Go.RowKit Go.Shelf Go.Sort

theorem grown_refl (w : World) (r : Option Nat) : w.grownBy w r := ⟨rfl, rfl, rfl, Nat.le_refl _, fun _ _ _ => rfl⟩
theorem grown_set {w wr : World} {g : Nat} (h : w.grownBy wr (some g)) (o : Nat) (v : Value) : w.grownBy (wr.setCell ⟨g, o, none⟩ v) (some g) :=
  h.trans ⟨rfl, rfl, rfl, by simp [World.setCell], fun b _ hne => Below.heap_setCell _ _ _ _ fun e => hne (by rw [e])⟩
/-- Files, each of which is some other now. -/
def SpI (B : Nat) (ao : Option Addr) (n c : Nat) (w wr : World) : Prop := ∃ F : List Fl, F.length = n ∧ wr.ownsRow B 25 3 (.slice ao n c) n (flCells F) ∧ w.grownBy wr (Value.slice ao n c).ownBlock

set_option maxHeartbeats 4000000 in
set_option maxRecDepth 100000 in
theorem spoilF (B : Nat) (ao : Option Addr) (n c : Nat) (F : List Fl) (w : World) (h : w.ownsRow B 25 3 (.slice ao n c) n (flCells F)) (hF : F.length = n) (hn : n ≤ 1000000) :
    Calls Tryz.prog 11 #[.slice ao n c] w fun e w' => e = .returned (.tuple #[]) ∧ Hid (w.grownBy w' (Value.slice ao n c).ownBlock) := by
  have HI0 : Hid (SpI B ao n c w w) := ⟨F, hF, h, grown_refl _ _⟩
  clear h hF
  go_enter Tryz.func11, Tryz.ntmps11
  go_wp2
  go_loopw [2] (fun i wr => ∃ k : Nat, k ≤ n ∧ i = .int .i64 (k : Int) ∧ Hid (SpI B ao n c w wr)) (fun i _ => n - (RowKit.intOf i).toNat)
  case atStart => exact ⟨0, Nat.zero_le _, rfl, HI0⟩
  case round =>
    obtain ⟨k, hk, rfl, HI⟩ := hrel
    by_cases hlt : k < n
    · have hki : (k : Int) < (n : Int) := by omega
      obtain ⟨k1, hk1⟩ : ∃ k1, k1 = k + 1 := ⟨_, rfl⟩
      have ek1 : (k : Int) + 1 = (k1 : Int) := by omega
      have ek2 : IntKind.i64.wrap (k1 : Int) = (k1 : Int) := by rw [IntKind.wrap_i64]; omega
      have HK1 : Hid (k1 = k + 1 ∧ k < n) := ⟨hk1, hlt⟩
      obtain ⟨X, hX, hrow, hg⟩ := HI.out
      subst hX
      obtain ⟨g, cg, hv, _, _⟩ := hrow.form (by omega)
      obtain rfl : ao = some ⟨g, 0, none⟩ := by
        have := congrArg (fun v : Value => match v with | .slice a _ _ => a | _ => none) hv
        exact this
      obtain ⟨e0, e1, e2⟩ := flAt_own hrow rfl k hlt
      simp only [Nat.zero_add] at e0 e1 e2
      have z0 := own_fz hrow (k * 3)
      have z1 := own_fz hrow (k * 3 + 1)
      have z2 := own_fz hrow (k * 3 + 2)
      have HN : Hid (SpI B (some ⟨g, 0, none⟩) X.length c w (((wr.setCell ⟨g, k * 3, none⟩ (.string ⟨#[47, 47]⟩)).setCell ⟨g, k * 3 + 1, none⟩ (.string ⟨#[]⟩)).setCell ⟨g, k * 3 + 2, none⟩ (.bool false))) :=
        ⟨X.set k ⟨⟨#[47, 47]⟩, ⟨#[]⟩, false⟩, by rw [List.length_set], setRow hrow ⟨⟨#[47, 47]⟩, ⟨#[]⟩, false⟩ k hlt, grown_set (grown_set (grown_set hg _ _) _ _) _ _⟩
      clear hrow hg hv HI HI0 hk1
      generalize X[k] = xk at *
      generalize X.length = n at *
      clear hlt
      go_wp2
      refine ⟨⟨k1, by have := HK1.out; omega, rfl, HN⟩, ?_⟩
      have := HK1.out
      simp [RowKit.intOf]; omega
    · obtain rfl : k = n := by omega
      have k2 : ¬ (k : Int) < (k : Int) := by omega
      have HG : Hid (w.grownBy wr (Value.slice ao k c).ownBlock) := by
        obtain ⟨_, _, _, hg⟩ := HI.out
        exact hg
      clear hk hlt HI HI0
      go_wp2
      refine ⟨rfl, .tuple #[], ?_, rfl, HG⟩
      simp [results, Tryz.results11]

/-- Texts, each of which is some other now. -/
def SpT (B : Nat) (ao : Option Addr) (n c : Nat) (w wr : World) : Prop := ∃ S : List Value, wr.ownsRow B 9 1 (.slice ao n c) n S ∧ w.grownBy wr (Value.slice ao n c).ownBlock
theorem setOne {B g n c : Nat} {S : List Value} {w : World} (h : w.ownsRow B 9 1 (.slice (some ⟨g, 0, none⟩) n c) n S) (v : Value) (k : Nat) :
    (w.setCell ⟨g, k, none⟩ v).ownsRow B 9 1 (.slice (some ⟨g, 0, none⟩) n c) n (S.set k v) := by
  rcases h.2 with ⟨e, _⟩ | ⟨g', c', cur, e, hbase, hb, h1, h2, h3, h4⟩
  · cases e
  · injection e with e1 _ e2
    injection e1 with e1
    injection e1 with e1
    subst e1 e2
    refine ⟨by rw [List.length_set]; exact h.1, .inr ⟨g, c, cur.setIfInBounds k v, rfl, hbase, ?_, h1, h2, by simpa using h3, ?_⟩⟩
    · simp only [World.setCell, Array.getElem?_modify, hb]
      rfl
    · rw [← h4]
      simp only [Array.toList_setIfInBounds]
      rw [List.take_set]

set_option maxHeartbeats 4000000 in
set_option maxRecDepth 100000 in
theorem spoilT (B : Nat) (ao : Option Addr) (n c : Nat) (S : List Value) (w : World) (h : w.ownsRow B 9 1 (.slice ao n c) n S) (hn : n ≤ 1000000) :
    Calls Tryz.prog 12 #[.slice ao n c] w fun e w' => e = .returned (.tuple #[]) ∧ Hid (w.grownBy w' (Value.slice ao n c).ownBlock) := by
  have HI0 : Hid (SpT B ao n c w w) := ⟨S, h, grown_refl _ _⟩
  clear h
  go_enter Tryz.func12, Tryz.ntmps12
  go_wp2
  go_loopw [2] (fun i wr => ∃ k : Nat, k ≤ n ∧ i = .int .i64 (k : Int) ∧ Hid (SpT B ao n c w wr)) (fun i _ => n - (RowKit.intOf i).toNat)
  case atStart => exact ⟨0, Nat.zero_le _, rfl, HI0⟩
  case round =>
    obtain ⟨k, hk, rfl, HI⟩ := hrel
    by_cases hlt : k < n
    · have hki : (k : Int) < (n : Int) := by omega
      obtain ⟨k1, hk1⟩ : ∃ k1, k1 = k + 1 := ⟨_, rfl⟩
      have ek1 : (k : Int) + 1 = (k1 : Int) := by omega
      have ek2 : IntKind.i64.wrap (k1 : Int) = (k1 : Int) := by rw [IntKind.wrap_i64]; omega
      have HK1 : Hid (k1 = k + 1 ∧ k < n) := ⟨hk1, hlt⟩
      obtain ⟨X, hrow, hg⟩ := HI.out
      obtain ⟨g, cg, hv, _, _⟩ := hrow.form (by omega)
      obtain rfl : ao = some ⟨g, 0, none⟩ := by
        have := congrArg (fun v : Value => match v with | .slice a _ _ => a | _ => none) hv
        exact this
      have e0 := hrow.cellAt k (by omega)
      have z0 := own_fz hrow k
      have HN : Hid (SpT B (some ⟨g, 0, none⟩) n c w (wr.setCell ⟨g, k, none⟩ (.string ⟨#[115, 112, 111, 105, 108, 116]⟩))) :=
        ⟨X.set k _, setOne hrow _ k, grown_set hg _ _⟩
      obtain ⟨x, hx⟩ : ∃ x, X[k]? = some x := ⟨_, List.getElem?_eq_getElem (by have := hrow.1; omega)⟩
      rw [hx] at e0
      clear hrow hg hv HI HI0 hk1 hx
      clear hlt
      go_wp2
      refine ⟨⟨k1, by have := HK1.out; omega, rfl, HN⟩, ?_⟩
      have := HK1.out
      simp [RowKit.intOf]; omega
    · obtain rfl : k = n := by omega
      have k2 : ¬ (k : Int) < (k : Int) := by omega
      have HG : Hid (w.grownBy wr (Value.slice ao k c).ownBlock) := by
        obtain ⟨_, _, hg⟩ := HI.out
        exact hg
      clear hk hlt HI HI0
      go_wp2
      refine ⟨rfl, .tuple #[], ?_, rfl, HG⟩
      simp [results, Tryz.results12]
end Go.Proofs.YtkmlooepakinfaaGreatDoor

/- The document's Directory, plain: its names, nodes and texts. -/
namespace Go.Proofs.YtkmlooepakinfaaGreatDoor
open Go.RowKit Go.Shelf Go.Maps Go.WideMaps Go.Sort

theorem sl_at : ∀ (a b : List UInt8), (47 : UInt8) ∉ a → sl (a ++ 47 :: b) = some (a, b)
  | [], b, _ => by simp [sl]
  | c :: a, b, h => by
    simp only [List.mem_cons, not_or] at h
    rw [List.cons_append]
    unfold sl
    rw [if_neg (fun e => h.1 e.symm), sl_at a b h.2]
    rfl
theorem sl_nil : ∀ a : List UInt8, (47 : UInt8) ∉ a → sl a = none
  | [], _ => rfl
  | c :: a, h => by
    simp only [List.mem_cons, not_or] at h
    show (if c = 47 then _ else _) = _
    rw [if_neg (fun e => h.1 e.symm), sl_nil a h.2]
    rfl
theorem deep_of {f : Fl} {m r : List UInt8} (hm : (47 : UInt8) ∉ m) (h : pth f = m ++ 47 :: r) : deepF f = true ∧ hdF f = m ∧ pth (subF f) = r := by
  have e := sl_at m r hm
  rw [← h] at e
  unfold deepF hdF subF
  rw [e]
  exact ⟨rfl, rfl, rfl⟩
theorem top_of {f : Fl} (hm : (47 : UInt8) ∉ pth f) : deepF f = false ∧ hdF f = pth f := by
  have e := sl_nil _ hm
  unfold deepF hdF
  rw [e]
  exact ⟨rfl, rfl⟩
theorem fl_ext {f g : Fl} (h1 : pth f = pth g) (h2 : f.tx = g.tx) (h3 : f.rn = g.rn) : f = g := by
  obtain ⟨p, t, r⟩ := f
  obtain ⟨p2, t2, r2⟩ := g
  simp only at h2 h3
  have h4 : p = p2 := bytes_ext h1
  rw [h4, h2, h3]
theorem cut_pth {f : Fl} {d : ByteArray} {r : List UInt8} (h : pth f = d.data.toList ++ 47 :: r) : pth (cutP d f) = r := by
  show (f.pa.extract (d.size + 1) f.pa.size).data.toList = r
  have e : (f.pa.extract (d.size + 1) f.pa.size).data.toList = (pth f).drop (d.size + 1) := by
    have : (pth f).length = f.pa.size := Array.length_toList
    simp only [pth, ByteArray.data_extract, Array.toList_extract, List.extract_eq_take_drop]
    rw [List.take_of_length_le]
    rw [List.length_drop]
    have : f.pa.data.toList.length = f.pa.size := Array.length_toList
    omega
  rw [e, h]
  have hl : d.data.toList.length = d.size := Array.length_toList
  rw [List.drop_append, hl, List.drop_eq_nil_of_le (by omega), List.nil_append, show d.size + 1 - d.size = 1 from by omega]
  rfl
theorem subF_rn (f : Fl) : (subF f).rn = f.rn := by unfold subF; cases sl (pth f) <;> rfl
theorem hd_slash (f : Fl) : (47 : UInt8) ∉ hdF f := by
  unfold hdF
  cases h : sl (pth f) with
  | none => exact sl_none h
  | some x => exact (sl_some (a := x.1) (b := x.2) h).2

/-- The files of the directory with a path. -/
def dv (d : ByteArray) (L : List Fl) : List Fl := if d.data.toList = [] then L else undF L d
/-- The path of what has a name there. -/
def pj (d : ByteArray) (m : List UInt8) : ByteArray := if d.data.toList = [] then ⟨m.toArray⟩ else ⟨(d.data.toList ++ 47 :: m).toArray⟩
theorem dv_none (L : List Fl) : dv ⟨#[]⟩ L = L := if_pos rfl
theorem pj_list (d : ByteArray) (m : List UInt8) : (pj d m).data.toList = if d.data.toList = [] then m else d.data.toList ++ 47 :: m := by
  unfold pj
  split <;> rfl
theorem pj_ne (d : ByteArray) {m : List UInt8} (hm : m ≠ []) : (pj d m).data.toList ≠ [] := by
  rw [pj_list]
  split
  · exact hm
  · simp
theorem und_sub (L : List Fl) (m : List UInt8) (hm : (47 : UInt8) ∉ m) : undF L ⟨m.toArray⟩ = sub m L := by
  unfold undF sub
  have e : (L.filter fun f => inB f.pa ⟨m.toArray⟩) = L.filter fun f => deepF f && decide (hdF f = m) := by
    refine List.filter_congr fun f _ => ?_
    rw [Bool.eq_iff_iff, inB_list, Bool.and_eq_true, decide_eq_true_eq]
    constructor
    · rintro ⟨r, hr⟩
      obtain ⟨h1, h2, _⟩ := deep_of (f := f) (m := m) (r := r) hm hr
      exact ⟨h1, h2⟩
    · rintro ⟨h1, h2⟩
      have := (deep_sl h1).2
      rw [h2] at this
      exact ⟨_, this⟩
  rw [e]
  refine List.map_congr_left fun f hf => ?_
  rw [List.mem_filter, Bool.and_eq_true, decide_eq_true_eq] at hf
  have h1 := (deep_sl hf.2.1).2
  rw [hf.2.2] at h1
  exact fl_ext (cut_pth (d := ⟨m.toArray⟩) h1) (subF_tx f).symm (subF_rn f).symm
theorem in_in (f : Fl) (d : ByteArray) (m : List UInt8) (hm : (47 : UInt8) ∉ m) (D : ByteArray) (hD : D.data.toList = d.data.toList ++ 47 :: m) : inB f.pa D = true ↔ ((deepF (cutP d f) && decide (hdF (cutP d f) = m)) = true ∧ inB f.pa d = true) := by
  rw [inB_list, inB_list, Bool.and_eq_true, decide_eq_true_eq, hD]
  constructor
  · rintro ⟨r, hr⟩
    have hr2 : pth f = d.data.toList ++ 47 :: (m ++ 47 :: r) := by
      show f.pa.data.toList = _
      rw [hr, List.append_assoc, List.cons_append]
    obtain ⟨h1, h2, _⟩ := deep_of hm (cut_pth hr2)
    exact ⟨⟨h1, h2⟩, _, hr2⟩
  · rintro ⟨⟨h1, h2⟩, r, hr⟩
    have hr1 : pth f = d.data.toList ++ 47 :: r := hr
    have h3 := (deep_sl h1).2
    rw [h2, cut_pth hr1] at h3
    exact ⟨pth (subF (cutP d f)), by rw [hr, List.append_assoc, List.cons_append, ← h3]⟩
theorem cut_cut (f : Fl) (d : ByteArray) (m : List UInt8) (D : ByteArray) (hD : D.data.toList = d.data.toList ++ 47 :: m) (h1 : deepF (cutP d f) = true) (h2 : hdF (cutP d f) = m) (h3 : inB f.pa d = true) : cutP D f = subF (cutP d f) := by
  obtain ⟨r, hr⟩ := (inB_list _ _).1 h3
  have hr1 : pth f = d.data.toList ++ 47 :: r := hr
  have h4 := (deep_sl h1).2
  rw [h2, cut_pth hr1] at h4
  have h5 : pth f = D.data.toList ++ 47 :: pth (subF (cutP d f)) := by
    rw [hr1, hD, List.append_assoc, List.cons_append, ← h4]
  exact fl_ext (cut_pth h5) (show f.tx = (subF (cutP d f)).tx from (subF_tx (cutP d f)).symm) (show f.rn = (subF (cutP d f)).rn from (subF_rn (cutP d f)).symm)
theorem und_und (L : List Fl) (d : ByteArray) (m : List UInt8) (hm : (47 : UInt8) ∉ m) (D : ByteArray) (hD : D.data.toList = d.data.toList ++ 47 :: m) : undF L D = sub m (undF L d) := by
  induction L with
  | nil => rfl
  | cons f l ih =>
    have e1 : undF (f :: l) D = if inB f.pa D = true then cutP D f :: undF l D else undF l D := by
      unfold undF
      by_cases h : inB f.pa D = true
      · rw [if_pos h]; simp [h]
      · rw [if_neg h]; simp [h]
    have e2 : undF (f :: l) d = if inB f.pa d = true then cutP d f :: undF l d else undF l d := by
      unfold undF
      by_cases h : inB f.pa d = true
      · rw [if_pos h]; simp [h]
      · rw [if_neg h]; simp [h]
    have e3 : ∀ (g : Fl) (S : List Fl), sub m (g :: S) = if (deepF g && decide (hdF g = m)) = true then subF g :: sub m S else sub m S := fun g S => by
      unfold sub
      by_cases h : (deepF g && decide (hdF g = m)) = true
      · rw [if_pos h]; simp [h]
      · rw [if_neg h]; simp [h]
    have hk := in_in f d m hm D hD
    rw [e1, e2, ih]
    by_cases h1 : inB f.pa D = true
    · rw [if_pos h1]
      obtain ⟨h2, h3⟩ := hk.1 h1
      rw [if_pos h3, e3, if_pos h2]
      rw [Bool.and_eq_true, decide_eq_true_eq] at h2
      rw [cut_cut f d m D hD h2.1 h2.2 h3]
    · rw [if_neg h1]
      by_cases h3 : inB f.pa d = true
      · rw [if_pos h3, e3, if_neg (fun h2 => h1 (hk.2 ⟨h2, h3⟩))]
      · rw [if_neg h3]
theorem dv_sub (d : ByteArray) (L : List Fl) (m : List UInt8) (hm : (47 : UInt8) ∉ m) (h0 : m ≠ []) : dv (pj d m) L = sub m (dv d L) := by
  have h1 := pj_ne d h0
  unfold dv
  rw [if_neg h1]
  unfold pj
  by_cases hd : d.data.toList = []
  · rw [if_pos hd, if_pos hd]
    exact und_sub L m hm
  · rw [if_neg hd, if_neg hd]
    exact und_und L d m hm _ rfl
theorem dv_snoc (d : ByteArray) (L : List Fl) (f : Fl) : dv d (L ++ [f]) = if d.data.toList = [] then L ++ [f] else if inB f.pa d = true then dv d L ++ [cutP d f] else dv d L := by
  unfold dv
  by_cases hd : d.data.toList = []
  · simp only [if_pos hd]
  · simp only [if_neg hd]
    exact undF_snoc L d f

/-- The names there, rising. -/
def hs (S : List Fl) : List (List UInt8) := addAll (S.map hdF)
theorem hs_mem (S : List Fl) (m : List UInt8) : m ∈ hs S ↔ ∃ f ∈ S, hdF f = m := by
  unfold hs
  rw [addAll_mem, List.mem_map]
theorem hs_snoc (S : List Fl) (f : Fl) : hs (S ++ [f]) = insN (hdF f) (hs S) := by
  unfold hs
  rw [List.map_append]
  exact addAll_snoc _ _
theorem hs_len (S : List Fl) : (hs S).length ≤ S.length := by
  have := addAll_len (S.map hdF)
  rwa [List.length_map] at this
theorem hs_nodup (S : List Fl) : (hs S).Nodup := (addAll_up _).imp fun h e => by rw [e] at h; exact List.lt_irrefl _ h

/-- The kind and the text of the file with a path; a directory's kind, if there is none. -/
def ktF (M : List Fl) (p : List UInt8) : Int × ByteArray := M.foldl (fun a f => if pth f = p then (kdF f.rn, f.tx) else a) (3, ⟨#[]⟩)
theorem ktF_snoc (M : List Fl) (f : Fl) (p : List UInt8) : ktF (M ++ [f]) p = if pth f = p then (kdF f.rn, f.tx) else ktF M p := by simp [ktF, List.foldl_append]
theorem ktF_no (M : List Fl) (p : List UInt8) (h : ∀ f ∈ M, pth f ≠ p) : ktF M p = (3, ⟨#[]⟩) := by
  revert h
  refine snocInd (P := fun M => (∀ f ∈ M, pth f ≠ p) → ktF M p = (3, ⟨#[]⟩)) (fun _ => rfl) (fun l a ih h => ?_) M
  rw [ktF_snoc, if_neg (h a (by simp))]
  exact ih fun f hf => h f (by simp [hf])
theorem ktF_yes (M : List Fl) (p : List UInt8) (hn : (M.map pth).Nodup) {f : Fl} (hf : f ∈ M) (h : pth f = p) : ktF M p = (kdF f.rn, f.tx) := by
  revert hn hf
  refine snocInd (P := fun M => (M.map pth).Nodup → f ∈ M → ktF M p = (kdF f.rn, f.tx)) (fun _ hf => by cases hf) (fun l a ih hn hf => ?_) M
  rw [List.map_append, List.nodup_append] at hn
  rw [ktF_snoc]
  rcases List.mem_append.1 hf with h1 | h1
  · have : pth a ≠ p := fun e => hn.2.2 (pth f) (List.mem_map.2 ⟨f, h1, rfl⟩) (pth a) (by simp) (by rw [h, e])
    rw [if_neg this]
    exact ih hn.1 h1
  · rw [List.mem_singleton] at h1
    subst h1
    rw [if_pos h]
theorem okT_nodup {L : List Fl} (h : okT L) : (L.map pth).Nodup := List.pairwise_map.2 (h.2.2.imp fun hh e => by have := hh.1; rw [e] at this; exact List.lt_irrefl _ this)
theorem kt_file {L : List Fl} (h : okT L) (d : ByteArray) {g : Fl} (hg : g ∈ dv d L) : ktF L (pj d (pth g)).data.toList = (kdF g.rn, g.tx) := by
  rw [pj_list]
  unfold dv at hg
  by_cases hd : d.data.toList = []
  · rw [if_pos hd] at hg ⊢
    exact ktF_yes L _ (okT_nodup h) hg rfl
  · rw [if_neg hd] at hg ⊢
    obtain ⟨f, hf, rfl⟩ := List.mem_map.1 hg
    rw [List.mem_filter] at hf
    obtain ⟨r, hr⟩ := (inB_list _ _).1 hf.2
    rw [cut_pth (f := f) hr]
    exact ktF_yes (f := f) L _ (okT_nodup h) hf.1 hr
theorem kt_dir {L : List Fl} (d : ByteArray) {m : List UInt8} (h : ∀ g ∈ dv d L, pth g ≠ m) : ktF L (pj d m).data.toList = (3, ⟨#[]⟩) := by
  rw [pj_list]
  unfold dv at h
  refine ktF_no _ _ fun f hf e => ?_
  by_cases hd : d.data.toList = []
  · rw [if_pos hd] at h e
    exact h f hf e
  · rw [if_neg hd] at h e
    exact h (cutP d f) (List.mem_map.2 ⟨f, List.mem_filter.2 ⟨hf, (inB_list _ _).2 ⟨m, e⟩⟩, rfl⟩) (cut_pth e)

/-- A name is a file's, or a directory's. -/
theorem hs_cases {L : List Fl} (d : ByteArray) (hL : okT L) (h : okT (dv d L)) {m : List UInt8} (hm : m ∈ hs (dv d L)) :
    (∃ f, f ∈ dv d L ∧ deepF f = false ∧ pth f = m ∧ ktF L (pj d m).data.toList = (kdF f.rn, f.tx)) ∨ (m ∈ names (dv d L) ∧ ktF L (pj d m).data.toList = (3, ⟨#[]⟩)) := by
  obtain ⟨f, hf, hh⟩ := (hs_mem _ _).1 hm
  cases hd : deepF f with
  | false =>
    have e : hdF f = pth f := by unfold hdF; rw [top_sl hd]
    rw [e] at hh
    subst hh
    exact .inl ⟨f, hf, hd, rfl, kt_file hL d hf⟩
  | true =>
    have hn : m ∈ names (dv d L) := (names_mem _ _).2 ⟨f, hf, hd, hh⟩
    refine .inr ⟨hn, kt_dir d fun g hg e => ?_⟩
    have hnd := nsF_nodup smD 0 h
    rw [nsF_keys, List.nodup_append] at hnd
    have hs : (47 : UInt8) ∉ pth g := by rw [e, ← hh]; exact hd_slash f
    exact hnd.2.2 (pth g) (List.mem_map.2 ⟨g, List.mem_filter.2 ⟨hg, by rw [(top_of hs).1]; rfl⟩, rfl⟩) m hn e
theorem name_in {S : List Fl} {m : List UInt8} (hm : m ∈ names S) : m ∈ hs S := by
  obtain ⟨f, hf, _, hh⟩ := (names_mem _ _).1 hm
  exact (hs_mem _ _).2 ⟨f, hf, hh⟩
theorem top_in {S : List Fl} {f : Fl} (hf : f ∈ S) (hd : deepF f = false) : pth f ∈ hs S := (hs_mem _ _).2 ⟨f, hf, by unfold hdF; rw [top_sl hd]⟩
theorem hs_slash {S : List Fl} {m : List UInt8} (hm : m ∈ hs S) : (47 : UInt8) ∉ m := by
  obtain ⟨f, _, rfl⟩ := (hs_mem _ _).1 hm
  exact hd_slash f
theorem hs_name {S : List Fl} (h : okT S) {m : List UInt8} (hm : m ∈ hs S) : nameOk ⟨m.toArray⟩ = true := by
  obtain ⟨f, hf, rfl⟩ := (hs_mem _ _).1 hm
  cases hd : deepF f with
  | true => exact (ok_sub hd (h.2.1 f hf)).2
  | false =>
    have e : hdF f = pth f := by unfold hdF; rw [top_sl hd]
    rw [e]
    have := top_name hd (h.2.1 f hf)
    rw [show (⟨(pth f).toArray⟩ : ByteArray) = f.pa from by show (⟨f.pa.data.toList.toArray⟩ : ByteArray) = _; rw [Array.toArray_toList]]
    exact this
theorem hs_ne {S : List Fl} (h : okT S) {m : List UInt8} (hm : m ∈ hs S) : m ≠ [] := fun e => by
  have := hs_name h hm
  subst e
  unfold nameOk at this
  rw [Lib.toList_data] at this
  simp at this

/-- The text of what has a name there; its node. -/
def tD (n : Nat) (L : List Fl) (d : ByteArray) (m : List UInt8) : ByteArray := if (ktF L (pj d m).data.toList).1 = 3 then (dirF smD n (sub m (dv d L))).1 else (ktF L (pj d m).data.toList).2
def ndD (n : Nat) (L : List Fl) (d : ByteArray) (m : List UInt8) : Nd := (⟨m.toArray⟩, (ktF L (pj d m).data.toList).1, smD (tD n L d m))
theorem kd_ne (r : Bool) : kdF r ≠ 3 := by cases r <;> decide
theorem ndD_file {n : Nat} {L : List Fl} {d : ByteArray} {f : Fl} (h : ktF L (pj d (pth f)).data.toList = (kdF f.rn, f.tx)) : ndD n L d (pth f) = ndF smD f := by
  unfold ndD tD ndF
  rw [h, if_neg (kd_ne _)]
  show ((⟨f.pa.data.toList.toArray⟩ : ByteArray), _, _) = _
  rw [Array.toArray_toList]
theorem ndD_dir {n : Nat} {L : List Fl} {d : ByteArray} {m : List UInt8} (h : ktF L (pj d m).data.toList = (3, ⟨#[]⟩)) : ndD n L d m = ndM smD m (dirF smD n (sub m (dv d L))).1 := by
  unfold ndD tD ndM
  rw [h, if_pos rfl]
theorem map_nodup {α β : Type} {f : α → β} {l : List α} (h : (l.map f).Nodup) : l.Nodup := (List.pairwise_map.1 h).imp fun h e => h (by rw [e])
theorem ndD_sorted (n : Nat) {L : List Fl} (d : ByteArray) (hL : okT L) (h : okT (dv d L)) : (hs (dv d L)).map (ndD n L d) = sortN (nsF smD n (dv d L)) := by
  have hk : ((hs (dv d L)).map (ndD n L d)).map kyN = hs (dv d L) := by
    rw [List.map_map]
    have : (kyN ∘ ndD n L d) = id := by funext m; rfl
    rw [this, List.map_id]
  refine sortN_uniq (nsF_nodup smD n h) ((List.perm_ext_iff_of_nodup (map_nodup (f := kyN) (by rw [hk]; exact hs_nodup _)) (map_nodup (nsF_nodup smD n h))).2 fun x => ?_) ?_
  · unfold nsF
    rw [List.mem_map, List.mem_append, List.mem_map, List.mem_map]
    constructor
    · rintro ⟨m, hm, rfl⟩
      rcases hs_cases d hL h hm with ⟨f, hf, hd, rfl, hkt⟩ | ⟨hn, hkt⟩
      · exact .inl ⟨f, List.mem_filter.2 ⟨hf, by rw [hd]; rfl⟩, (ndD_file hkt).symm⟩
      · exact .inr ⟨m, hn, (ndD_dir hkt).symm⟩
    · rintro (⟨f, hf, rfl⟩ | ⟨m, hm, rfl⟩)
      · unfold tops at hf
        rw [List.mem_filter] at hf
        exact ⟨pth f, top_in hf.1 (by simpa using hf.2), ndD_file (kt_file hL d hf.1)⟩
      · rcases hs_cases d hL h (name_in hm) with ⟨f, hf, hd, e, _⟩ | ⟨_, hkt⟩
        · exfalso
          have hnd := nsF_nodup smD 0 h
          rw [nsF_keys, List.nodup_append] at hnd
          exact hnd.2.2 (pth f) (List.mem_map.2 ⟨f, List.mem_filter.2 ⟨hf, by rw [hd]; rfl⟩, rfl⟩) m hm e
        · exact ⟨m, name_in hm, ndD_dir hkt⟩
  · rw [List.pairwise_map]
    refine (addAll_up _).imp fun hh => ?_
    unfold leN
    exact decide_eq_true (List.le_of_lt hh)

/-- All texts of a directory but its own; those that are added for a name. -/
def inT (n : Nat) (S : List Fl) : List ByteArray := (tops S).map Fl.tx ++ (names S).flatMap fun m => (dirF smD n (sub m S)).2
def bL (l : List ByteArray) : List (List UInt8) := l.map fun b => b.data.toList
def mrT (n : Nat) (S : List Fl) (m : List UInt8) : List (List UInt8) := match n with | 0 => [] | k + 1 => addAll (bL (inT k (sub m S)))
def adD (n : Nat) (L : List Fl) (d : ByteArray) (m : List UInt8) : List (List UInt8) := (if (ktF L (pj d m).data.toList).1 = 3 then mrT n (dv d L) m else []) ++ [(tD n L d m).data.toList]
theorem dirF_in (n : Nat) (S : List Fl) : (dirF smD (n + 1) S).2 = inT n S ++ [(dirF smD (n + 1) S).1] := rfl
theorem names_ne {S : List Fl} {m : List UInt8} {n : Nat} (hm : m ∈ names S) (hz : ∀ f ∈ S, f.pa.size < n + 1) : 0 < n := by
  obtain ⟨f, hf, hd, _⟩ := (names_mem _ _).1 hm
  have h1 := hz f hf
  have h2 := subF_size hd
  omega
theorem bL_mem (l : List ByteArray) (x : ByteArray) : x.data.toList ∈ bL l ↔ x ∈ l := by
  unfold bL
  rw [List.mem_map]
  constructor
  · rintro ⟨y, hy, e⟩
    rwa [← bytes_ext e]
  · exact fun h => ⟨x, h, rfl⟩
theorem mrT_mem {n : Nat} {S : List Fl} {m x : List UInt8} (hn : 0 < n) : (x ∈ mrT n S m ∨ x = (dirF smD n (sub m S)).1.data.toList) ↔ x ∈ bL (dirF smD n (sub m S)).2 := by
  obtain ⟨k, rfl⟩ : ∃ k, n = k + 1 := ⟨n - 1, by omega⟩
  rw [dirF_in]
  show (x ∈ addAll _ ∨ _) ↔ _
  rw [addAll_mem]
  unfold bL
  rw [List.map_append, List.mem_append, List.map_cons, List.map_nil, List.mem_singleton]
theorem ad_all (n : Nat) {L : List Fl} (d : ByteArray) (hL : okT L) (h : okT (dv d L)) (hz : ∀ f ∈ dv d L, f.pa.size < n + 1) : addAll ((hs (dv d L)).flatMap (adD n L d)) = addAll (bL (inT n (dv d L))) := by
  refine rise_uniq (addAll_up _) (addAll_up _) fun x => ?_
  rw [addAll_mem, addAll_mem, List.mem_flatMap]
  have e1 : x ∈ bL (inT n (dv d L)) ↔ (∃ f, f ∈ tops (dv d L) ∧ f.tx.data.toList = x) ∨ ∃ m ∈ names (dv d L), x ∈ bL (dirF smD n (sub m (dv d L))).2 := by
    unfold bL inT
    rw [List.map_append, List.mem_append, List.map_map, List.mem_map, List.map_flatMap, List.mem_flatMap]
    rfl
  rw [e1]
  constructor
  · rintro ⟨m, hm, hx⟩
    unfold adD tD at hx
    rcases hs_cases d hL h hm with ⟨f, hf, hd, rfl, hkt⟩ | ⟨hn, hkt⟩
    · rw [hkt, if_neg (kd_ne _), if_neg (kd_ne _), List.nil_append, List.mem_singleton] at hx
      exact .inl ⟨f, List.mem_filter.2 ⟨hf, by rw [hd]; rfl⟩, hx.symm⟩
    · rw [hkt, if_pos rfl, if_pos rfl, List.mem_append, List.mem_singleton] at hx
      exact .inr ⟨m, hn, (mrT_mem (names_ne hn hz)).1 hx⟩
  · rintro (⟨f, hf, rfl⟩ | ⟨m, hm, hx⟩)
    · unfold tops at hf
      rw [List.mem_filter] at hf
      have hkt := kt_file hL d hf.1
      refine ⟨pth f, top_in hf.1 (by simpa using hf.2), ?_⟩
      unfold adD tD
      rw [hkt, if_neg (kd_ne _), if_neg (kd_ne _)]
      simp
    · rcases hs_cases d hL h (name_in hm) with ⟨f, hf, hd, e, _⟩ | ⟨_, hkt⟩
      · exfalso
        have hnd := nsF_nodup smD 0 h
        rw [nsF_keys, List.nodup_append] at hnd
        exact hnd.2.2 (pth f) (List.mem_map.2 ⟨f, List.mem_filter.2 ⟨hf, by rw [hd]; rfl⟩, rfl⟩) m hm e
      · refine ⟨m, name_in hm, ?_⟩
        unfold adD tD
        rw [hkt, if_pos rfl, if_pos rfl, List.mem_append, List.mem_singleton]
        exact (mrT_mem (names_ne hm hz)).2 hx
theorem inT_len (n : Nat) {S : List Fl} (h : okT S) (hn : n ≤ 101) : (inT n S).length ≤ 7000 := by
  have h1 := dirF_len smD (n + 1) S
  rw [dirF_in, List.length_append, List.length_singleton] at h1
  have h2 : (n + 1) * S.length ≤ 102 * 60 := Nat.mul_le_mul (by omega) h.1
  omega
theorem mrT_len (n : Nat) {S : List Fl} (h : okT S) (m : List UInt8) (hn : n ≤ 101) : (mrT n S m).length ≤ 7000 := by
  unfold mrT
  cases n with
  | zero => simp
  | succ k =>
    have h1 := addAll_len (bL (inT k (sub m S)))
    unfold bL at h1
    rw [List.length_map] at h1
    have h2 := inT_len k (okT_sub h m) (by omega)
    exact Nat.le_trans h1 h2
theorem adD_len (n : Nat) {L : List Fl} (d : ByteArray) (h : okT (dv d L)) (m : List UInt8) (hn : n ≤ 101) : (adD n L d m).length ≤ 7001 := by
  unfold adD
  rw [List.length_append, List.length_singleton]
  have := mrT_len n h m hn
  split
  · omega
  · simp
theorem adK_len (n : Nat) {L : List Fl} (d : ByteArray) (h : okT (dv d L)) (hn : n ≤ 101) (k : Nat) (hk : k ≤ 60) : (((hs (dv d L)).take k).flatMap (adD n L d)).length ≤ 420060 := by
  have h1 : ∀ l : List (List UInt8), (l.flatMap (adD n L d)).length ≤ l.length * 7001 := by
    intro l
    induction l with
    | nil => simp
    | cons a l ih =>
      rw [List.flatMap_cons, List.length_append, List.length_cons]
      have := adD_len n d h a hn
      omega
  have h2 := h1 ((hs (dv d L)).take k)
  have h3 : ((hs (dv d L)).take k).length ≤ 60 := by rw [List.length_take]; omega
  omega
end Go.Proofs.YtkmlooepakinfaaGreatDoor

/- Trees that lie over each other, plain: what comes of it is a tree; parts; whatever order. -/
namespace Go.Proofs.YtkmlooepakinfaaGreatDoor
open Go.RowKit Go.Shelf Go.Maps Go.WideMaps Go.Sort

theorem chF_ok {L : List Fl} (h : okT L) : chF L = 0 := by
  obtain ⟨h1, h2, h3⟩ := h
  have h4 : flEs L = 0 := flEs_yes L fun j hj => h2 _ (List.getElem_mem hj)
  unfold chF
  rw [if_neg (by omega), if_pos h4, if_pos ((fit_iff L).1 h3)]
theorem ovE_zero {A C : List Fl} (h : ovE A C = 0) : okT A ∧ okT C ∧ thruF A C = false ∧ thruF C A = false ∧ (ovF A C).length ≤ 60 := by
  unfold ovE at h
  by_cases h1 : erF A C ≠ 0
  · rw [if_pos h1] at h; exact absurd h h1
  · rw [if_neg h1] at h
    obtain ⟨hA, hC⟩ := erF_zero (by simpa using h1 : erF A C = 0)
    by_cases h2 : (thruF A C || thruF C A) = true
    · rw [if_pos h2] at h; exact absurd h (by decide)
    · rw [if_neg h2] at h
      have h3 : (thruF A C || thruF C A) = false := by simpa using h2
      rw [Bool.or_eq_false_iff] at h3
      by_cases h4 : 60 < (ovF A C).length
      · rw [if_pos h4] at h; exact absurd h (by decide)
      · exact ⟨okT_of hA, okT_of hC, h3.1, h3.2, by omega⟩
theorem ovE_of {A C : List Fl} (hA : okT A) (hC : okT C) (h1 : thruF A C = false) (h2 : thruF C A = false) (h3 : (ovF A C).length ≤ 60) : ovE A C = 0 := by
  have e : erF A C = 0 := by unfold erF; rw [chF_ok hA, if_pos rfl, chF_ok hC]
  unfold ovE
  rw [if_neg (by simp [e]), h1, h2, if_neg (by decide), if_neg (by omega)]
theorem ovF_mem (A C : List Fl) (f : Fl) : f ∈ ovF A C ↔ (f ∈ A ∧ hasP C (pth f) = false) ∨ f ∈ C := by
  rw [← (ovF_perm A C).mem_iff, ovU_mem]
/-- What lies over is a tree. -/
theorem ov_tree {A C : List Fl} (h : ovE A C = 0) : okT (ovF A C) := by
  obtain ⟨hA, hC, h1, h2, h3⟩ := ovE_zero h
  have hup := ovF_up (okT_nodup hA) (okT_nodup hC)
  have hth : thruF (ovF A C) (ovF A C) = false := by
    rw [thru_ov hA hC (X := ovF A C) fun f => (ovF_perm A C).mem_iff.symm, h1, h2]
    rfl
  have hno : ∀ f ∈ ovF A C, ∀ g ∈ ovF A C, inB f.pa g.pa = false := fun f hf g hg => by
    cases e : inB f.pa g.pa with
    | false => rfl
    | true =>
      have := (thru_mem _ _).2 ⟨f, hf, g, hg, e⟩
      rw [hth] at this
      cases this
  refine ⟨h3, fun f hf => ?_, ?_⟩
  · rcases (ovF_mem A C f).1 hf with ⟨h, _⟩ | h
    · exact hA.2.1 f h
    · exact hC.2.1 f h
  · refine List.Pairwise.imp_of_mem (fun {a b} ha hb hab => ?_) hup
    exact ⟨hab, hno b hb a ha, hno a ha b hb⟩
theorem ovL_ok {A C : List Fl} (h : ovE A C = 0) : ovL A C = ovF A C := by unfold ovL; rw [if_pos h]

/-- A directory by its first name. -/
theorem in_first (f : Fl) (m : List UInt8) (hm : (47 : UInt8) ∉ m) (d D : ByteArray) (hD : D.data.toList = m ++ 47 :: d.data.toList) : inB f.pa D = true ↔ ((deepF f && decide (hdF f = m)) = true ∧ inB (subF f).pa d = true) := by
  rw [inB_list, inB_list, Bool.and_eq_true, decide_eq_true_eq, hD]
  constructor
  · rintro ⟨r, hr⟩
    have hr2 : pth f = m ++ 47 :: (d.data.toList ++ 47 :: r) := by
      show f.pa.data.toList = _
      rw [hr, List.append_assoc, List.cons_append]
    obtain ⟨h1, h2, h3⟩ := deep_of hm hr2
    exact ⟨⟨h1, h2⟩, r, h3⟩
  · rintro ⟨⟨h1, h2⟩, r, hr⟩
    have h3 := (deep_sl h1).2
    have hr1 : pth (subF f) = d.data.toList ++ 47 :: r := hr
    rw [h2, hr1] at h3
    exact ⟨r, by rw [List.append_assoc, List.cons_append]; exact h3⟩
theorem cut_first (f : Fl) (m : List UInt8) (d D : ByteArray) (hD : D.data.toList = m ++ 47 :: d.data.toList) (h1 : deepF f = true) (h2 : hdF f = m) (h3 : inB (subF f).pa d = true) : cutP D f = cutP d (subF f) := by
  obtain ⟨r, hr⟩ := (inB_list _ _).1 h3
  have hr1 : pth (subF f) = d.data.toList ++ 47 :: r := hr
  have h4 := (deep_sl h1).2
  rw [h2, hr1] at h4
  have h5 : pth f = D.data.toList ++ 47 :: r := by rw [h4, hD, List.append_assoc, List.cons_append]
  exact fl_ext ((cut_pth h5).trans (cut_pth hr1).symm) (show f.tx = (subF f).tx from (subF_tx f).symm) (show f.rn = (subF f).rn from (subF_rn f).symm)
theorem und_first (L : List Fl) (m : List UInt8) (hm : (47 : UInt8) ∉ m) (d D : ByteArray) (hD : D.data.toList = m ++ 47 :: d.data.toList) : undF L D = undF (sub m L) d := by
  induction L with
  | nil => rfl
  | cons f l ih =>
    have e1 : ∀ (x : ByteArray) (g : Fl) (S : List Fl), undF (g :: S) x = if inB g.pa x = true then cutP x g :: undF S x else undF S x := fun x g S => by
      unfold undF
      by_cases h : inB g.pa x = true
      · rw [if_pos h]; simp [h]
      · rw [if_neg h]; simp [h]
    have e3 : sub m (f :: l) = if (deepF f && decide (hdF f = m)) = true then subF f :: sub m l else sub m l := by
      unfold sub
      by_cases h : (deepF f && decide (hdF f = m)) = true
      · rw [if_pos h]; simp [h]
      · rw [if_neg h]; simp [h]
    have hk := in_first f m hm d D hD
    rw [e1, e3, ih]
    by_cases h1 : inB f.pa D = true
    · obtain ⟨h2, h3⟩ := hk.1 h1
      rw [if_pos h1, if_pos h2, e1, if_pos h3]
      rw [Bool.and_eq_true, decide_eq_true_eq] at h2
      rw [cut_first f m d D hD h2.1 h2.2 h3]
    · rw [if_neg h1]
      by_cases h2 : (deepF f && decide (hdF f = m)) = true
      · rw [if_pos h2, e1, if_neg (fun h3 => h1 (hk.2 ⟨h2, h3⟩))]
      · rw [if_neg h2]
theorem okT_und : ∀ (n : Nat) (d : ByteArray), d.size ≤ n → ∀ L : List Fl, okT L → okT (undF L d) := by
  intro n
  induction n with
  | zero =>
    intro d hd L h
    have e : d.data.toList = [] := List.length_eq_zero_iff.1 (by rw [Array.length_toList]; show d.data.size = 0; have : d.size = d.data.size := rfl; omega)
    have : undF L d = sub [] L := by
      have := und_sub L [] (by simp)
      rwa [show (⟨([] : List UInt8).toArray⟩ : ByteArray) = d from (bytes_ext e).symm] at this
    rw [this]
    exact okT_sub h _
  | succ n ih =>
    intro d hd L h
    cases hs : sl d.data.toList with
    | none =>
      have := und_sub L d.data.toList (sl_none hs)
      rw [Array.toArray_toList] at this
      rw [this]
      exact okT_sub h _
    | some x =>
      obtain ⟨m, r⟩ := x
      obtain ⟨e, hm⟩ := sl_some hs
      have h1 := und_first L m hm ⟨r.toArray⟩ d e
      rw [h1]
      refine ih ⟨r.toArray⟩ ?_ (sub m L) (okT_sub h m)
      have h2 := congrArg List.length e
      rw [List.length_append, List.length_cons, Array.length_toList] at h2
      show r.toArray.size ≤ n
      rw [List.size_toArray]
      have h3 : d.size = d.data.size := rfl
      omega
theorem und_mem (L : List Fl) (d : ByteArray) (x : Fl) : x ∈ undF L d ↔ ∃ f ∈ L, inB f.pa d = true ∧ cutP d f = x := by
  unfold undF
  rw [List.mem_map]
  constructor
  · rintro ⟨f, hf, rfl⟩
    rw [List.mem_filter] at hf
    exact ⟨f, hf.1, hf.2, rfl⟩
  · rintro ⟨f, hf, h, rfl⟩
    exact ⟨f, List.mem_filter.2 ⟨hf, h⟩, rfl⟩
theorem cut_full {f : Fl} {d : ByteArray} (h : inB f.pa d = true) : pth f = d.data.toList ++ 47 :: pth (cutP d f) := by
  obtain ⟨r, hr⟩ := (inB_list _ _).1 h
  have hr1 : pth f = d.data.toList ++ 47 :: r := hr
  rw [hr1, cut_pth hr1]
theorem thru_und {A C : List Fl} (d : ByteArray) (h : thruF A C = false) : thruF (undF A d) (undF C d) = false := by
  cases e : thruF (undF A d) (undF C d) with
  | false => rfl
  | true =>
    obtain ⟨x, hx, y, hy, hxy⟩ := (thru_mem _ _).1 e
    obtain ⟨f, hf, hfd, rfl⟩ := (und_mem A d x).1 hx
    obtain ⟨g, hg, hgd, rfl⟩ := (und_mem C d y).1 hy
    obtain ⟨r, hr⟩ := (inB_list _ _).1 hxy
    have hr1 : pth (cutP d f) = pth (cutP d g) ++ 47 :: r := hr
    have : inB f.pa g.pa = true := (inB_list _ _).2 ⟨r, by
      show pth f = pth g ++ 47 :: r
      rw [cut_full hfd, cut_full hgd, hr1, List.append_assoc, List.cons_append]⟩
    rw [(thru_mem A C).2 ⟨f, hf, g, hg, this⟩] at h
    cases h
/-- What is under a directory of what lies over is what lies over under it. -/
theorem und_ov {A C : List Fl} (hA : okT A) (hC : okT C) (d : ByteArray) : undF (ovF A C) d = ovF (undF A d) (undF C d) := by
  have oA := okT_und d.size d (Nat.le_refl _) A hA
  have oC := okT_und d.size d (Nat.le_refl _) C hC
  refine ovF_uniq (okT_nodup oA) (okT_nodup oC) ?_ fun x => ?_
  · unfold undF
    rw [List.pairwise_map]
    refine List.Pairwise.imp_of_mem (fun {a b} ha hb hab => ?_) ((ovF_up (okT_nodup hA) (okT_nodup hC)).filter _)
    rw [List.mem_filter] at ha hb
    rw [cut_full ha.2, cut_full hb.2, lt_app, List.cons_lt_cons_iff] at hab
    rcases hab with h | ⟨_, h⟩
    · exact absurd h (by decide)
    · exact h
  · have hpp : ∀ {f g : Fl}, inB f.pa d = true → inB g.pa d = true → (pth (cutP d f) = pth (cutP d g) ↔ pth f = pth g) := fun hf hg => by
      rw [cut_full hf, cut_full hg]
      constructor
      · intro h; rw [h]
      · intro h
        have := List.append_cancel_left h
        injection this
    rw [und_mem, ovU_mem, und_mem, und_mem]
    constructor
    · rintro ⟨f, hf, hd, rfl⟩
      rcases (ovF_mem A C f).1 hf with ⟨h1, h2⟩ | h1
      · refine .inl ⟨⟨f, h1, hd, rfl⟩, ?_⟩
        cases e : hasP (undF C d) (pth (cutP d f)) with
        | false => rfl
        | true =>
          obtain ⟨y, hy, hyp⟩ := (hasP_iff _ _).1 e
          obtain ⟨g, hg, hgd, rfl⟩ := (und_mem C d y).1 hy
          rw [(hasP_iff C _).2 ⟨g, hg, (hpp hgd hd).1 hyp⟩] at h2
          cases h2
      · exact .inr ⟨f, h1, hd, rfl⟩
    · rintro (⟨⟨f, h1, hd, rfl⟩, h2⟩ | ⟨f, h1, hd, rfl⟩)
      · refine ⟨f, (ovF_mem A C f).2 (.inl ⟨h1, ?_⟩), hd, rfl⟩
        cases e : hasP C (pth f) with
        | false => rfl
        | true =>
          obtain ⟨g, hg, hgp⟩ := (hasP_iff _ _).1 e
          have hgd : inB g.pa d = true := by rw [same_pa hgp]; exact hd
          rw [(hasP_iff (undF C d) _).2 ⟨cutP d g, (und_mem C d _).2 ⟨g, hg, hgd, rfl⟩, (hpp hgd hd).2 hgp⟩] at h2
          cases h2
      · exact ⟨f, (ovF_mem A C f).2 (.inr h1), hd, rfl⟩
theorem und_ovE {A C : List Fl} (h : ovE A C = 0) (d : ByteArray) : ovE (undF A d) (undF C d) = 0 := by
  obtain ⟨hA, hC, h1, h2, h3⟩ := ovE_zero h
  refine ovE_of (okT_und d.size d (Nat.le_refl _) A hA) (okT_und d.size d (Nat.le_refl _) C hC) (thru_und d h1) (thru_und d h2) ?_
  rw [← und_ov hA hC]
  exact Nat.le_trans (undF_len _ _) h3

/-- Whatever order one lays in. -/
theorem hasP_ov (A C : List Fl) (k : List UInt8) : hasP (ovF A C) k = (hasP A k || hasP C k) := by
  rw [Bool.eq_iff_iff, Bool.or_eq_true, hasP_iff, hasP_iff, hasP_iff]
  constructor
  · rintro ⟨f, hf, e⟩
    rcases (ovF_mem A C f).1 hf with ⟨h, _⟩ | h
    · exact .inl ⟨f, h, e⟩
    · exact .inr ⟨f, h, e⟩
  · rintro (⟨f, hf, e⟩ | ⟨f, hf, e⟩)
    · cases h : hasP C (pth f) with
      | false => exact ⟨f, (ovF_mem A C f).2 (.inl ⟨hf, h⟩), e⟩
      | true =>
        obtain ⟨g, hg, e2⟩ := (hasP_iff _ _).1 h
        exact ⟨g, (ovF_mem A C g).2 (.inr hg), e2.trans e⟩
    · exact ⟨f, (ovF_mem A C f).2 (.inr hf), e⟩
theorem ov_assoc {A B C : List Fl} (hA : okT A) (hC : okT C) (hAB : okT (ovF A B)) (hBC : okT (ovF B C)) : ovF (ovF A B) C = ovF A (ovF B C) := by
  refine ovF_uniq (okT_nodup hA) (okT_nodup hBC) (ovF_up (okT_nodup hAB) (okT_nodup hC)) fun f => ?_
  rw [ovF_mem, ovU_mem, ovF_mem, ovF_mem, hasP_ov, Bool.or_eq_false_iff]
  constructor
  · rintro (⟨(⟨h1, h2⟩ | h1), h3⟩ | h1)
    · exact .inl ⟨h1, h2, h3⟩
    · exact .inr (.inl ⟨h1, h3⟩)
    · exact .inr (.inr h1)
  · rintro (⟨h1, h2, h3⟩ | ⟨h1, h3⟩ | h1)
    · exact .inl ⟨.inl ⟨h1, h2⟩, h3⟩
    · exact .inl ⟨.inr h1, h3⟩
    · exact .inr h1
theorem ov_again {A B : List Fl} (h : ovE A B = 0) : ovE (ovF A B) B = 0 ∧ ovF (ovF A B) B = ovF A B := by
  obtain ⟨hA, hB, _, _, h3⟩ := ovE_zero h
  have hT := ov_tree h
  have e : ovF (ovF A B) B = ovF A B := by
    refine (ovF_uniq (okT_nodup hT) (okT_nodup hB) (ovF_up (okT_nodup hA) (okT_nodup hB)) fun f => ?_).symm
    rw [ovU_mem, ovF_mem]
    constructor
    · rintro (⟨h1, h2⟩ | h1)
      · exact .inl ⟨.inl ⟨h1, h2⟩, h2⟩
      · exact .inr h1
    · rintro (⟨(⟨h1, h2⟩ | h1), _⟩ | h1)
      · exact .inl ⟨h1, h2⟩
      · exact .inr h1
      · exact .inr h1
  have hin : ∀ f ∈ B, f ∈ ovF A B := fun f hf => (ovF_mem A B f).2 (.inr hf)
  have n1 : thruF (ovF A B) B = false := by
    cases e2 : thruF (ovF A B) B with
    | false => rfl
    | true =>
      obtain ⟨f, hf, g, hg, h2⟩ := (thru_mem _ _).1 e2
      rw [fit_no hT hf (hin g hg)] at h2
      cases h2
  have n2 : thruF B (ovF A B) = false := by
    cases e2 : thruF B (ovF A B) with
    | false => rfl
    | true =>
      obtain ⟨f, hf, g, hg, h2⟩ := (thru_mem _ _).1 e2
      rw [fit_no hT (hin f hf) hg] at h2
      cases h2
  exact ⟨ovE_of hT hB n1 n2 (by rw [e]; exact h3), e⟩
theorem getF_in {L : List Fl} (h : okT L) {f : Fl} (hf : f ∈ L) : getF L (pth f) = f := by
  obtain ⟨i, hi, rfl⟩ := List.getElem_of_mem hf
  refine getF_at i hi rfl fun j hj hji e => ?_
  have h3 := List.pairwise_iff_getElem.1 (okT_nodup h) j i (by simpa using hj) (by simpa using hi) hji
  rw [List.getElem_map, List.getElem_map] at h3
  exact h3 e
/-- What lies over differs from what it lay on in nothing but its paths. -/
theorem ov_differs {A B : List Fl} (h : ovE A B = 0) {x : List UInt8} (hx : x ∈ difF A (ovF A B)) : hasP B x = true := by
  obtain ⟨hA, hB, _, _, _⟩ := ovE_zero h
  have hT := ov_tree h
  rw [dif_same, addAll_mem, List.mem_append] at hx
  have key : ∀ {X Y : List Fl}, x ∈ othF X Y → ∃ f ∈ X, pth f = x ∧ sameB (getF Y (pth f)) f = false := fun {X Y} h => by
    obtain ⟨f, hf, e⟩ := List.mem_map.1 h
    rw [List.mem_filter] at hf
    exact ⟨f, hf.1, e, by simpa using hf.2⟩
  cases e : hasP B x with
  | true => rfl
  | false =>
    exfalso
    rcases hx with hx | hx
    · obtain ⟨f, hf, rfl, hs⟩ := key hx
      have h1 : f ∈ ovF A B := (ovF_mem A B f).2 (.inl ⟨hf, e⟩)
      rw [getF_in hT h1, (sameB_iff f f).2 rfl] at hs
      cases hs
    · obtain ⟨f, hf, rfl, hs⟩ := key hx
      rcases (ovF_mem A B f).1 hf with ⟨h1, _⟩ | h1
      · rw [getF_in hA h1, (sameB_iff f f).2 rfl] at hs
        cases hs
      · rw [(hasP_iff B _).2 ⟨f, h1, rfl⟩] at e
        cases e
end Go.Proofs.YtkmlooepakinfaaGreatDoor

/- Calls of trees, whose files lie somewhere. -/
namespace Go.Proofs.YtkmlooepakinfaaGreatDoor
open Go.RowKit Go.Shelf Go.Sort

/-- How files are answered, with an error: they lie somewhere. -/
def FsP (er : Int) (X : List Fl) (W : World) (e : Ending) (w' : World) : Prop := ∃ ra rc, e = .returned (.tuple #[.slice ra X.length rc, .int .i64 er]) ∧ Hid (IsFl w' ra X) ∧ Hid (Below W.heap.size W w')
theorem fs_of {er : Int} {X : List Fl} {W : World} {e : Ending} {w' : World} (h : RsP er X W e w') : FsP er X W e w' := by
  obtain ⟨a, c, h1, h2, h3⟩ := h
  exact ⟨a, c, h1, own_files h2 rfl, h3⟩
theorem OverC (xa ya : Option Addr) (xc yc : Nat) (X Y : List Fl) (W : World) (hx : IsFl W xa X) (hy : IsFl W ya Y) (hm : MaxIs W) :
    Calls Tryz.prog 5 #[.slice xa X.length xc, .slice ya Y.length yc] W (FsP (ovE X Y) (ovL X Y) W) := (Over_any xa ya xc yc X Y W hx hy hm).mono fun _ _ h => fs_of h
theorem UnderC (xa : Option Addr) (xc : Nat) (X : List Fl) (d : ByteArray) (W : World) (hx : IsFl W xa X) (hm : MaxIs W) :
    Calls Tryz.prog 6 #[.slice xa X.length xc, .string d] W (FsP (unE X d) (unL X d) W) := (Under_any xa xc X d W hx hm).mono fun _ _ h => fs_of h
theorem SameC (xa ya : Option Addr) (xc yc : Nat) (X : List Fl) (W : World) (hn : X.length ≤ 60) (hx : IsFl W xa X) (hy : IsFl W ya X) :
    Calls Tryz.prog 8 #[.slice xa X.length xc, .slice ya X.length yc] W fun e w' => e = .returned (.bool true) ∧ Hid (Below W.heap.size W w') := by
  refine (SameFiles_any xa ya xc yc X X W (by omega) hx hy).mono ?_
  rintro e w' ⟨b, rfl, hb, n, rfl⟩
  rw [hb.2 rfl]
  exact ⟨rfl, below_drewN (Below.refl _ _) n⟩
theorem IsFl.up {w w' : World} {ao : Option Addr} {L : List Fl} (h : IsFl w ao L) (hb : Below w.heap.size w w') : IsFl w' ao L := h.below hb (Nat.le_refl _)
theorem unE_und {L : List Fl} {d : ByteArray} (h : okT L) (hp : pathOk d = true) : unE L d = (if undF L d = [] then 5 else 0) ∧ unL L d = undF L d := by
  have e : unE L d = if undF L d = [] then 5 else 0 := by
    unfold unE
    rw [if_neg (by simp [chF_ok h]), if_neg (by rw [hp]; decide)]
  refine ⟨e, ?_⟩
  unfold unL
  rw [e]
  by_cases h1 : undF L d = []
  · rw [if_pos h1, if_neg (by decide), h1]
  · rw [if_neg h1, if_pos rfl]
theorem unE_form {L : List Fl} {d : ByteArray} (h : okT L) (hp : pathOk d = false) : unE L d = 1 := by
  unfold unE
  rw [if_neg (by simp [chF_ok h]), if_pos hp]
end Go.Proofs.YtkmlooepakinfaaGreatDoor

/- What the document's own CheckNodes, Rise and PackNodes answer. -/
namespace Go.Proofs.YtkmlooepakinfaaGreatDoor
open Go.RowKit Go.Shelf

theorem leq_lss : ∀ (y x : List UInt8), (Op.bytesLess y x || y == x) = !Op.bytesLess x y
  | [], [] => rfl
  | [], _ :: _ => rfl
  | _ :: _, [] => rfl
  | a :: y, b :: x => by
    have ih := leq_lss y x
    have h1 : (a < b) = (a.toNat < b.toNat) := rfl
    have h2 : (b < a) = (b.toNat < a.toNat) := rfl
    unfold Op.bytesLess
    rcases Nat.lt_trichotomy a.toNat b.toNat with h | h | h
    · have hne : a ≠ b := fun e => by rw [e] at h; omega
      have h3 : ¬ b.toNat < a.toNat := by omega
      simp [h1, h2, h, h3, hne.symm]
    · obtain rfl : a = b := UInt8.toNat_inj.1 h
      simp [h1] at ih ⊢
      exact ih
    · have hne : a ≠ b := fun e => by rw [e] at h; omega
      have h3 : ¬ a.toNat < b.toNat := by omega
      simp [h1, h2, h, h3, hne]
theorem less_cls (a b : ByteArray) : (less a b = true ∧ Op.bytesLess b.toList a.toList = false ∧ (b.toList == a.toList) = false) ∨ (less a b = false ∧ Op.bytesLess b.toList a.toList = true) ∨ (less a b = false ∧ Op.bytesLess b.toList a.toList = false ∧ (b.toList == a.toList) = true) := by
  have h := leq_lss b.toList a.toList
  unfold less
  cases h1 : Op.bytesLess a.toList b.toList <;> cases h2 : Op.bytesLess b.toList a.toList <;> cases h3 : (b.toList == a.toList) <;> simp_all

set_option maxHeartbeats 1000000 in
set_option maxRecDepth 100000 in
theorem Rise_zero (a : Option Addr) (cap : Nat) (w : World) : Calls Tryz.prog 10 #[.slice a 0 cap] w fun e w' => e = .returned (.bool true) ∧ w' = w := by
  go_enter Tryz.func10, Tryz.ntmps10
  go_wp2
  refine wp_loop_rounds 1 ?_
  rw [rounds_succ]
  go_wp2
  go_ret
  exact ⟨rfl, rfl⟩

set_option maxHeartbeats 2000000 in
set_option maxRecDepth 100000 in
theorem Rise_some (g o cap : Nat) (ss : List ByteArray) (w : World) (hn : ss.length ≤ 4611686018427387904) (hg : g < w.heap.size) (hc : ∀ j (hj : j < ss.length), w.cell? ⟨g, o + j, none⟩ = some (.string ss[j])) :
    Calls Tryz.prog 10 #[.slice (some ⟨g, o, none⟩) ss.length cap] w fun e w' => e = .returned (.bool (riseB ss)) ∧ Below w.heap.size w w' := by
  have HC : Hid _ := hc
  have hn1 : (ss.length : Int) ≤ 4611686018427387904 := by omega
  clear hc
  go_enter Tryz.func10, Tryz.ntmps10
  go_wp2
  go_loopw [3] (fun i wr => ∃ k : Nat, 1 ≤ k ∧ k ≤ max 1 ss.length ∧ i = .int .i64 k ∧ (∀ j, (hj : j + 1 < ss.length) → j + 1 < k → less ss[j] ss[j + 1] = true) ∧ Below w.heap.size w wr) (fun i _ => ss.length - (intOf i).toNat)
  case atStart => exact ⟨1, by omega, by omega, rfl, by omega, Below.refl _ _⟩
  case round =>
    obtain ⟨k, hk1, hk, rfl, hlo, hb⟩ := hrel
    have HL : Hid _ := hlo
    have HB : Hid (Below w.heap.size w wr) := hb
    clear hlo hb
    by_cases hlt : k < ss.length
    · obtain ⟨m, rfl⟩ : ∃ m, k = m + 1 := ⟨k - 1, by omega⟩
      have a0 := (HB.out.cell (p := ⟨g, o + m, none⟩) hg).trans (HC.out m (by omega))
      have b0 := (HB.out.cell (p := ⟨g, o + (m + 1), none⟩) hg).trans (HC.out (m + 1) hlt)
      have i1 : (0 : Int) ≤ (m : Int) := by omega
      have i2 : (m : Int) < ss.length := by omega
      have i3 : (0 : Int) ≤ (m : Int) + 1 := by omega
      have i4 : (m : Int) + 1 < ss.length := by omega
      have i5 : IntKind.i64.wrap ((m : Int) + 1 - 1) = m := by rw [wraps_i64 _ (by omega) (by omega)]; omega
      have i6 : IntKind.i64.wrap (m : Int) = m := wraps_i64 _ (by omega) (by omega)
      have i7 : ((m : Int) + 1).toNat = m + 1 := by omega
      rcases less_cls ss[m] ss[m + 1] with ⟨h1, h2, h3⟩ | ⟨h1, h2⟩ | ⟨h1, h2, h3⟩
      · have HLS : Hid _ := h1
        clear h1
        go_wp2_with fail
        go_region_held3 (fun w' => w'.cell? ⟨g, o + m, none⟩ = some (.string ss[m]) ∧ w'.cell? ⟨g, o + (m + 1), none⟩ = some (.string ss[m + 1])) (first | (simp [go_sem, *]; done) | (go_split_ands; constructor <;> assumption)) (fail)
        go_wp2
        refine ⟨⟨m + 2, by omega, by omega, by go_num, fun j hj hjk => ?_, HB.out.drew⟩, by simp [intOf]; omega⟩
        by_cases h : j + 1 < m + 1
        · exact HL.out j hj h
        · obtain rfl : j = m := by omega
          exact HLS.out
      · have HLS : Hid _ := h1
        clear h1
        go_wp2_with fail
        go_region_held3 (fun w' => w'.cell? ⟨g, o + m, none⟩ = some (.string ss[m]) ∧ w'.cell? ⟨g, o + (m + 1), none⟩ = some (.string ss[m + 1])) (first | (simp [go_sem, *]; done) | (go_split_ands; constructor <;> assumption)) (fail)
        go_wp2
        go_ret
        refine ⟨?_, HB.out.drew⟩
        rw [riseB_no ss m hlt HLS.out]
        rfl
      · have HLS : Hid _ := h1
        clear h1
        go_wp2_with fail
        go_region_held3 (fun w' => w'.cell? ⟨g, o + m, none⟩ = some (.string ss[m]) ∧ w'.cell? ⟨g, o + (m + 1), none⟩ = some (.string ss[m + 1])) (first | (simp [go_sem, *]; done) | (go_split_ands; constructor <;> assumption)) (fail)
        go_wp2
        go_ret
        refine ⟨?_, HB.out.drew⟩
        rw [riseB_no ss m hlt HLS.out]
        rfl
    · go_wp2
      go_ret
      refine ⟨?_, HB.out⟩
      rw [riseB_yes ss (fun j hj => HL.out j hj (by omega))]
      rfl

def nmCells (l : List Nd) : List Value := l.map fun n => .string n.1
theorem Rise_own (ns : List Nd) (v : Value) (w : World) (base : Nat) (hn : ns.length ≤ 60) (h : w.ownsRow base 9 1 v ns.length (nmCells ns)) :
    Calls Tryz.prog 10 #[v] w fun e w' => e = .returned (.bool (riseB (ns.map (·.1)))) ∧ Below w.heap.size w w' := by
  have hcells := fun (g : Nat) (hg : v.ownBlock = some g) => h.cells hg
  rcases h.2 with ⟨h1, h2⟩ | ⟨g, cap, cur, hv, _, hh, _⟩
  · rw [List.length_eq_zero_iff.1 h2, h1]
    refine (Rise_zero none 0 w).mono ?_
    rintro e w' ⟨rfl, rfl⟩
    exact ⟨rfl, Below.refl _ _⟩
  · subst hv
    have := Rise_some g 0 cap (ns.map (·.1)) w (by simp; omega) (Array.getElem?_eq_some_iff.1 hh).1 (fun j hj => by
      have hj' : j < ns.length := by simpa using hj
      have := hcells g rfl j (.string (ns.map (·.1))[j]) (by simp [nmCells, List.getElem?_eq_getElem hj'])
      rwa [show (⟨g, 0, none⟩ : Addr).add j = ⟨g, 0 + j, none⟩ from addr_add g 0 j] at this)
    rw [List.length_map] at this
    exact this
theorem kindNo_no {k : Int} (h : kindNo k = false) : 1 ≤ k ∧ k ≤ 3 := by
  simp [kindNo] at h
  omega
theorem kindNo_yes {k : Int} (h : kindNo k = true) : k < 1 ∨ (1 ≤ k ∧ 3 < k) := by
  simp [kindNo] at h
  omega
end Go.Proofs.YtkmlooepakinfaaGreatDoor

/- Calls of trees whose answers are rows of one's own; files copied, and one more behind them. -/
namespace Go.Proofs.YtkmlooepakinfaaGreatDoor
open Go.RowKit Go.Shelf Go.Maps Go.WideMaps Go.Sort
attribute [local go_sem ↓] appS_eq

/-- The file that stands in the spare room. -/
def roomL : Fl := ⟨⟨#[114, 111, 111, 109]⟩, ⟨#[115, 112, 97, 114, 101]⟩, false⟩
theorem roomF {ao : Option Addr} {ac : Nat} {L : List Fl} {w : World} (hl : IsFl w ao L) (hn : L.length ≤ 10000000) :
    ∃ g1 c1 w1 g2 c2 w2, (appS #[22, 22] 22 #[.slice (some ⟨w.heap.size, 0, none⟩) 0 0, .slice ao L.length ac]).run Tryz.prog (w.alloc (.cells #[] 25)) = .ok (.slice (some ⟨g1, 0, none⟩) L.length c1) w1 ∧
      (appS #[22, 22] 22 #[.slice (some ⟨g1, 0, none⟩) L.length c1, .slice (some ⟨w1.heap.size, 0, none⟩) 1 1]).run Tryz.prog (w1.alloc (.cells #[.string ⟨#[114, 111, 111, 109]⟩, .string ⟨#[115, 112, 97, 114, 101]⟩, .bool false] 25)) = .ok (.slice (some ⟨g2, 0, none⟩) (L.length + 1) c2) w2 ∧
      w2.ownsRow w.heap.size 25 3 (.slice (some ⟨g2, 0, none⟩) (L.length + 1) c2) (L.length + 1) (flCells (L ++ [roomL])) ∧ Below w.heap.size w w2 ∧ L.length + 1 ≤ c2 := by
  obtain ⟨i0, hi, hz0, hz1, hz2⟩ := info_p infF
  obtain ⟨g1, c1, w1, hr1, ho1, hb1⟩ := copyF (ac := ac) hl hn
  have hb2 : Below w.heap.size w (w1.alloc (.cells #[.string ⟨#[114, 111, 111, 109]⟩, .string ⟨#[115, 112, 97, 114, 101]⟩, .bool false] 25)) := hb1.alloc hb1.size _
  have hsrc : ∀ j u, (flCells [roomL])[j]? = some u → (w1.alloc (.cells #[.string ⟨#[114, 111, 111, 109]⟩, .string ⟨#[115, 112, 97, 114, 101]⟩, .bool false] 25)).cell? ((⟨w1.heap.size, 0, none⟩ : Addr).add j) = some u := fun j u hu => by
    rw [Addr.add_lit, Nat.zero_add]
    refine al_at w1 _ _ _ j u rfl ?_
    rw [← hu]
    match j with
    | 0 => rfl
    | 1 => rfl
    | 2 => rfl
    | j + 3 => simp [flCells]
  obtain ⟨v2, w2, hr2, ho2, hg2, _⟩ := run_append_own (P := Tryz.prog) (w1.alloc (.cells #[.string ⟨#[114, 111, 111, 109]⟩, .string ⟨#[115, 112, 97, 114, 101]⟩, .bool false] 25)) w.heap.size 22 22 25 i0 (.agg #[.string ⟨#[]⟩, .string ⟨#[]⟩, .bool false]) 3 40 Tryz.underlying22 hi hz0 hz1 hz2 rfl (by decide) (.slice (some ⟨g1, 0, none⟩) L.length c1) L.length (flCells L) (ho1.alloc _) ⟨w1.heap.size, 0, none⟩ 1 1 (flCells [roomL]) (flCells_len _) hsrc (flCells_one _) (by unfold maxLen; omega) (by omega) hb2.size
  rw [← flCells_app] at ho2
  obtain ⟨g2, c2, rfl, _, _⟩ := ho2.form (by omega)
  refine ⟨g1, c1, w1, g2, c2, w2, hr1, hr2, ho2, hb2.grown hg2 hb2.size fun k hk => (ho1.lt k hk).1, ?_⟩
  rcases ho2.2 with ⟨e, _⟩ | ⟨g', c', cur, e, _, _, h1, _⟩
  · cases e
  · injection e with _ _ e2
    subst e2
    exact h1
/-- The directory's part of a tree is a tree. -/
theorem un_tree {L : List Fl} {d : ByteArray} (h : unE L d = 0) : chF (unL L d) = 0 := by
  have h1 : chF L = 0 := by
    refine Classical.byContradiction fun hc => ?_
    unfold unE at h
    rw [if_pos hc] at h
    exact hc h
  unfold unL
  rw [if_pos h]
  exact chF_ok (okT_und _ d (Nat.le_refl _) L (okT_of h1))
theorem un_len {L : List Fl} {d : ByteArray} : (unL L d).length ≤ 60 := by
  by_cases h : unE L d = 0
  · exact (okT_of (un_tree h)).1
  · unfold unL
    rw [if_neg h]
    exact Nat.zero_le _
theorem ov_ch {A C : List Fl} (h : ovE A C = 0) : chF (ovL A C) = 0 := by rw [ovL_ok h]; exact chF_ok (ov_tree h)
theorem ov_len {A C : List Fl} : (ovL A C).length ≤ 60 := by
  by_cases h : ovE A C = 0
  · rw [ovL_ok h]; exact (ov_tree h).1
  · unfold ovL
    rw [if_neg h]
    exact Nat.zero_le _
theorem df_len {A C : List Fl} : (dfL A C).length ≤ 120 := by
  unfold dfL
  by_cases h : erF A C = 0
  · rw [if_pos h, dif_same]
    obtain ⟨hA, hC⟩ := erF_zero h
    refine Nat.le_trans (addAll_len _) ?_
    rw [List.length_append]
    have h3 := othF_len A C
    have h4 := othF_len C A
    have := (okT_of hA).1
    have := (okT_of hC).1
    omega
  · rw [if_neg h]
    exact Nat.zero_le _
theorem df_rise {A C : List Fl} (h : erF A C = 0) : riseB ((dfL A C).map fun l => (⟨l.toArray⟩ : ByteArray)) = true := by
  unfold dfL
  rw [if_pos h, dif_same]
  refine riseB_yes _ fun j hj => ?_
  have hj' : j + 1 < (addAll (othF A C ++ othF C A)).length := by simpa using hj
  have hup := List.pairwise_iff_getElem.1 (addAll_up (othF A C ++ othF C A)) j (j + 1) (by omega) hj' (by omega)
  unfold less
  rw [tlt, List.getElem_map, List.getElem_map]
  simpa using hup
theorem Rise_dif {A C : List Fl} (h : erF A C = 0) {B : Nat} {ao : Option Addr} {cap : Nat} {w : World} (ho : w.ownsRow B 9 1 (.slice ao (dfL A C).length cap) (dfL A C).length ((dfL A C).map encStr)) :
    Calls Tryz.prog 10 #[.slice ao (dfL A C).length cap] w fun e w' => e = .returned (.bool true) ∧ Hid (Below w.heap.size w w') := by
  rcases Nat.eq_zero_or_pos (dfL A C).length with h0 | h0
  · rw [h0]
    refine (Rise_zero ao cap w).mono ?_
    rintro e w' ⟨rfl, rfl⟩
    exact ⟨rfl, Below.refl _ _⟩
  · obtain ⟨g, cg, hv, _, hg⟩ := ho.form h0
    injection hv with e1 _ e2
    subst e1 e2
    have hl := df_len (A := A) (C := C)
    have hr := Rise_some g 0 cap ((dfL A C).map fun l => (⟨l.toArray⟩ : ByteArray)) w (by rw [List.length_map]; omega) hg (fun j hj => by
      have hj' : j < (dfL A C).length := by simpa using hj
      rw [Nat.zero_add, ho.cellAt j (by omega), List.getElem?_map, List.getElem?_eq_getElem hj', List.getElem_map]
      rfl)
    rw [df_rise h, List.length_map] at hr
    exact hr.mono fun e w' ⟨h1, h2⟩ => ⟨h1, h2⟩
end Go.Proofs.YtkmlooepakinfaaGreatDoor
