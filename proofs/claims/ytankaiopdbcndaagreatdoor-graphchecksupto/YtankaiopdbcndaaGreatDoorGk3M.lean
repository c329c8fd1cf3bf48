/- Places are taken, one by one. -/
import Derived.Test.YtankaiopdbcndaaGreatDoorGk2M
namespace Go.Proofs.YtankaiopdbcndaaGreatDoor
open Go.RowKit Go.Shelf Go.Maps Go.WideMaps
attribute [local go_sem ↓] appG_eq2
/-- What is taken, and if each could be. -/
def tkF : List ByteArray → List ByteArray → Bool × List ByteArray
  | T, [] => (true, T)
  | T, x :: l => if T.any (meetB x) = true then (false, T) else tkF (T ++ [x]) l

set_option maxHeartbeats 4000000 in
set_option maxRecDepth 100000 in
theorem take_any (P M : Nat) (F : List (List UInt8)) (T : List ByteArray) (v pv : Value) (ps : List ByteArray) (w w0 : World) (h : PS P M F T v w w0) (hp : TxIn w pv ps) (hl : T.length + ps.length ≤ 1048576) :
    Calls Tryz.prog 69 #[pt P, pv] w0 fun e w' => e = .returned (.bool (tkF T ps).1) ∧ ∃ v', PS P M F (tkF T ps).2 v' w w' ∧ Kp P v w0 v' w' := by
  obtain ⟨_, _, ao, cap, rfl, hmem⟩ := hp
  have HL : Hid (ps = [] ∨ ∃ g o, ao = some ⟨g, o, none⟩ ∧ g < w.heap.size ∧ ∀ j (hj : j < ps.length), w.cell? ⟨g, o + j, none⟩ = some (.string ps[j])) := hmem
  clear hmem
  have HI : Hid (∃ T' v', PS P M F T' v' w w0 ∧ tkF T ps = tkF T' (ps.drop 0) ∧ T'.length = T.length + 0 ∧ Kp P v w0 v' w0) := ⟨T, v, h, by simp, rfl, Kp.refl _ _ _⟩
  have hpl : (ps.length : Int) ≤ 1048576 := by omega
  clear h
  unfold pt
  go_enter Tryz.func69, Tryz.ntmps69
  go_wp2
  go_loopw [9] (fun i wr => ∃ k : Nat, k ≤ ps.length ∧ i = .int .i64 (k : Int) ∧ Hid (∃ T' v', PS P M F T' v' w wr ∧ tkF T ps = tkF T' (ps.drop k) ∧ T'.length = T.length + k ∧ Kp P v w0 v' wr)) (fun i _ => ps.length - (intOf i).toNat)
  case atStart => exact ⟨0, Nat.zero_le _, rfl, HI⟩
  case round =>
    clear HI
    obtain ⟨k, hk, rfl, HI⟩ := hrel
    obtain ⟨T', v', hP, he, hT, hKp⟩ := HI.out
    clear HI
    by_cases hlt : k < ps.length
    · have hki : (k : Int) < (ps.length : Int) := by omega
      rcases HL.out with h | ⟨g, o, rfl, hg, hcc⟩
      · exfalso; rw [h] at hlt; exact absurd hlt (by simp)
      have c0 : wr.cell? ⟨g, o + k, none⟩ = some (.string ps[k]) := (hP.bel.cell (p := ⟨g, o + k, none⟩) hg).trans (hcc k hlt)
      clear hcc
      rw [List.drop_eq_getElem_cons hlt] at he
      generalize hx : ps[k] = x at c0 he
      obtain ⟨W, hW⟩ : ∃ W, W = wr.alloc (.cells #[.string x] 9) := ⟨_, rfl⟩
      have hWb : Below wr.heap.size wr W := by rw [hW]; exact (Below.refl _ wr).alloc (Nat.le_refl _) _
      have hc : W.cell? ⟨wr.heap.size, 0, none⟩ = some (.string x) := by rw [hW]; exact cell0 (heap_alloc_new wr _)
      have hPW := hP.below hWb
      have hWlt : wr.heap.size < W.heap.size := by rw [hW, World.size_alloc]; omega
      have c1 := hPW.c1
      have HC := conSc v' T' 85 (pt wr.heap.size) (meetB x) W (by omega) (hPW.tx (by omega)) (enters_of Tryz.func85 (by kernel_rfl) rfl) fun y hy W2 hb2 => take1_any wr.heap.size x y W2 ((hb2.cell (p := ⟨wr.heap.size, 0, none⟩) hWlt).trans hc)
      cases hm : T'.any (meetB x) with
      | true =>
        rw [hm] at HC
        have HE : Hid (∀ w', Below W.heap.size W w' → Ending.returned (.bool false) = .returned (.bool (tkF T ps).1) ∧ ∃ v', PS P M F (tkF T ps).2 v' w w' ∧ Kp P v w0 v' w') := fun w' hb => by
          rw [he, tkF, if_pos hm]
          exact ⟨rfl, v', hPW.below hb, (hKp.trans (Kp.of_below hWb)).trans (Kp.of_below hb)⟩
        clear hP he hPW hm hWb hx hWlt hc hKp
        subst hW
        unfold pt at HC
        go_wp2_with fail
        refine HC.mono ?_
        rintro e w1 ⟨rfl, hb1⟩
        have HE2 : Hid _ := HE.out w1 hb1
        clear HC HE
        go_wp2
        go_ret
        exact HE2.out
      | false =>
        rw [hm] at HC
        have HE : Hid (∀ w', Below W.heap.size W w' → ∃ (G C : Nat) (w1 : World), (appG #[23, 23] 23 #[v', .slice (some ⟨w'.heap.size, 0, none⟩) 1 1]).run Tryz.prog (w'.alloc (.cells #[.string x] 9)).drew = .ok (.slice (some ⟨G, 0, none⟩) (T'.length + 1) C) w1 ∧ w'.drew.cell? ⟨P, 1, none⟩ = some v' ∧ (w'.alloc (.cells #[.string x] 9)).drew.cell? ⟨P, 1, none⟩ = some v' ∧ w'.drew.cell? ⟨wr.heap.size, 0, none⟩ = some (.string x) ∧ w1.cell? ⟨P, 1, none⟩ = some v' ∧ w1.frozen? ⟨P, 1, none⟩ = false ∧
          Hid (∃ T2 v2, PS P M F T2 v2 w (w1.setCell ⟨P, 1, none⟩ (.slice (some ⟨G, 0, none⟩) (T'.length + 1) C)) ∧ tkF T ps = tkF T2 (ps.drop (k + 1)) ∧ T2.length = T.length + (k + 1) ∧ Kp P v w0 v2 (w1.setCell ⟨P, 1, none⟩ (.slice (some ⟨G, 0, none⟩) (T'.length + 1) C)))) := fun w' hb => by
          have hd : Below W.heap.size W w'.drew := ⟨hb.os, hb.tape, hb.output, hb.size, hb.block⟩
          have hPb := hPW.below hd
          obtain ⟨G, C, w1, r1, r2, r3, r4, r5⟩ := hPb.push x (by omega)
          have hal : Below w'.heap.size w' (w'.alloc (.cells #[.string x] 9)) := (Below.refl _ w').alloc (Nat.le_refl _) _
          refine ⟨G, C, w1, r1, hPb.c1, (hal.cell (p := ⟨P, 1, none⟩) (blk_lt hPb.c)).trans hPb.c1, (hb.cell (p := ⟨wr.heap.size, 0, none⟩) hWlt).trans hc, r2, r3, T' ++ [x], _, r4, ?_, by simp; omega, ((hKp.trans (Kp.of_below hWb)).trans (Kp.of_below hd)).trans r5⟩
          rw [he, tkF, if_neg (by rw [hm]; simp)]
        clear hP he hPW hm hWb hx hWlt hc hKp
        subst hW
        unfold pt at HC
        go_wp2_with fail
        refine HC.mono ?_
        rintro e w1 ⟨rfl, hb1⟩
        obtain ⟨G, C, w2, r1, r2, r2b, r3, r4, r5, HE2⟩ := HE.out w1 hb1
        clear HC HE c1 hT
        generalize wr.heap.size = gs at *
        generalize T'.length = tn at *
        go_wp2
        go_region
        go_wp2
        exact ⟨⟨k + 1, by omega, by go_num, HE2⟩, by simp [intOf]; omega⟩
    · obtain rfl : k = ps.length := by omega
      have hki : ¬ (ps.length : Int) < (ps.length : Int) := by omega
      have HE : Hid (Ending.returned (.bool true) = .returned (.bool (tkF T ps).1) ∧ ∃ v', PS P M F (tkF T ps).2 v' w wr ∧ Kp P v w0 v' wr) := by
        show _ ∧ _
        rw [he, List.drop_length, tkF]
        exact ⟨rfl, v', hP, hKp⟩
      clear hP he hT hKp
      go_wp2
      go_ret
      exact HE.out
end Go.Proofs.YtankaiopdbcndaaGreatDoor
