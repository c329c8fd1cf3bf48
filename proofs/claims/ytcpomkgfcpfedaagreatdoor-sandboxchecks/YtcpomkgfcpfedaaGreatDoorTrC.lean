/- Check: what is wrong with one file. -/
import Derived.Test.YtcpomkgfcpfedaaGreatDoorPath
import Derived.Test.YtcpomkgfcpfedaaGreatDoorTrM
namespace Go.Proofs.YtcpomkgfcpfedaaGreatDoor
open Go.RowKit

/-- A file: its path, its text, whether it runs. -/
structure Fl where
  pa : ByteArray
  tx : ByteArray
  rn : Bool
def encF (f : Fl) : Value := .agg #[.string f.pa, .string f.tx, .bool f.rn]
def flE (f : Fl) : Int := if pathOk f.pa = false then 1 else if 100000 < f.tx.size then 2 else 0

theorem tisTooLong_any (s : ByteArray) (w : World) :
    Calls Tryz.prog 56 #[.string s] w fun e w' => e = .returned (.bool (decide (100000 < s.size))) ∧ w' = w := by
  by_cases h : 100000 < s.size
  · have h2 : (100000 : Int) < (s.size : Int) := by omega
    rw [decide_eq_true h]
    clear h
    go_enter Tryz.func56, Tryz.ntmps56
    go_wp2
    go_ret
    exact ⟨rfl, rfl⟩
  · have h2 : ¬ (100000 : Int) < (s.size : Int) := by omega
    rw [decide_eq_false h]
    clear h
    go_enter Tryz.func56, Tryz.ntmps56
    go_wp2
    go_ret
    exact ⟨rfl, rfl⟩

def flW (w : World) (f : Fl) : World := w.alloc (.cells #[.string f.pa, .string f.tx, .bool f.rn] 37)
theorem flW_bel (w : World) (f : Fl) : Below w.heap.size w (flW w f) := (Below.refl _ w).alloc (Nat.le_refl _) _
set_option maxHeartbeats 2000000 in
set_option maxRecDepth 100000 in
theorem fileError_any (f : Fl) (w : World) (hm : MaxIs (flW w f)) :
    Calls Tryz.prog 42 #[encF f] w fun e w' => e = .returned (.int .i64 (flE f)) ∧ Below w.heap.size w w' := by
  obtain ⟨p, t, r⟩ := f
  have hx := heap_alloc_new w (.cells #[.string p, .string t, .bool r] 37)
  have hz : (flW w ⟨p, t, r⟩).heap.size = w.heap.size + 1 := World.size_alloc _ _
  have HB : Hid (Below w.heap.size w (flW w ⟨p, t, r⟩)) := flW_bel w _
  have HI : Hid (Calls Tryz.prog 35 #[.string p] (flW w ⟨p, t, r⟩) fun e w' => e = .returned (.bool (pathOk p)) ∧ w'.cell? ⟨w.heap.size, 1, none⟩ = some (.string t) ∧ Hid (Below w.heap.size w w')) := by
    refine (IsPath_any p _ hm).mono ?_
    rintro e w' ⟨rfl, hb⟩
    refine ⟨rfl, ?_, HB.out.trans (hb.mono (by omega))⟩
    rw [hb.cell (p := ⟨w.heap.size, 1, none⟩) (by show w.heap.size < _; omega)]
    exact Lib.cell_of_heap hx 1
  have HT : Hid (∀ W, Calls Tryz.prog 56 #[.string t] W fun e w' => e = .returned (.bool (decide (100000 < t.size))) ∧ w' = W) := fun W => tisTooLong_any t W
  unfold encF flE
  unfold flW at HI
  simp only
  clear hm hz hx HB
  cases hp : pathOk p with
  | false =>
    rw [hp] at HI
    rw [if_pos rfl]
    clear hp
    go_enter Tryz.func42, Tryz.ntmps42
    go_wp2_with (first
      | (go_at_call 35; refine HI.out.mono ?_; rintro e w1 ⟨rfl, c1, R1⟩)
      | (go_at_call 56; refine (HT.out _).mono ?_; rintro e w2 ⟨rfl, hw⟩; subst w2)
      | go_in)
    go_ret
    exact ⟨rfl, R1.out⟩
  | true =>
    rw [hp] at HI
    rw [if_neg (by decide)]
    clear hp
    by_cases h : 100000 < t.size
    · rw [if_pos h]
      rw [decide_eq_true h] at HT
      clear h
      go_enter Tryz.func42, Tryz.ntmps42
      go_wp2_with (first
        | (go_at_call 35; refine HI.out.mono ?_; rintro e w1 ⟨rfl, c1, R1⟩)
        | (go_at_call 56; refine (HT.out _).mono ?_; rintro e w2 ⟨rfl, hw⟩; subst w2)
        | go_in)
      go_ret
      exact ⟨rfl, R1.out⟩
    · rw [if_neg h]
      rw [decide_eq_false h] at HT
      clear h
      go_enter Tryz.func42, Tryz.ntmps42
      go_wp2_with (first
        | (go_at_call 35; refine HI.out.mono ?_; rintro e w1 ⟨rfl, c1, R1⟩)
        | (go_at_call 56; refine (HT.out _).mono ?_; rintro e w2 ⟨rfl, hw⟩; subst w2)
        | go_in)
      go_ret
      exact ⟨rfl, R1.out⟩
end Go.Proofs.YtcpomkgfcpfedaaGreatDoor
