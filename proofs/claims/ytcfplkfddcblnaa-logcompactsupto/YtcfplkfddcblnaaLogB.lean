/- What must be of a log in any case (logBegun). -/
import Derived.Test.YtcfplkfddcblnaaLogR
namespace Go.Proofs.Ytcfplkfddcblnaa
open Go.RowKit Go.Shelf

theorem crc9 : crc [49, 50, 51, 52, 53, 54, 55, 56, 57] = 3421780262 := by kernel_rfl
theorem ent_x : ent [120] = [76, 1, 120, 131, 22, 220, 140] := by kernel_rfl

set_option maxHeartbeats 2000000 in
set_option maxRecDepth 100000 in
theorem logBegun_any (w : World) : Calls Try.prog 11 #[] w fun e w' => e = .returned (.bool true) ∧ Below w.heap.size w w' := by
  have HA : Hid (Calls Try.prog 9 #[.string ⟨#[]⟩, .string ⟨#[120]⟩] w fun e w' => e = .returned (.tuple #[.string ⟨#[76, 1, 120, 131, 22, 220, 140]⟩, .int .i64 0]) ∧ Below w.heap.size w w') := by
    have := Append_yes ⟨#[]⟩ ⟨#[120]⟩ w (by decide) (by decide)
    simp only [List.nil_append] at this
    rwa [ent_x] at this
  have HR : Hid (∀ w1, Calls Try.prog 13 #[.string ⟨#[76, 1, 120, 131, 22, 220, 140]⟩] w1 fun e w' => ∃ v, e = .returned (.tuple #[v, .int .i64 7]) ∧ w'.ownsRow w1.heap.size 9 1 v 1 (strs [[120]]) ∧ Below w1.heap.size w1 w') := fun w1 => by
    have := Read_any ⟨#[76, 1, 120, 131, 22, 220, 140]⟩ [[120]] [] w1 (by decide) (by simp [flat, ent_x]) (by simp [Short]) NoEnt.nil
    rwa [show (flat [[120]]).length = 7 from by simp [flat, ent_x]] at this
  have HC : Hid (∀ w1, Calls Try.prog 24 #[.string ⟨#[49, 50, 51, 52, 53, 54, 55, 56, 57]⟩] w1 fun e w' => e = .returned (.int .i64 3421780262) ∧ Below w1.heap.size w1 w') := fun w1 => by
    have := Check_any ⟨#[49, 50, 51, 52, 53, 54, 55, 56, 57]⟩ w1 (by decide)
    rw [show crc (⟨#[49, 50, 51, 52, 53, 54, 55, 56, 57]⟩ : ByteArray).data.toList = 3421780262 from crc9] at this
    exact this
  go_enter Try.func11, Try.ntmps11
  go_wp2_with fail
  refine HA.out.mono ?_
  rintro e w1 ⟨rfl, hb1⟩
  have B1 : Hid (Below w.heap.size w w1) := hb1
  clear hb1
  go_wp2_with fail
  refine (HR.out w1).mono ?_
  rintro e w2 ⟨v, rfl, hown, hb2⟩
  obtain ⟨a, cap, rfl⟩ := own_shape hown
  have HO : Hid (w2.ownsRow w1.heap.size 9 1 (.slice a 1 cap) 1 (strs [[120]])) := hown
  have B2 : Hid (Below w.heap.size w w2) := B1.out.trans (hb2.mono B1.out.size)
  clear hown hb2
  go_wp2_with fail
  have t1 : IsTexts (w2.alloc (.cells #[.string ⟨#[120]⟩] 9)) (.slice a 1 cap) [⟨#[120]⟩] := own_texts (l := [[120]]) (HO.out.alloc _) (by decide)
  have t2 : IsTexts (w2.alloc (.cells #[.string ⟨#[120]⟩] 9)) (.slice (some ⟨w2.heap.size, 0, none⟩) 1 1) [⟨#[120]⟩] :=
    ⟨by decide, some ⟨w2.heap.size, 0, none⟩, 1, rfl, Or.inr ⟨w2.heap.size, 0, rfl, fun j hj => by
      obtain rfl : j = 0 := by simp at hj; exact hj
      simp [go_sem]⟩⟩
  refine (same_any _ _ _ _ _ t1 t2).mono ?_
  rintro e w3 ⟨rfl, n, rfl⟩
  have B3 : Hid (Below w.heap.size w ((w2.alloc (.cells #[.string ⟨#[120]⟩] 9)).drewN n)) := by
    have b4 := B2.out.alloc (o := .cells #[.string ⟨#[120]⟩] 9) B2.out.size
    exact ⟨b4.os, b4.tape, b4.output, b4.size, b4.block⟩
  clear t1 t2
  rw [decide_eq_true (rfl : ([⟨#[120]⟩] : List ByteArray) = [⟨#[120]⟩])]
  generalize (w2.alloc (.cells #[.string ⟨#[120]⟩] 9)).drewN n = w3 at B3
  go_wp2_with fail
  refine (HC.out w3).mono ?_
  rintro e w4 ⟨rfl, hb4⟩
  have B4 : Hid (Below w.heap.size w w4) := B3.out.trans (hb4.mono B3.out.size)
  clear hb4
  go_wp2
  go_ret
  exact ⟨rfl, B4.out⟩
end Go.Proofs.Ytcfplkfddcblnaa
