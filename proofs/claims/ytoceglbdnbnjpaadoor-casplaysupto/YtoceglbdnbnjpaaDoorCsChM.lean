/- Which of so many things a number speaks of. -/
import Derived.Test.YtoceglbdnbnjpaaDoorTq6
namespace Go.Proofs.YtoceglbdnbnjpaaDoor
open Go.RowKit Go.Shelf

def chs (c : Int) (m : Nat) : Nat := ((if c < 0 then -(c + 1) else c) % (m : Int)).toNat
theorem chs_lt (c : Int) {m : Nat} (h : 0 < m) : chs c m < m := by
  unfold chs
  have h2 := Int.emod_nonneg (if c < 0 then -(c + 1) else c) (show (m : Int) ≠ 0 by omega)
  have h3 := Int.emod_lt_of_pos (if c < 0 then -(c + 1) else c) (show 0 < (m : Int) by omega)
  omega

set_option maxHeartbeats 2000000 in
theorem choose_any (c : Int) (m : Nat) (w : World) (h0 : -9223372036854775808 ≤ c) (h1 : c ≤ 9223372036854775807) (hm : 0 < m) :
    Calls Tryd.prog 9 #[.int .i64 c, .int .i64 m] w fun e w' => e = .returned (.int .i64 (chs c m : Int)) ∧ w' = w := by
  have hmi : (0 : Int) < (m : Int) := by omega
  have hm0 : ((m : Int) == 0) = false := by simp; omega
  have key : ∀ d : Int, 0 ≤ d → d.tmod (m : Int) = ((d % (m : Int)).toNat : Int) ∧ d % (m : Int) = ((d % (m : Int)).toNat : Int) := fun d hd => by
    have h2 := Int.emod_nonneg d (show (m : Int) ≠ 0 by omega)
    refine ⟨?_, by omega⟩
    rw [Int.tmod_eq_emod_of_nonneg hd]
    omega
  by_cases hc : c < 0
  · obtain ⟨d, hd⟩ : ∃ d : Int, d = -(c + 1) := ⟨_, rfl⟩
    obtain ⟨hr1, hr2⟩ := key d (by omega)
    have HC : Hid (chs c m = (d % (m : Int)).toNat) := by unfold Hid chs; rw [if_pos hc, hd]
    have x1 : wrap64 (c + 1) = c + 1 := by unfold wrap64; omega
    have x2 : IntKind.i64.wrap (c + 1) = c + 1 := by rw [IntKind.wrap_i64]; omega
    have x3 : wrap64 (-(c + 1)) = d := by unfold wrap64; omega
    have x4 : IntKind.i64.wrap (-(c + 1)) = d := by rw [IntKind.wrap_i64]; omega
    have hd0 : 0 ≤ d := by omega
    generalize (d % (m : Int)).toNat = r at *
    clear key hd h0 h1
    go_enter Tryd.func9, Tryd.ntmps9
    go_wp2
    go_ret
    exact ⟨by rw [HC.out]; simp, rfl⟩
  · obtain ⟨hr1, hr2⟩ := key c (by omega)
    have HC : Hid (chs c m = (c % (m : Int)).toNat) := by unfold Hid chs; rw [if_neg hc]
    have hc0 : 0 ≤ c := by omega
    generalize (c % (m : Int)).toNat = r at *
    clear key h1 hc
    go_enter Tryd.func9, Tryd.ntmps9
    go_wp2
    go_ret
    exact ⟨by rw [HC.out]; simp, rfl⟩
end Go.Proofs.YtoceglbdnbnjpaaDoor
