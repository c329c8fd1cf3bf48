/- Paths compared: cmp.Compare at texts; comparePaths. -/
import Derived.Test.YtcpomkgfcpfedaaGreatDoorTrC
namespace Go.Proofs.YtcpomkgfcpfedaaGreatDoor
open Go.RowKit

def cmpB (x y : ByteArray) : Int := if Op.bytesLess x.toList y.toList = true then -1 else if x.toList = y.toList then 0 else 1

theorem isNaN_s (x : ByteArray) (w : World) :
    Calls Tryz.prog 84 #[.string x] w fun e w' => e = .returned (.bool false) ∧ w' = w := by
  go_enter Tryz.func84, Tryz.ntmps84
  go_wp2
  go_ret
  exact ⟨by simp, rfl⟩
set_option maxHeartbeats 2000000 in
set_option maxRecDepth 100000 in
theorem Compare_s (x y : ByteArray) (w : World) :
    Calls Tryz.prog 51 #[.string x, .string y] w fun e w' => e = .returned (.int .i64 (cmpB x y)) ∧ w' = w := by
  have HN : Hid (∀ (z : ByteArray) (W : World), Calls Tryz.prog 84 #[.string z] W fun e w' => e = .returned (.bool false) ∧ w' = W) := isNaN_s
  unfold cmpB
  by_cases h1 : Op.bytesLess x.toList y.toList = true
  · rw [if_pos h1]
    go_enter Tryz.func51, Tryz.ntmps51
    go_wp2_with (first | (go_at_call 84; refine (HN.out _ _).mono ?_; rintro e w1 ⟨rfl, hw⟩; subst w1) | go_in)
    go_ret
    exact ⟨rfl, rfl⟩
  · rw [if_neg h1]
    have h1' : Op.bytesLess x.toList y.toList = false := by simpa using h1
    clear h1
    by_cases h2 : x.toList = y.toList
    · rw [if_pos h2]
      have h2' : (x.toList == y.toList) = true := beq_iff_eq.2 h2
      clear h2
      go_enter Tryz.func51, Tryz.ntmps51
      go_wp2_with (first | (go_at_call 84; refine (HN.out _ _).mono ?_; rintro e w1 ⟨rfl, hw⟩; subst w1) | go_in)
      go_ret
      exact ⟨rfl, rfl⟩
    · rw [if_neg h2]
      have h2' : (x.toList == y.toList) = false := beq_eq_false_iff_ne.2 h2
      clear h2
      go_enter Tryz.func51, Tryz.ntmps51
      go_wp2_with (first | (go_at_call 84; refine (HN.out _ _).mono ?_; rintro e w1 ⟨rfl, hw⟩; subst w1) | go_in)
      go_ret
      exact ⟨rfl, rfl⟩

set_option maxHeartbeats 2000000 in
set_option maxRecDepth 100000 in
theorem comparePaths_any (f g : Fl) (w : World) :
    Calls Tryz.prog 45 #[encF f, encF g] w fun e w' => e = .returned (.int .i64 (cmpB f.pa g.pa)) ∧ Below w.heap.size w w' := by
  obtain ⟨p, t, r⟩ := f
  obtain ⟨p2, t2, r2⟩ := g
  have HC : Hid (∀ W, Calls Tryz.prog 51 #[.string p, .string p2] W fun e w' => e = .returned (.int .i64 (cmpB p p2)) ∧ w' = W) := Compare_s p p2
  have HB : Hid (∀ o1 o2 : Obj, Below w.heap.size w ((w.alloc o1).alloc o2)) := fun o1 o2 => by
    have h1 : Below w.heap.size w (w.alloc o1) := (Below.refl _ w).alloc (Nat.le_refl _) _
    exact h1.alloc (by rw [World.size_alloc]; omega) _
  unfold encF
  simp only
  generalize cmpB p p2 = r9 at *
  go_enter Tryz.func45, Tryz.ntmps45
  go_wp2_with (first | (go_at_call 51; refine (HC.out _).mono ?_; rintro e w1 ⟨rfl, hw⟩; subst w1) | go_in)
  go_ret
  exact ⟨rfl, HB.out _ _⟩
end Go.Proofs.YtcpomkgfcpfedaaGreatDoor
