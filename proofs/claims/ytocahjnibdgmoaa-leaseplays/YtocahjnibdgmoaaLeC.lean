/- A book of leases: is somebody nobody. -/
import Derived.Test.YtocahjnibdgmoaaLeD
namespace Go.Proofs.Ytocahjnibdgmoaa
open Go.RowKit Go.Shelf Go.Maps Go.WideMaps

def nobody (x : Int) : Bool := decide (x < 1) || decide (50 < x)

set_option maxHeartbeats 1000000 in
set_option maxRecDepth 100000 in
theorem nob_any (x : Int) (w : World) : Calls Try.prog 47 #[.int .i64 x] w fun e w' => e = .returned (.bool (nobody x)) ∧ w' = w := by
  by_cases h1 : x < 1
  · have e : nobody x = true := by simp [nobody, h1]
    rw [e]
    go_enter Try.func47, Try.ntmps47
    go_wp2
    go_ret
    exact ⟨rfl, rfl⟩
  · by_cases h2 : 50 < x
    · have e : nobody x = true := by simp [nobody, h2]
      rw [e]
      go_enter Try.func47, Try.ntmps47
      go_wp2
      go_ret
      exact ⟨rfl, rfl⟩
    · have e : nobody x = false := by simp [nobody]; omega
      rw [e]
      go_enter Try.func47, Try.ntmps47
      go_wp2
      go_ret
      exact ⟨rfl, rfl⟩

set_option maxHeartbeats 1000000 in
set_option maxRecDepth 100000 in
theorem idx0 (w : World) : Calls Try.prog 56 #[.slice none 0 0, .func (.func 47) #[] #[]] w fun e w' => e = .returned (.int .i64 (-1)) ∧ w' = w := by
  go_enter Try.func56, Try.ntmps56
  go_wp2
  refine wp_loop_rounds 1 ?_
  rw [rounds_succ]
  go_wp2
  go_ret
  exact ⟨rfl, rfl⟩

set_option maxHeartbeats 1000000 in
set_option maxRecDepth 100000 in
theorem idx1 (g o cap : Nat) (x : Int) (w : World) (hc : w.cell? ⟨g, o, none⟩ = some (.int .i64 x)) : Calls Try.prog 56 #[.slice (some ⟨g, o, none⟩) 1 cap, .func (.func 47) #[] #[]] w fun e w' => e = .returned (.int .i64 (if nobody x = true then 0 else -1)) ∧ w' = w := by
  have HN : Hid (∀ W, Calls Try.prog 47 #[.int .i64 x] W fun e w' => e = .returned (.bool (nobody x)) ∧ w' = W) := fun W => nob_any x W
  cases hb : nobody x with
  | true =>
    rw [hb] at HN
    rw [if_pos rfl]
    clear hb
    go_enter Try.func56, Try.ntmps56
    go_wp2
    refine wp_loop_rounds 1 ?_
    rw [rounds_succ]
    go_wp2_with (first | (go_at_call 47; refine (HN.out _).mono ?_; rintro e w' ⟨rfl, rfl⟩) | go_in)
    go_ret
    exact ⟨rfl, rfl⟩
  | false =>
    rw [hb] at HN
    rw [if_neg (by decide)]
    clear hb
    go_enter Try.func56, Try.ntmps56
    go_wp2
    refine wp_loop_rounds 2 ?_
    rw [rounds_succ]
    go_wp2_with (first | (go_at_call 47; refine (HN.out _).mono ?_; rintro e w' ⟨rfl, rfl⟩) | go_in)
    rw [rounds_succ]
    go_wp2
    go_ret
    exact ⟨rfl, rfl⟩

set_option maxHeartbeats 1000000 in
set_option maxRecDepth 100000 in
theorem cont0 (w : World) : Calls Try.prog 48 #[.slice none 0 0, .func (.func 47) #[] #[]] w fun e w' => e = .returned (.bool false) ∧ w' = w := by
  go_enter Try.func48, Try.ntmps48
  go_wp2_with fail
  refine (idx0 w).mono ?_
  rintro e w' ⟨rfl, rfl⟩
  go_wp2
  go_ret
  exact ⟨rfl, rfl⟩

set_option maxHeartbeats 1000000 in
set_option maxRecDepth 100000 in
theorem cont1 (g o cap : Nat) (x : Int) (w : World) (hc : w.cell? ⟨g, o, none⟩ = some (.int .i64 x)) : Calls Try.prog 48 #[.slice (some ⟨g, o, none⟩) 1 cap, .func (.func 47) #[] #[]] w fun e w' => e = .returned (.bool (nobody x)) ∧ w' = w := by
  have HI : Hid (Calls Try.prog 56 #[.slice (some ⟨g, o, none⟩) 1 cap, .func (.func 47) #[] #[]] w fun e w' => e = .returned (.int .i64 (if nobody x = true then 0 else -1)) ∧ w' = w) := idx1 g o cap x w hc
  cases hb : nobody x with
  | true =>
    rw [hb, if_pos rfl] at HI
    clear hb
    go_enter Try.func48, Try.ntmps48
    go_wp2_with fail
    refine HI.out.mono ?_
    rintro e w' ⟨rfl, rfl⟩
    go_wp2
    go_ret
    exact ⟨rfl, rfl⟩
  | false =>
    rw [hb, if_neg (by decide)] at HI
    clear hb
    go_enter Try.func48, Try.ntmps48
    go_wp2_with fail
    refine HI.out.mono ?_
    rintro e w' ⟨rfl, rfl⟩
    go_wp2
    go_ret
    exact ⟨rfl, rfl⟩
end Go.Proofs.Ytocahjnibdgmoaa
