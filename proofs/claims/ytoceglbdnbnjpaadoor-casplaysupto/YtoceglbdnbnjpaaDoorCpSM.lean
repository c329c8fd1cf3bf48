/- SameTexts of two slices that are read; textsAre. -/
import Derived.Test.YtoceglbdnbnjpaaDoorCpNM
namespace Go.Proofs.YtoceglbdnbnjpaaDoor
open Go.RowKit

set_option maxHeartbeats 2000000 in
set_option maxRecDepth 100000 in
theorem SameTexts_same (v u : Value) (ss : List ByteArray) (w : World) (h : Tx w v ss) (h' : Tx w u ss) :
    Calls Tryd.prog 61 #[v, u] w fun e w' => e = .returned (.bool true) ∧ ∃ n, w' = w.drewN n := by
  have hn1 : (ss.length : Int) ≤ 4611686018427387904 := by have := h.1; omega
  rcases h.2 with ⟨rfl, a, cap, rfl⟩ | ⟨h0, g, o, cap, rfl, hc, hrow⟩
  · obtain ⟨a', cap', rfl⟩ := h'.shape
    clear h h'
    go_enter Tryd.func61, Tryd.ntmps61
    go_wp2
    refine wp_loop_rounds 1 ?_
    rw [rounds_succ]
    go_wp2
    go_ret
    exact ⟨rfl, 0, rfl⟩
  · rcases h'.2 with ⟨rfl, _⟩ | ⟨_, g', o', cap', rfl, hc', hrow'⟩
    · simp at h0
    · have HC : Hid (Row w g o ss) := hrow
      have HC' : Hid (Row w g' o' ss) := hrow'
      clear h h' hrow hrow'
      go_enter Tryd.func61, Tryd.ntmps61
      go_wp2
      go_loopw [5] (fun i wr => ∃ k m : Nat, k ≤ ss.length ∧ i = .int .i64 k ∧ wr = w.drewN m) (fun i _ => ss.length - (intOf i).toNat)
      case atStart => exact ⟨0, 0, Nat.zero_le _, rfl, rfl⟩
      case round =>
        obtain ⟨k, m, hk, rfl, rfl⟩ := hrel
        by_cases hlt : k < ss.length
        · have c1 := HC.out k hlt
          have c2 := HC'.out k hlt
          generalize ss[k] = x at c1 c2
          go_wp2
          go_region
          all_goals go_wp2
          all_goals
            refine ⟨⟨k + 1, m + 1, by omega, by go_num, rfl⟩, by simp [intOf]; omega⟩
        · go_wp2
          go_ret
          exact ⟨rfl, m, rfl⟩

set_option maxHeartbeats 1000000 in
theorem textsAre_ok (v u : Value) (ss : List ByteArray) (w : World) (h : Tx w v ss) (h' : Tx w u ss) :
    Calls Tryd.prog 46 #[v, .int .i64 0, .int .i64 0, u] w fun e w' => e = .returned (.bool true) ∧ ∃ n, w' = w.drewN n := by
  have HS : Hid (Calls Tryd.prog 61 #[v, u] w fun e w' => e = .returned (.bool true) ∧ ∃ n, w' = w.drewN n) := SameTexts_same v u ss w h h'
  obtain ⟨a, cap, rfl⟩ := h.shape
  obtain ⟨a', cap', rfl⟩ := h'.shape
  clear h h'
  go_enter Tryd.func46, Tryd.ntmps46
  go_wp2_with fail
  refine HS.out.mono ?_
  rintro e w' ⟨rfl, n, rfl⟩
  go_wp2
  go_ret
  exact ⟨rfl, n, rfl⟩

set_option maxHeartbeats 1000000 in
theorem textsAre_no (c : Int) (u : Value) (w : World) (hc : (c != 0) = true) :
    Calls Tryd.prog 46 #[.slice none 0 0, .int .i64 c, .int .i64 c, u] w fun e w' => e = .returned (.bool true) ∧ ∃ n, w' = w.drewN n := by
  have HS : Hid (Calls Tryd.prog 61 #[.slice none 0 0, .slice none 0 0] w fun e w' => e = .returned (.bool true) ∧ ∃ n, w' = w.drewN n) := SameTexts_same _ _ [] w ⟨by decide, Or.inl ⟨rfl, none, 0, rfl⟩⟩ ⟨by decide, Or.inl ⟨rfl, none, 0, rfl⟩⟩
  go_enter Tryd.func46, Tryd.ntmps46
  go_wp2_with fail
  refine HS.out.mono ?_
  rintro e w' ⟨rfl, n, rfl⟩
  go_wp2
  go_ret
  exact ⟨by simp, n, rfl⟩
end Go.Proofs.YtoceglbdnbnjpaaDoor
