/- Whether one of some texts is too long. -/
import Derived.Test.YtcpomkgfcpfedaaGreatDoorBase0
namespace Go.Proofs.YtcpomkgfcpfedaaGreatDoor
open Go.RowKit Go.Shelf

theorem isTooLong_any (s : ByteArray) (w : World) : Calls Tryz.prog 12 #[.string s] w fun e w' => e = .returned (.bool (decide (100000 < s.size))) ∧ w' = w := by
  go_enter Tryz.func12, Tryz.ntmps12
  go_wp2
  go_ret
  exact ⟨by simp; omega, rfl⟩

set_option maxHeartbeats 1000000 in
set_option maxRecDepth 100000 in
theorem idx_none (g o cap : Nat) (ss : List ByteArray) (w : World) (hn : ss.length ≤ 4611686018427387904) (hcell : ∀ j (hj : j < ss.length), w.cell? ⟨g, o + j, none⟩ = some (.string ss[j])) (hs : ∀ s ∈ ss, s.size ≤ 100000) :
    Calls Tryz.prog 24 #[.slice (some ⟨g, o, none⟩) ss.length cap, .func (.func 12) #[] #[]] w fun e w' => e = .returned (.int .i64 (-1)) ∧ w' = w := by
  have HC : Hid _ := hcell
  have HS : Hid _ := hs
  have hn1 : (ss.length : Int) ≤ 4611686018427387904 := by omega
  clear hcell hs
  go_enter Tryz.func24, Tryz.ntmps24
  go_wp2
  go_loop [8] (fun i => ∃ k : Nat, k ≤ ss.length ∧ i = .int .i64 k) (fun i => ss.length - (intOf i).toNat)
  case atStart => exact ⟨0, Nat.zero_le _, rfl⟩
  case round =>
    obtain ⟨k, hk, rfl⟩ := hrel
    by_cases hlt : k < ss.length
    · have hc := HC.out k hlt
      have hb : decide (100000 < (ss[k]).size) = false := by have := HS.out _ (List.getElem_mem hlt); simp; omega
      go_wp2_with (go_at_call 12; refine (isTooLong_any _ _).mono ?_; rintro e w' ⟨rfl, rfl⟩; rw [hb])
      exact ⟨⟨k + 1, by omega, by go_num⟩, by simp [intOf]; omega⟩
    · go_wp2
      go_ret
      exact ⟨rfl, rfl⟩

set_option maxHeartbeats 1000000 in
set_option maxRecDepth 100000 in
theorem idx_some (g o cap : Nat) (ss : List ByteArray) (w : World) (hn : ss.length ≤ 4611686018427387904) (hcell : ∀ j (hj : j < ss.length), w.cell? ⟨g, o + j, none⟩ = some (.string ss[j])) (hs : ∃ s ∈ ss, 100000 < s.size) :
    Calls Tryz.prog 24 #[.slice (some ⟨g, o, none⟩) ss.length cap, .func (.func 12) #[] #[]] w fun e w' => (∃ k : Nat, e = .returned (.int .i64 k)) ∧ w' = w := by
  have HC : Hid _ := hcell
  have HS : Hid _ := hs
  have hn1 : (ss.length : Int) ≤ 4611686018427387904 := by omega
  clear hcell hs
  go_enter Tryz.func24, Tryz.ntmps24
  go_wp2
  go_loop [8] (fun i => ∃ k : Nat, k ≤ ss.length ∧ i = .int .i64 k ∧ ∀ j (hj : j < ss.length), j < k → ss[j].size ≤ 100000) (fun i => ss.length - (intOf i).toNat)
  case atStart => exact ⟨0, Nat.zero_le _, rfl, by omega⟩
  case round =>
    obtain ⟨k, hk, rfl, hlo⟩ := hrel
    have HL : Hid _ := hlo
    clear hlo
    by_cases hlt : k < ss.length
    · have hc := HC.out k hlt
      by_cases hb : 100000 < (ss[k]).size
      · have hb' : decide (100000 < (ss[k]).size) = true := by simpa using hb
        clear hb
        go_wp2_with (go_at_call 12; refine (isTooLong_any _ _).mono ?_; rintro e w' ⟨rfl, rfl⟩; rw [hb'])
        go_ret
        exact ⟨⟨k, rfl⟩, rfl⟩
      · have hb' : decide (100000 < (ss[k]).size) = false := by simpa using hb
        have HB : Hid _ := hb
        clear hb
        go_wp2_with (go_at_call 12; refine (isTooLong_any _ _).mono ?_; rintro e w' ⟨rfl, rfl⟩; rw [hb'])
        refine ⟨⟨k + 1, by omega, by go_num, fun j hj hjk => ?_⟩, by simp [intOf]; omega⟩
        by_cases h : j < k
        · exact HL.out j hj h
        · obtain rfl : j = k := by omega
          exact Nat.le_of_not_lt HB.out
    · exfalso
      obtain ⟨s, hs, hlong⟩ := HS.out
      obtain ⟨j, hj, rfl⟩ := List.getElem_of_mem hs
      have := HL.out j hj (by omega)
      omega

set_option maxHeartbeats 1000000 in
theorem cf_none (g o cap : Nat) (ss : List ByteArray) (w : World) (hn : ss.length ≤ 4611686018427387904) (hcell : ∀ j (hj : j < ss.length), w.cell? ⟨g, o + j, none⟩ = some (.string ss[j])) (hs : ∀ s ∈ ss, s.size ≤ 100000) :
    Calls Tryz.prog 11 #[.slice (some ⟨g, o, none⟩) ss.length cap, .func (.func 12) #[] #[]] w fun e w' => e = .returned (.bool false) ∧ w' = w := by
  have HC : Hid _ := hcell
  have HS : Hid _ := hs
  clear hcell hs
  go_enter Tryz.func11, Tryz.ntmps11
  go_wp2_with (go_at_call 24; refine (idx_none g o cap ss _ hn HC.out HS.out).mono ?_; rintro e w' ⟨rfl, rfl⟩)
  go_ret
  exact ⟨rfl, rfl⟩

set_option maxHeartbeats 1000000 in
theorem cf_some (g o cap : Nat) (ss : List ByteArray) (w : World) (hn : ss.length ≤ 4611686018427387904) (hcell : ∀ j (hj : j < ss.length), w.cell? ⟨g, o + j, none⟩ = some (.string ss[j])) (hs : ∃ s ∈ ss, 100000 < s.size) :
    Calls Tryz.prog 11 #[.slice (some ⟨g, o, none⟩) ss.length cap, .func (.func 12) #[] #[]] w fun e w' => e = .returned (.bool true) ∧ w' = w := by
  have HC : Hid _ := hcell
  have HS : Hid _ := hs
  clear hcell hs
  go_enter Tryz.func11, Tryz.ntmps11
  go_wp2_with (go_at_call 24; refine (idx_some g o cap ss _ hn HC.out HS.out).mono ?_; rintro e w' ⟨⟨k, rfl⟩, rfl⟩)
  go_ret
  exact ⟨rfl, rfl⟩

set_option maxHeartbeats 1000000 in
set_option maxRecDepth 100000 in
theorem cf_zero (a : Option Addr) (cap : Nat) (w : World) :
    Calls Tryz.prog 11 #[.slice a 0 cap, .func (.func 12) #[] #[]] w fun e w' => e = .returned (.bool false) ∧ w' = w := by
  go_enter Tryz.func11, Tryz.ntmps11
  go_wp2
  refine wp_loop_rounds 1 ?_
  rw [rounds_succ]
  go_wp2
  go_ret
  exact ⟨rfl, rfl⟩
end Go.Proofs.YtcpomkgfcpfedaaGreatDoor
