/- What wire's numberSize and ReadNumber answer. -/
import Derived.Test.YtmjemnmcndajpaaDoorPack
namespace Go.Proofs.YtmjemnmcndajpaaDoor
open Go.RowKit

set_option maxHeartbeats 400000 in
set_option maxRecDepth 100000 in
theorem numberSize_yes (s : ByteArray) (w : World) (hs : s.size ≤ maxLen) (k : Nat) (hk : k < s.size) (hlo : ∀ j : Nat, (hj : j < k) → 128 ≤ s[j].toNat) (hhi : s[k].toNat < 128) :
    Calls Tryd.prog 39 #[.string s] w fun e w' => e = .returned (.tuple #[.int .i64 (k + 1 : Nat), .bool true]) ∧ w' = w := by
  unfold maxLen at hs
  go_enter Tryd.func39, Tryd.ntmps39
  go_wp2
  go_loop [7] (fun i => ∃ m : Nat, m ≤ k ∧ i = .int .i64 m) (fun i => s.size - (intOf i).toNat)
  case atStart => exact ⟨0, Nat.zero_le _, rfl⟩
  case round =>
    obtain ⟨m, hm, rfl⟩ := hrel
    by_cases hlt : m < k
    · have h1 : 128 ≤ (s[m].toNat : Int) := by have := hlo m hlt; omega
      have h2 : m < s.size := by omega
      clear hlo hhi
      go_wp2
      exact ⟨⟨m + 1, by omega, by go_num⟩, by simp [intOf]; omega⟩
    · obtain rfl : m = k := by omega
      have h1 : (s[m].toNat : Int) < 128 := by omega
      clear hlo hhi
      go_wp2
      go_ret2
      exact ⟨rfl, rfl⟩

set_option maxHeartbeats 1000000 in
set_option maxRecDepth 100000 in
theorem ReadNumber_yes (s : ByteArray) (w : World) (hs : s.size ≤ maxLen) (k : Nat) (hk : k < s.size) (hk8 : k < 8) (hlo : ∀ j : Nat, (hj : j < k) → 128 ≤ s[j].toNat) (hhi : s[k].toNat < 128)
    (hz : k = 0 ∨ s[k].toNat ≠ 0) (hv : val (s.data.toList.take (k + 1)) ≤ 9007199254740991) :
    Calls Tryd.prog 17 #[.string s] w fun e w' => e = .returned (.tuple #[.int .i64 (val (s.data.toList.take (k + 1))), .int .i64 (k + 1 : Nat), .int .i64 0]) ∧ w' = w := by
  have hb : (decide (((val (s.data.toList.take (k + 1)) : Nat) : Int) < 0) || decide (9007199254740991 < ((val (s.data.toList.take (k + 1)) : Nat) : Int))) = false := by simp; omega
  have HB : Hid _ := hb
  have hk0 : (k : Int) < 8 := by omega
  clear hb
  have hsz : (s.size : Int) ≤ 9223372036854775807 := by unfold maxLen at hs; omega
  have hz2 : (k : Int) = 0 ∨ (1 ≤ (k : Int) ∧ ((s[k].toNat : Int) == 0) = false) := by
    rcases Nat.eq_zero_or_pos k with h | h
    · exact Or.inl (by omega)
    · exact Or.inr ⟨by omega, by simp; omega⟩
  have HV : Hid (val (s.data.toList.take (k + 1)) ≤ 9007199254740991) := hv
  have HL : Hid (∀ j : Nat, (hj : j < k) → 128 ≤ s[j].toNat) := hlo
  have HH : Hid (s[k].toNat < 128) := hhi
  have hs' := hs
  clear hz hv hlo hhi
  have hkc : ((k + 1 : Nat) : Int) = (k : Int) + 1 := by omega
  rcases hz2 with hz2 | ⟨hz2, hz3⟩
  all_goals
    go_enter Tryd.func17, Tryd.ntmps17
    go_wp2_with (go_at_call 39; refine (numberSize_yes s _ hs k hk HL.out HH.out).mono ?_; rintro e w' ⟨rfl, rfl⟩)
    go_loop [7, 38] (fun n i => ∃ m : Nat, m ≤ k + 1 ∧ i = .int .i64 m ∧ n = .int .i64 (val (s.data.toList.take m))) (fun _ i => k + 1 - (intOf i).toNat)
    case atStart => exact ⟨0, Nat.zero_le _, rfl, rfl⟩
    case round =>
      obtain ⟨m, hm, rfl, rfl⟩ := hrel
      by_cases hlt : m < k + 1
      · have h2 : m < s.size := by omega
        have hm8 : (m : Int) < 8 := by omega
        have HO : Hid _ := (or_step m (val (s.data.toList.take m)) s[m].toNat (by omega) (by have := val_lt (s.data.toList.take m); simpa [Nat.min_eq_left (Nat.le_of_lt h2)] using this))
        have HT : Hid _ := take_snoc s m h2
        go_wp2
        refine ⟨⟨m + 1, by omega, by go_num, ?_⟩, by simp [intOf]; omega⟩
        rw [HO.out, HT.out, val_snoc]
        congr 4
        simp [Nat.min_eq_left (Nat.le_of_lt h2)]
      · obtain rfl : m = k + 1 := by omega
        go_wp2_with (go_at_call 36; refine (isNoNumber_any _ _).mono ?_; rintro e w' ⟨rfl, rfl⟩; rw [HB.out])
        go_ret3
        exact ⟨by simp [hz2], rfl⟩
end Go.Proofs.YtmjemnmcndajpaaDoor
