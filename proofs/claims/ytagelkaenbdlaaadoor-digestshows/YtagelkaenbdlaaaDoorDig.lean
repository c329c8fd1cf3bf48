/- What Is answers (of digests), the program's and the document's own. -/
import Derived.Test.YtagelkaenbdlaaaDoorRows
import Derived.WalkKit
import Derived.WalkSpells
import Derived.WalkLawsBesides
import Derived.Lib.Strings
import Derived.Lib.Builder
namespace Go.Proofs.YtagelkaenbdlaaaDoor
open Go.RowKit

theorem d_size {s : ByteArray} {l : List UInt8} (h : s.data.toList = l) : s.size = l.length := by rw [← h]; exact Array.length_toList.symm
theorem d_bytes {s : ByteArray} {l : List UInt8} (h : s.data.toList = l) : s = ⟨l.toArray⟩ := by
  subst h
  cases s
  simp
theorem d_get (s : ByteArray) (k : Nat) (h : k < s.size) : s.toList[k]? = some s[k] := by
  rw [Lib.toList_data]
  have : k < s.data.toList.length := by rw [← d_size (s := s) rfl]; exact h
  rw [List.getElem?_eq_getElem this]
  rfl
theorem d_all_false (s : ByteArray) (k : Nat) (h : k < s.size) (f : UInt8 → Bool) (hf : f s[k] = false) : s.toList.all f = false := by
  rw [List.all_eq_false]
  exact ⟨s[k], List.mem_of_getElem? (d_get s k h), by simp [hf]⟩
theorem d_all_true (s : ByteArray) (f : UInt8 → Bool) (hf : ∀ j (hj : j < s.size), f s[j] = true) : s.toList.all f = true := by
  rw [List.all_eq_true]
  intro c hc
  obtain ⟨j, hj, rfl⟩ := List.getElem_of_mem hc
  have hj' : j < s.size := by rw [Lib.toList_data] at hj; rw [d_size (s := s) rfl]; exact hj
  have := d_get s j hj'
  rw [List.getElem?_eq_getElem hj] at this
  rw [Option.some.inj this]
  exact hf j hj'

def digB (c : Int) : Bool := decide (48 ≤ c ∧ c ≤ 57) || decide (97 ≤ c ∧ c ≤ 102)
def digOk (s : ByteArray) : Bool := decide (s.size = 64) && s.toList.all fun c => digB c.toNat

theorem dig_cls (c : Int) : (digB c = true ∧ 48 ≤ c ∧ c ≤ 57) ∨ (digB c = true ∧ decide (c ≤ 57) = false ∧ 97 ≤ c ∧ c ≤ 102) ∨ (digB c = false ∧ c < 48) ∨ (digB c = false ∧ 48 ≤ c ∧ decide (c ≤ 57) = false ∧ c < 97) ∨ (digB c = false ∧ 97 ≤ c ∧ decide (c ≤ 57) = false ∧ decide (c ≤ 102) = false) := by
  simp [digB]
  omega

set_option maxHeartbeats 1000000 in
theorem isDigit_any (c : Int) (w : World) : Calls Tryd.prog 57 #[.int .u8 c] w fun e w' => e = .returned (.bool (digB c)) ∧ w' = w := by
  rcases dig_cls c with ⟨h, c1, c2⟩ | ⟨h, c1, c2, c3⟩ | ⟨h, c1⟩ | ⟨h, c1, c2, c3⟩ | ⟨h, c1, c2, c3⟩
  all_goals
    have H : Hid _ := h
    clear h
    go_enter Tryd.func57, Tryd.ntmps57
    go_wp2
    go_ret
    exact ⟨by rw [H.out]; rfl, rfl⟩

set_option maxHeartbeats 1000000 in
set_option maxRecDepth 100000 in
theorem Is_any (s : ByteArray) (w : World) : Calls Tryd.prog 28 #[.string s] w fun e w' => e = .returned (.bool (digOk s)) ∧ w' = w := by
  by_cases h : s.size = 64
  · have hz : ((s.size : Int) != 64) = false := by simp; omega
    have hz1 : (s.size : Int) ≤ 64 := by omega
    have HN : Hid (digOk s = s.toList.all fun c => digB c.toNat) := by show _ = _; simp [digOk, h]
    have HZ : Hid _ := h
    clear h
    go_enter Tryd.func28, Tryd.ntmps28
    go_wp2
    go_loop [9] (fun i => ∃ k : Nat, k ≤ s.size ∧ i = .int .i64 k ∧ ∀ j (hj : j < s.size), j < k → digB s[j].toNat = true) (fun i => s.size - (intOf i).toNat)
    case atStart => exact ⟨0, Nat.zero_le _, rfl, by omega⟩
    case round =>
      obtain ⟨k, hk, rfl, hlo⟩ := hrel
      have HL : Hid _ := hlo
      clear hlo
      by_cases hlt : k < s.size
      · by_cases hb : digB s[k].toNat = true
        · go_wp2_with (go_at_call 57; refine (isDigit_any _ _).mono ?_; rintro e w' ⟨rfl, rfl⟩; rw [hb])
          refine ⟨⟨k + 1, by omega, by go_num, fun j hj hjk => ?_⟩, by simp [intOf]; omega⟩
          by_cases h : j < k
          · exact HL.out j hj h
          · obtain rfl : j = k := by omega
            exact hb
        · have hb' : digB s[k].toNat = false := by simpa using hb
          clear hb
          have HF : Hid (digOk s = false) := by show _ = _; rw [HN.out]; exact d_all_false s k hlt _ hb'
          go_wp2_with (go_at_call 57; refine (isDigit_any _ _).mono ?_; rintro e w' ⟨rfl, rfl⟩; rw [hb'])
          go_ret
          exact ⟨by rw [HF.out]; rfl, rfl⟩
      · have HF : Hid (digOk s = true) := by show _ = _; rw [HN.out]; exact d_all_true s _ (fun j hj => HL.out j hj (by omega))
        go_wp2
        go_ret
        exact ⟨by rw [HF.out]; rfl, rfl⟩
  · have hz : ((s.size : Int) != 64) = true := by rw [bne_iff_ne]; omega
    have HF : Hid (digOk s = false) := by show _ = _; simp [digOk, h]
    clear h
    go_enter Tryd.func28, Tryd.ntmps28
    go_wp2
    go_ret
    exact ⟨by rw [HF.out]; rfl, rfl⟩

def hexd (n : Nat) : Nat := if n < 10 then 48 + n else 87 + n
def hexI (c : Int) : Int := if 48 ≤ c ∧ c ≤ 57 then c - 48 else if 97 ≤ c ∧ c ≤ 102 then c - 87 else -1
theorem hex_at (k : Nat) (hk : k < 16) : hexI (hexd k) = k := by
  unfold hexd hexI
  split <;> split <;> (try split) <;> omega
theorem hex_no (c : Nat) (h : ∀ k, k < 16 → hexd k ≠ c) : hexI c = -1 := by
  unfold hexI
  split
  · have := h (c - 48) (by omega)
    unfold hexd at this
    rw [if_pos (by omega)] at this
    omega
  · split
    · have := h (c - 87) (by omega)
      unfold hexd at this
      rw [if_neg (by omega)] at this
      omega
    · rfl
theorem hexI_neg (c : Int) : decide (hexI c < 0) = !digB c := by
  unfold hexI digB
  by_cases h1 : 48 ≤ c ∧ c ≤ 57
  · rw [if_pos h1]; simp [h1]
  · rw [if_neg h1]
    by_cases h2 : 97 ≤ c ∧ c ≤ 102
    · rw [if_pos h2]; simp [h2]; omega
    · rw [if_neg h2]; simp [h1, h2]
theorem hex_digits : ∀ n, n < 16 → (ByteArray.extract ⟨#[48, 49, 50, 51, 52, 53, 54, 55, 56, 57, 97, 98, 99, 100, 101, 102]⟩ n (n + 1)).data.toList = [UInt8.ofNat (hexd n)] := by
  intro n hn
  rw [Lib.extract_data]
  revert n
  decide

set_option maxHeartbeats 1000000 in
theorem hexDigit_any (n : Nat) (w : World) (h : n < 16) : Calls Tryd.prog 40 #[.int .i64 n] w fun e w' => e = .returned (.string ⟨#[UInt8.ofNat (hexd n)]⟩) ∧ w' = w := by
  have HE : Hid _ := d_bytes (hex_digits n h)
  have h1 : (n : Int) < 16 := by omega
  clear h
  go_enter Tryd.func40, Tryd.ntmps40
  go_wp2
  go_ret
  exact ⟨by rw [show (⟨#[UInt8.ofNat (hexd n)]⟩ : ByteArray) = ⟨[UInt8.ofNat (hexd n)].toArray⟩ from rfl, ← HE.out]; rfl, rfl⟩

set_option maxHeartbeats 1000000 in
set_option maxRecDepth 100000 in
theorem hexOf_any (c : Nat) (w : World) (_hc : c < 256) : Calls Tryd.prog 52 #[.int .u8 c] w fun e w' => e = .returned (.int .i64 (hexI c)) ∧ w' = w := by
  go_enter Tryd.func52, Tryd.ntmps52
  go_wp2
  go_loop [3] (fun i => ∃ k : Nat, k ≤ 16 ∧ i = .int .i64 k ∧ ∀ j, j < k → hexd j ≠ c) (fun i => 16 - (intOf i).toNat)
  case atStart => exact ⟨0, Nat.zero_le _, rfl, by omega⟩
  case round =>
    obtain ⟨k, hk, rfl, hlo⟩ := hrel
    have HL : Hid _ := hlo
    clear hlo
    by_cases hlt : k < 16
    · have hlt1 : (k : Int) < 16 := by omega
      have hx : (UInt8.ofNat (hexd k)).toNat = hexd k := by
        have : hexd k < 256 := by unfold hexd; split <;> omega
        simp [UInt8.toNat_ofNat']; omega
      by_cases he : hexd k = c
      · have hb : ((((⟨#[UInt8.ofNat (hexd k)]⟩ : ByteArray)[0]'(by show 0 < 1; decide)).toNat : Int) == (c : Int)) = true := by show (((UInt8.ofNat (hexd k)).toNat : Int) == (c : Int)) = true; rw [hx, he]; simp
        have HR : Hid (hexI c = (k : Int)) := by show _ = _; rw [← he]; exact hex_at k hlt
        clear he hx
        go_wp2_with (go_at_call 40; refine (hexDigit_any _ _ hlt).mono ?_; rintro e w' ⟨rfl, rfl⟩)
        go_ret
        exact ⟨by rw [HR.out]; rfl, rfl⟩
      · have hb : ((((⟨#[UInt8.ofNat (hexd k)]⟩ : ByteArray)[0]'(by show 0 < 1; decide)).toNat : Int) == (c : Int)) = false := by show (((UInt8.ofNat (hexd k)).toNat : Int) == (c : Int)) = false; rw [hx, beq_eq_false_iff_ne]; omega
        have HE : Hid (hexd k ≠ c) := he
        clear he hx
        go_wp2_with (go_at_call 40; refine (hexDigit_any _ _ hlt).mono ?_; rintro e w' ⟨rfl, rfl⟩)
        refine ⟨⟨k + 1, by omega, by go_num, fun j hj => ?_⟩, by simp [intOf]; omega⟩
        by_cases h : j < k
        · exact HL.out j h
        · obtain rfl : j = k := by omega
          exact HE.out
    · have HR : Hid (hexI c = -1) := hex_no c (fun j hj => HL.out j (by omega))
      go_wp2
      go_ret
      exact ⟨by rw [HR.out]; rfl, rfl⟩

set_option maxHeartbeats 1000000 in
set_option maxRecDepth 100000 in
theorem RIsDigest_any (s : ByteArray) (w : World) (hs : s.size ≤ maxLen) : Calls Tryd.prog 20 #[.string s] w fun e w' => e = .returned (.bool (digOk s)) ∧ w' = w := by
  have hsz : (s.size : Int) ≤ 9223372036854775807 := by unfold maxLen at hs; omega
  have HA : Hid (s.toList.all (fun c => digB c.toNat) = false → digOk s = false) := fun h => by simp [digOk, h]
  have HB : Hid (s.toList.all (fun c => digB c.toNat) = true → digOk s = ((s.size : Int) == 64)) := fun h => by
    rw [digOk, h, Bool.and_true]
    by_cases e : s.size = 64
    · simp [e]
    · have : ¬ (s.size : Int) = 64 := by omega
      simp [e, this]
  clear hs
  go_enter Tryd.func20, Tryd.ntmps20
  go_wp2
  go_loop [3] (fun i => ∃ k : Nat, k ≤ s.size ∧ i = .int .i64 k ∧ ∀ j (hj : j < s.size), j < k → digB s[j].toNat = true) (fun i => s.size - (intOf i).toNat)
  case atStart => exact ⟨0, Nat.zero_le _, rfl, by omega⟩
  case round =>
    obtain ⟨k, hk, rfl, hlo⟩ := hrel
    have HL : Hid _ := hlo
    clear hlo
    by_cases hlt : k < s.size
    · have hx := hexI_neg (s[k].toNat : Int)
      by_cases hb : digB s[k].toNat = true
      · rw [hb] at hx
        have hx' : ¬ hexI (s[k].toNat : Int) < 0 := by simpa using hx
        have HN : Hid _ := hb
        clear hx hb
        go_wp2_with (go_at_call 52; refine (hexOf_any _ _ s[k].toNat_lt).mono ?_; rintro e w' ⟨rfl, rfl⟩)
        refine ⟨⟨k + 1, by omega, by go_num, fun j hj hjk => ?_⟩, by simp [intOf]; omega⟩
        by_cases h : j < k
        · exact HL.out j hj h
        · obtain rfl : j = k := by omega
          exact HN.out
      · have hb' : digB s[k].toNat = false := by simpa using hb
        rw [hb'] at hx
        have hx' : hexI (s[k].toNat : Int) < 0 := by simpa using hx
        have HF : Hid (digOk s = false) := HA.out (d_all_false s k hlt _ hb')
        clear hx hb hb'
        go_wp2_with (go_at_call 52; refine (hexOf_any _ _ s[k].toNat_lt).mono ?_; rintro e w' ⟨rfl, rfl⟩)
        go_ret
        exact ⟨by rw [HF.out]; rfl, rfl⟩
    · have HF : Hid _ := HB.out (d_all_true s _ (fun j hj => HL.out j hj (by omega)))
      go_wp2
      go_ret
      exact ⟨by rw [HF.out]; rfl, rfl⟩
end Go.Proofs.YtagelkaenbdlaaaDoor
