/- What IsName answers, the program's and the document's own. -/
import Derived.Test.YtcpomkgfcpfedaaGreatDoorBase0
namespace Go.Proofs.YtcpomkgfcpfedaaGreatDoor
open Go.RowKit Go.Shelf

def nmB (c : Int) : Bool := decide (97 ≤ c ∧ c ≤ 122) || decide (48 ≤ c ∧ c ≤ 57) || (c == 95) || (c == 45) || (c == 46)

set_option maxHeartbeats 2000000 in
theorem isNameByte_any (c : Int) (w : World) (h0 : 0 ≤ c) (h1 : c < 256) :
    Calls Tryz.prog 85 #[.int .u8 c] w fun e w' => e = .returned (.bool (nmB c)) ∧ w' = w := by
  by_cases a1 : 97 ≤ c
  · by_cases a2 : c ≤ 122
    · go_enter Tryz.func85, Tryz.ntmps85
      go_wp2
      go_ret
      exact ⟨by simp [nmB, a1, a2], rfl⟩
    · have e1 : (c == 95) = false := by simp; omega
      have e2 : (c == 45) = false := by simp; omega
      have e3 : (c == 46) = false := by simp; omega
      have d1 : decide (c ≤ 57) = false := by simp; omega
      have d2 : decide (c ≤ 122) = false := by simp; omega
      have HF : Hid (nmB c = false) := by show _ = _; simp [nmB, e1, e2, e3]; omega
      clear a2
      go_enter Tryz.func85, Tryz.ntmps85
      go_wp2
      go_ret
      exact ⟨by rw [HF.out]; rfl, rfl⟩
  · by_cases a2 : 48 ≤ c ∧ c ≤ 57
    · obtain ⟨a2, a3⟩ := a2
      go_enter Tryz.func85, Tryz.ntmps85
      go_wp2
      go_ret
      exact ⟨by simp [nmB, a2, a3], rfl⟩
    · by_cases b1 : c = 95
      · subst b1
        go_enter Tryz.func85, Tryz.ntmps85
        go_wp2
        go_ret
        exact ⟨by rw [show nmB 95 = true from by decide]; rfl, rfl⟩
      · by_cases b2 : c = 45
        · subst b2
          go_enter Tryz.func85, Tryz.ntmps85
          go_wp2
          go_ret
          exact ⟨by rw [show nmB 45 = true from by decide]; rfl, rfl⟩
        · by_cases b3 : c = 46
          · subst b3
            go_enter Tryz.func85, Tryz.ntmps85
            go_wp2
            go_ret
            exact ⟨by rw [show nmB 46 = true from by decide]; rfl, rfl⟩
          · have e1 : (c == 95) = false := by simpa using b1
            have e2 : (c == 45) = false := by simpa using b2
            have e3 : (c == 46) = false := by simpa using b3
            have hf : nmB c = false := by simp [nmB, e1, e2, e3]; omega
            have HF : Hid _ := hf
            clear hf b1 b2 b3
            rcases Int.lt_or_le c 48 with a3 | a3
            · clear a2
              go_enter Tryz.func85, Tryz.ntmps85
              go_wp2
              go_ret
              exact ⟨by rw [HF.out]; rfl, rfl⟩
            · have a4 : decide (c ≤ 57) = false := by simp; omega
              clear a2
              go_enter Tryz.func85, Tryz.ntmps85
              go_wp2
              go_ret
              exact ⟨by rw [HF.out]; rfl, rfl⟩

def nameOk (s : ByteArray) : Bool := !(s.toList == []) && decide (s.size ≤ 20) && !(s.toList == [46]) && !(s.toList == [46, 46]) && (s.toList.all fun c => nmB c.toNat)

theorem toList_get (s : ByteArray) (k : Nat) (h : k < s.size) : s.toList[k]? = some s[k] := by
  rw [Lib.toList_data]
  have : k < s.data.toList.length := by rw [← size_of (s := s) rfl]; exact h
  rw [List.getElem?_eq_getElem this]
  rfl
theorem all_false (s : ByteArray) (k : Nat) (h : k < s.size) (f : UInt8 → Bool) (hf : f s[k] = false) : s.toList.all f = false := by
  rw [List.all_eq_false]
  exact ⟨s[k], List.mem_of_getElem? (toList_get s k h), by simp [hf]⟩
theorem all_true (s : ByteArray) (f : UInt8 → Bool) (hf : ∀ j (hj : j < s.size), f s[j] = true) : s.toList.all f = true := by
  rw [List.all_eq_true]
  intro c hc
  obtain ⟨j, hj, rfl⟩ := List.getElem_of_mem hc
  have hj' : j < s.size := by rw [Lib.toList_data] at hj; rw [size_of (s := s) rfl]; exact hj
  have := toList_get s j hj'
  rw [List.getElem?_eq_getElem hj] at this
  rw [Option.some.inj this]
  exact hf j hj'

set_option maxHeartbeats 1000000 in
set_option maxRecDepth 100000 in
theorem IsName_any (s : ByteArray) (w : World) (hs : s.size ≤ maxLen) :
    Calls Tryz.prog 53 #[.string s] w fun e w' => e = .returned (.bool (nameOk s)) ∧ w' = w := by
  have hsz : (s.size : Int) ≤ 9223372036854775807 := by unfold maxLen at hs; omega
  clear hs
  by_cases h1 : s.toList.isEmpty = true
  · have HF : Hid (nameOk s = false) := by show _ = _; rw [List.isEmpty_iff] at h1; simp [nameOk, h1]
    go_enter Tryz.func53, Tryz.ntmps53
    go_wp2
    go_ret
    exact ⟨by rw [HF.out]; rfl, rfl⟩
  have h1' : s.toList.isEmpty = false := by simpa using h1
  have h1n : (s.toList == []) = false := by cases h : s.toList <;> simp_all
  have H1 : Hid _ := h1n
  clear h1 h1n
  by_cases h2 : 20 < s.size
  · have h2' : (20 : Int) < s.size := by omega
    have HF : Hid (nameOk s = false) := by show _ = _; simp [nameOk, Nat.not_le.2 h2]
    clear h2
    go_enter Tryz.func53, Tryz.ntmps53
    go_wp2
    go_ret
    exact ⟨by rw [HF.out]; rfl, rfl⟩
  have h2' : (s.size : Int) ≤ 20 := by omega
  have H2 : Hid (s.size ≤ 20) := Nat.le_of_not_lt h2
  clear h2
  by_cases h3 : (s.toList == [46]) = true
  · have HF : Hid (nameOk s = false) := by show _ = _; simp [nameOk, h3]
    go_enter Tryz.func53, Tryz.ntmps53
    go_wp2
    go_ret
    exact ⟨by rw [HF.out]; rfl, rfl⟩
  have h3' : (s.toList == [46]) = false := by simpa using h3
  clear h3
  by_cases h4 : (s.toList == [46, 46]) = true
  · have HF : Hid (nameOk s = false) := by show _ = _; simp [nameOk, h4]
    go_enter Tryz.func53, Tryz.ntmps53
    go_wp2
    go_ret
    exact ⟨by rw [HF.out]; rfl, rfl⟩
  have h4' : (s.toList == [46, 46]) = false := by simpa using h4
  clear h4
  have HN : Hid (nameOk s = s.toList.all fun c => nmB c.toNat) := by show _ = _; simp only [nameOk, H1.out, h3', h4', H2.out]; simp
  go_enter Tryz.func53, Tryz.ntmps53
  go_wp2
  go_loop [21] (fun i => ∃ k : Nat, k ≤ s.size ∧ i = .int .i64 k ∧ ∀ j (hj : j < s.size), j < k → nmB s[j].toNat = true) (fun i => s.size - (intOf i).toNat)
  case atStart => exact ⟨0, Nat.zero_le _, rfl, by omega⟩
  case round =>
    obtain ⟨k, hk, rfl, hlo⟩ := hrel
    have HL : Hid _ := hlo
    clear hlo
    by_cases hlt : k < s.size
    · by_cases hb : nmB s[k].toNat = true
      · go_wp2_with (go_at_call 85; refine (isNameByte_any _ _ (by omega) (by have := s[k].toNat_lt; omega)).mono ?_; rintro e w' ⟨rfl, rfl⟩; rw [hb])
        refine ⟨⟨k + 1, by omega, by go_num, fun j hj hjk => ?_⟩, by simp [intOf]; omega⟩
        by_cases h : j < k
        · exact HL.out j hj h
        · obtain rfl : j = k := by omega
          exact hb
      · have hb' : nmB s[k].toNat = false := by simpa using hb
        clear hb
        have HF : Hid (nameOk s = false) := by show _ = _; rw [HN.out]; exact all_false s k hlt _ hb'
        go_wp2_with (go_at_call 85; refine (isNameByte_any _ _ (by omega) (by have := s[k].toNat_lt; omega)).mono ?_; rintro e w' ⟨rfl, rfl⟩; rw [hb'])
        go_ret
        exact ⟨by rw [HF.out]; rfl, rfl⟩
    · have HF : Hid (nameOk s = true) := by show _ = _; rw [HN.out]; exact all_true s _ (fun j hj => HL.out j hj (by omega))
      go_wp2
      go_ret
      exact ⟨by rw [HF.out]; rfl, rfl⟩
end Go.Proofs.YtcpomkgfcpfedaaGreatDoor
