/- What numberSize and ReadNumber answer where no packed number stands at the text's beginning. -/
import Derived.Test.YtmjemnmcndajpaaDoorReader
namespace Go.Proofs.YtmjemnmcndajpaaDoor
open Go.RowKit Go.Shelf

set_option maxHeartbeats 400000 in
set_option maxRecDepth 100000 in
theorem numberSize_no (s : ByteArray) (w : World) (hs : s.size ≤ maxLen) (hlo : ∀ j : Nat, (hj : j < s.size) → 128 ≤ s[j].toNat) :
    Calls Tryd.prog 39 #[.string s] w fun e w' => e = .returned (.tuple #[.int .i64 s.size, .bool false]) ∧ w' = w := by
  unfold maxLen at hs
  have HL : Hid _ := hlo
  clear hlo
  go_enter Tryd.func39, Tryd.ntmps39
  go_wp2
  go_loop [7] (fun i => ∃ m : Nat, m ≤ s.size ∧ i = .int .i64 m) (fun i => s.size - (intOf i).toNat)
  case atStart => exact ⟨0, Nat.zero_le _, rfl⟩
  case round =>
    obtain ⟨m, hm, rfl⟩ := hrel
    by_cases hlt : m < s.size
    · have h1 : 128 ≤ (s[m].toNat : Int) := by have := HL.out m hlt; omega
      go_wp2
      exact ⟨⟨m + 1, by omega, by go_num⟩, by simp [intOf]; omega⟩
    · go_wp2
      go_ret2
      exact ⟨rfl, rfl⟩

/-- Either no byte is below 128, or there is a first one. -/
theorem first_low (s : ByteArray) : (∀ j : Nat, (hj : j < s.size) → 128 ≤ s[j].toNat) ∨ ∃ k, ∃ hk : k < s.size, (∀ j : Nat, (hj : j < k) → 128 ≤ s[j].toNat) ∧ s[k].toNat < 128 := by
  by_cases h : ∃ k, ∃ hk : k < s.size, s[k].toNat < 128
  · refine Or.inr ?_
    obtain ⟨k0, h0⟩ := h
    have : ∀ n k, k ≤ n → (∃ hk : k < s.size, s[k].toNat < 128) → ∃ k, ∃ hk : k < s.size, (∀ j : Nat, (hj : j < k) → 128 ≤ s[j].toNat) ∧ s[k].toNat < 128 := by
      intro n
      induction n with
      | zero =>
        rintro k hk ⟨hks, hlow⟩
        obtain rfl : k = 0 := by omega
        exact ⟨0, hks, by omega, hlow⟩
      | succ n ih =>
        rintro k hk ⟨hks, hlow⟩
        by_cases h1 : ∃ j, ∃ hj : j < k, s[j].toNat < 128
        · obtain ⟨j, hj, hjl⟩ := h1
          exact ih j (by omega) ⟨by omega, hjl⟩
        · refine ⟨k, hks, fun j hj => ?_, hlow⟩
          rcases Nat.lt_or_ge s[j].toNat 128 with h2 | h2
          · exact absurd ⟨j, hj, h2⟩ h1
          · exact h2
    exact this k0 k0 (Nat.le_refl _) h0
  · refine Or.inl fun j hj => ?_
    rcases Nat.lt_or_ge s[j].toNat 128 with h2 | h2
    · exact absurd ⟨j, hj, h2⟩ h
    · exact h2

/-- Bytes of a number's form are what the number that they say is packed as. -/
theorem pk_val : ∀ (d : List UInt8) (c : UInt8), (∀ x ∈ d, 128 ≤ x.toNat) → c.toNat < 128 → (d = [] ∨ c.toNat ≠ 0) → pk (val (d ++ [c])) = d ++ [c] ∧ (c.toNat ≠ 0 → 0 < val (d ++ [c])) := by
  intro d
  induction d with
  | nil =>
    intro c _ hc _
    have e : val [c] = c.toNat := by simp [val]; omega
    refine ⟨?_, fun h => by rw [List.nil_append, e]; omega⟩
    rw [List.nil_append, e, pk_small _ hc]
    simp
  | cons x d ih =>
    intro c hx hc hz
    have hc0 : c.toNat ≠ 0 := by
      rcases hz with h | h
      · cases h
      · exact h
    obtain ⟨e1, e2⟩ := ih c (fun y hy => hx y (List.mem_cons_of_mem _ hy)) hc (Or.inr hc0)
    have h1 := e2 hc0
    have h2 := hx x (List.mem_cons_self ..)
    have h3 := x.toNat_lt
    simp only [List.cons_append, val]
    have hv : 128 ≤ x.toNat % 128 + 128 * val (d ++ [c]) := by omega
    refine ⟨?_, fun _ => by omega⟩
    rw [pk_more _ hv, show (x.toNat % 128 + 128 * val (d ++ [c])) / 128 = val (d ++ [c]) from by omega, e1, show (x.toNat % 128 + 128 * val (d ++ [c])) % 128 + 128 = x.toNat from by omega]
    simp

theorem data_cut (s : ByteArray) (k : Nat) (hk : k < s.size) : s.data.toList = (s.data.toList.take k ++ [s[k]]) ++ s.data.toList.drop (k + 1) := by
  rw [← take_snoc s k hk, List.take_append_drop]
theorem mem_take (s : ByteArray) (k : Nat) (hk : k < s.size) (p : UInt8 → Prop) (h : ∀ j : Nat, (hj : j < k) → p s[j]) : ∀ x ∈ s.data.toList.take k, p x := by
  intro x hx
  obtain ⟨j, hj, rfl⟩ := List.getElem_of_mem hx
  have hj' : j < k := by rw [List.length_take] at hj; omega
  rw [List.getElem_take]
  exact h j hj'

/-- No packed number stands at the beginning. -/
def NoNum (s : ByteArray) : Prop := ¬ ∃ (n : Nat) (r : List UInt8), n ≤ 9007199254740991 ∧ s.data.toList = pk n ++ r

set_option maxHeartbeats 2000000 in
set_option maxRecDepth 100000 in
theorem ReadNumber_big (s : ByteArray) (w : World) (hs : s.size ≤ maxLen) (k : Nat) (hk : k < s.size) (hk8 : k < 8) (hlo : ∀ j : Nat, (hj : j < k) → 128 ≤ s[j].toNat) (hhi : s[k].toNat < 128)
    (hz : k = 0 ∨ s[k].toNat ≠ 0) (hv : 9007199254740991 < val (s.data.toList.take (k + 1))) :
    Calls Tryd.prog 17 #[.string s] w fun e w' => e = .returned (.tuple #[.int .i64 0, .int .i64 0, .int .i64 3]) ∧ w' = w := by
  have hb : (decide (((val (s.data.toList.take (k + 1)) : Nat) : Int) < 0) || decide (9007199254740991 < ((val (s.data.toList.take (k + 1)) : Nat) : Int))) = true := by simp; omega
  have HB : Hid _ := hb
  have hk0 : (k : Int) < 8 := by omega
  clear hb
  have hsz : (s.size : Int) ≤ 9223372036854775807 := by unfold maxLen at hs; omega
  have hz2 : (k : Int) = 0 ∨ (1 ≤ (k : Int) ∧ ((s[k].toNat : Int) == 0) = false) := by
    rcases Nat.eq_zero_or_pos k with h | h
    · exact Or.inl (by omega)
    · exact Or.inr ⟨by omega, by simp; omega⟩
  have HL : Hid (∀ j : Nat, (hj : j < k) → 128 ≤ s[j].toNat) := hlo
  have HH : Hid (s[k].toNat < 128) := hhi
  clear hz hv hlo hhi
  rcases hz2 with hz2 | ⟨hz2, hz3⟩
  all_goals
    go_enter Tryd.func17, Tryd.ntmps17
    go_wp2_with (go_at_call 39; refine (numberSize_yes s _ hs k hk HL.out HH.out).mono ?_; rintro e w' ⟨rfl, rfl⟩)
    go_loop [7, 38] (fun n i => ∃ m : Nat, m ≤ k + 1 ∧ i = .int .i64 m ∧ n = .int .i64 (val (s.data.toList.take m))) (fun _ i => k + 1 - (intOf i).toNat)
    case atStart => exact ⟨0, Nat.zero_le _, rfl, rfl⟩
    case round =>
      obtain ⟨m, hm, rfl, rfl⟩ := hrel
      by_cases hlt : m < k + 1
      · have h2 : m < s.size := by omega
        have hm8 : (m : Int) < 8 := by omega
        have HO : Hid _ := (or_step m (val (s.data.toList.take m)) s[m].toNat (by omega) (by have := val_lt (s.data.toList.take m); simpa [Nat.min_eq_left (Nat.le_of_lt h2)] using this))
        have HT : Hid _ := take_snoc s m h2
        go_wp2
        refine ⟨⟨m + 1, by omega, by go_num, ?_⟩, by simp [intOf]; omega⟩
        rw [HO.out, HT.out, val_snoc]
        congr 4
        simp [Nat.min_eq_left (Nat.le_of_lt h2)]
      · obtain rfl : m = k + 1 := by omega
        go_wp2_with (go_at_call 36; refine (isNoNumber_any _ _).mono ?_; rintro e w' ⟨rfl, rfl⟩; rw [HB.out])
        go_ret3
        exact ⟨rfl, rfl⟩

set_option maxHeartbeats 2000000 in
set_option maxRecDepth 100000 in
theorem ReadNumber_no (s : ByteArray) (w : World) (hs : s.size ≤ maxLen) (hno : NoNum s) :
    Calls Tryd.prog 17 #[.string s] w fun e w' => (∃ k : Int, (k != 0) = true ∧ e = .returned (.tuple #[.int .i64 0, .int .i64 0, .int .i64 k])) ∧ w' = w := by
  have hsz : (s.size : Int) ≤ 9223372036854775807 := by unfold maxLen at hs; omega
  rcases first_low s with hall | ⟨k, hk, hlo, hhi⟩
  · have HA : Hid (∀ j : Nat, (hj : j < s.size) → 128 ≤ s[j].toNat) := hall
    clear hall hno
    by_cases h8 : s.size ≤ 8
    · have h8' : (s.size : Int) ≤ 8 := by omega
      clear h8
      go_enter Tryd.func17, Tryd.ntmps17
      go_wp2_with (go_at_call 39; refine (numberSize_no s _ hs HA.out).mono ?_; rintro e w' ⟨rfl, rfl⟩)
      go_ret3
      exact ⟨⟨1, by decide, rfl⟩, rfl⟩
    · have h8' : decide ((s.size : Int) ≤ 8) = false := by simp; omega
      have h9 : (8 : Int) < s.size := by omega
      clear h8
      go_enter Tryd.func17, Tryd.ntmps17
      go_wp2_with (go_at_call 39; refine (numberSize_no s _ hs HA.out).mono ?_; rintro e w' ⟨rfl, rfl⟩)
      go_ret3
      exact ⟨⟨3, by decide, rfl⟩, rfl⟩
  · by_cases hz : k = 0 ∨ s[k].toNat ≠ 0
    · by_cases hk8 : k < 8
      · rcases Nat.lt_or_ge 9007199254740991 (val (s.data.toList.take (k + 1))) with hv | hv
        · refine (ReadNumber_big s w hs k hk hk8 hlo hhi hz hv).mono ?_
          rintro e w' ⟨rfl, rfl⟩
          exact ⟨⟨3, by decide, rfl⟩, rfl⟩
        · exfalso
          have hd := pk_val (s.data.toList.take k) s[k] (mem_take s k hk (fun x => 128 ≤ x.toNat) hlo) hhi (by
            rcases hz with h | h
            · exact Or.inl (by rw [h]; rfl)
            · exact Or.inr h)
          refine hno ⟨val (s.data.toList.take k ++ [s[k]]), s.data.toList.drop (k + 1), by rw [← take_snoc s k hk]; exact hv, ?_⟩
          rw [hd.1]
          exact data_cut s k hk
      · have hz2 : (1 : Int) ≤ (k : Int) := by omega
        have hk9 : (8 : Int) ≤ (k : Int) := by omega
        have hz3 : ((s[k].toNat : Int) == 0) = false := by
          rcases hz with h | h
          · omega
          · simp; omega
        have HL : Hid (∀ j : Nat, (hj : j < k) → 128 ≤ s[j].toNat) := hlo
        have HH : Hid (s[k].toNat < 128) := hhi
        have hks : (k : Int) < s.size := by omega
        clear hlo hhi hz hno hk8
        go_enter Tryd.func17, Tryd.ntmps17
        go_wp2_with (go_at_call 39; refine (numberSize_yes s _ hs k hk HL.out HH.out).mono ?_; rintro e w' ⟨rfl, rfl⟩)
        go_ret3
        exact ⟨⟨3, by decide, rfl⟩, rfl⟩
    · have hz2 : (1 : Int) ≤ (k : Int) := by omega
      have hz3 : ((s[k].toNat : Int) == 0) = true := by simp; omega
      have HL : Hid (∀ j : Nat, (hj : j < k) → 128 ≤ s[j].toNat) := hlo
      have HH : Hid (s[k].toNat < 128) := hhi
      have hks : (k : Int) < s.size := by omega
      clear hlo hhi hz hno
      go_enter Tryd.func17, Tryd.ntmps17
      go_wp2_with (go_at_call 39; refine (numberSize_yes s _ hs k hk HL.out HH.out).mono ?_; rintro e w' ⟨rfl, rfl⟩)
      go_ret3
      exact ⟨⟨1, by decide, rfl⟩, rfl⟩
end Go.Proofs.YtmjemnmcndajpaaDoor
