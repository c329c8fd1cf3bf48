/- The document's own reading of a packed number (UnpackNumber). -/
import Derived.Test.YtcfplkfddcblnaaReadNo
import Derived.Test.YtcfplkfddcblnaaRefX
import Derived.Test.YtcfplkfddcblnaaPackN
namespace Go.Proofs.Ytcfplkfddcblnaa
open Go.RowKit Go.Shelf

/-- One byte more of a number's bytes. -/
theorem val_next (s : ByteArray) (m : Nat) (hm : m < s.size) : val (s.data.toList.take (m + 1)) = val (s.data.toList.take m) + s[m].toNat % 128 * 2 ^ (7 * m) := by
  rw [take_snoc s m hm, val_snoc, List.length_take, Nat.min_eq_left (by rw [Array.length_toList]; exact Nat.le_of_lt hm), Nat.pow_mul, Nat.mul_comm]
theorem val_bound (s : ByteArray) (m : Nat) (hm : m ≤ 8) : val (s.data.toList.take m) < 72057594037927936 := by
  refine Nat.lt_of_lt_of_le (val_lt _) ?_
  exact Nat.le_trans (Nat.pow_le_pow_right (by decide) (by rw [List.length_take]; omega)) (show 128 ^ 8 ≤ 72057594037927936 by decide)

set_option maxHeartbeats 2000000 in
set_option maxRecDepth 100000 in
theorem unp_yes (s : ByteArray) (w : World) (hs : s.size ≤ maxLen) (k : Nat) (hk : k < s.size) (hk8 : k < 8) (hlo : ∀ j : Nat, (hj : j < k) → 128 ≤ s[j].toNat) (hhi : s[k].toNat < 128)
    (hz : k = 0 ∨ s[k].toNat ≠ 0) (hv : val (s.data.toList.take (k + 1)) ≤ 9007199254740991) :
    Calls Try.prog 27 #[.string s] w fun e w' => e = .returned (.tuple #[.int .i64 (val (s.data.toList.take (k + 1))), .int .i64 (k + 1 : Nat), .int .i64 0]) ∧ w' = w := by
  unfold maxLen at hs
  have HL : Hid (∀ j : Nat, (hj : j < k) → 128 ≤ s[j].toNat) := hlo
  have HH : Hid (s[k].toNat < 128) := hhi
  have HZ : Hid (k = 0 ∨ s[k].toNat ≠ 0) := hz
  have HV : Hid (val (s.data.toList.take (k + 1)) ≤ 9007199254740991) := hv
  clear hlo hhi hz hv
  go_enter Try.func27, Try.ntmps27
  go_wp2
  go_loop [5, 6] (fun v i => ∃ m : Nat, m ≤ k ∧ v = .int .i64 (val (s.data.toList.take m) : Nat) ∧ i = .int .i64 m) (fun _ i => s.size - (intOf i).toNat)
  case atStart => exact ⟨0, Nat.zero_le _, rfl, rfl⟩
  case round =>
    obtain ⟨m, hm, rfl, rfl⟩ := hrel
    have hms : m < s.size := by omega
    have HN : Hid (val (s.data.toList.take (m + 1)) = val (s.data.toList.take m) + s[m].toNat % 128 * 2 ^ (7 * m)) := val_next s m hms
    have hb1 := val_bound s (m + 1) (by omega)
    rw [HN.out] at hb1
    have HP : Hid (∀ w, Calls Try.prog 40 #[.int .i64 ((7 * m : Nat) : Int)] w fun e w' => e = .returned (.int .i64 ((2 ^ (7 * m) : Nat) : Int)) ∧ w' = w) := fun w => Pow2_any (7 * m) w (by omega)
    have hpb : 2 ^ (7 * m) ≤ 562949953421312 := Nat.pow_le_pow_right (n := 2) (by decide) (show 7 * m ≤ 49 by omega)
    have m7 : 7 * (m : Int) = ((7 * m : Nat) : Int) := by push_cast; rfl
    have m7w : IntKind.i64.wrap ((7 * m : Nat) : Int) = ((7 * m : Nat) : Int) := wraps_i64 _ (by omega) (by omega)
    have m7x : wrap64 ((7 * m : Nat) : Int) = ((7 * m : Nat) : Int) := by unfold wrap64; omega
    have hcl : s[m].toNat < 256 := s[m].toNat_lt
    have hc0 : wrap64 (s[m].toNat : Int) = (s[m].toNat : Int) := by unfold wrap64; omega
    have hcm : (s[m].toNat : Int) % 128 = ((s[m].toNat % 128 : Nat) : Int) := by omega
    have m8 : (m : Int) < 8 := by omega
    generalize hx : val (s.data.toList.take m) = x at HN hb1
    have HX : Hid (val (s.data.toList.take m) = x) := hx
    clear hx
    generalize 2 ^ (7 * m) = p at HN hb1 HP hpb
    have hcp : ((s[m].toNat % 128 : Nat) : Int) * (p : Int) = ((s[m].toNat % 128 * p : Nat) : Int) := by push_cast; rfl
    have hqb : s[m].toNat % 128 * p < 72057594037927936 := by omega
    generalize hq : s[m].toNat % 128 * p = q at hcp HN hb1 hqb
    have hwq0 : wrap64 (q : Int) = (q : Int) := by unfold wrap64; omega
    clear hq
    generalize s[m].toNat % 128 = y at hcp hcm
    generalize 7 * m = m7n at m7 m7w m7x HP
    by_cases hlt : m < k
    · have h1 : (128 : Int) ≤ (s[m].toNat : Int) := by have := HL.out m hlt; omega
      go_wp2_with (go_at_call 40; refine (HP.out _).mono ?_; rintro e w' ⟨rfl, rfl⟩)
      refine ⟨⟨m + 1, by omega, ?_, by go_num⟩, by simp [intOf]; omega⟩
      rw [HN.out]
      go_num
    · obtain rfl : m = k := by omega
      have h1 : (s[m].toNat : Int) < 128 := by have := HH.out; omega
      have HR : Hid (x + q ≤ 9007199254740991) := by have := HV.out; rw [HN.out] at this; exact this
      have hxq : (x : Int) + (q : Int) = ((x + q : Nat) : Int) := by push_cast; rfl
      have HI : Hid (∀ w, Calls Try.prog 41 #[.int .i64 ((x + q : Nat) : Int)] w fun e w' => e = .returned (.bool true) ∧ w' = w) := fun w => by
        have := isNumber_any ((x + q : Nat) : Int) w
        have e1 : (decide (0 ≤ ((x + q : Nat) : Int)) && decide (((x + q : Nat) : Int) ≤ 9007199254740991)) = true := by have := HR.out; simp; omega
        rwa [e1] at this
      have hwq : wrap64 ((x + q : Nat) : Int) = ((x + q : Nat) : Int) := by unfold wrap64; omega
      generalize hzz : x + q = z at hxq HI HN hwq
      clear hzz
      have HM : Hid (s[m].toNat = 0 → m = 0) := fun h => by
        rcases HZ.out with h0 | h0
        · exact h0
        · exact absurd h h0
      clear hb1 hqb hpb HX HV HL HZ
      by_cases hc : s[m].toNat = 0
      · obtain rfl := HM.out hc
        obtain rfl : m7n = 0 := by omega
        have hcz : ((s[0].toNat : Int) == 0) = true := by simp; omega
        clear hc hcl m7 m7w m7x
        go_wp2_with (first | (go_at_call 40; refine (HP.out _).mono ?_; rintro e w' ⟨rfl, rfl⟩) | (go_at_call 41; refine (HI.out _).mono ?_; rintro e w' ⟨rfl, rfl⟩))
        go_ret3
        exact ⟨by rw [HN.out]; rfl, rfl⟩
      · have hm0 : ((s[m].toNat : Int) == 0) = false := by simp; omega
        clear hc
        go_wp2_with (first | (go_at_call 40; refine (HP.out _).mono ?_; rintro e w' ⟨rfl, rfl⟩) | (go_at_call 41; refine (HI.out _).mono ?_; rintro e w' ⟨rfl, rfl⟩))
        go_ret3
        exact ⟨by rw [HN.out]; rfl, rfl⟩

theorem isNumber_no (n : Nat) (w : World) (h : 9007199254740991 < n) : Calls Try.prog 41 #[.int .i64 (n : Int)] w fun e w' => e = .returned (.bool false) ∧ w' = w := by
  have := isNumber_any (n : Int) w
  have e1 : (decide (0 ≤ (n : Int)) && decide ((n : Int) ≤ 9007199254740991)) = false := by simp; omega
  rwa [e1] at this
theorem num_there (s : ByteArray) (m : Nat) (hm : m < s.size) (hlo : ∀ j : Nat, (hj : j < m) → 128 ≤ s[j].toNat) (hhi : s[m].toNat < 128) (hz : m = 0 ∨ s[m].toNat ≠ 0) (hv : val (s.data.toList.take (m + 1)) ≤ 9007199254740991) : ¬ NoNum s := by
  intro h
  have hz2 : s.data.toList.take m = [] ∨ s[m].toNat ≠ 0 := by
    rcases hz with h0 | h0
    · exact Or.inl (by rw [h0]; rfl)
    · exact Or.inr h0
  refine h ⟨_, s.data.toList.drop (m + 1), hv, ?_⟩
  rw [take_snoc s m hm, (pk_val (s.data.toList.take m) s[m] (mem_take s m hm _ hlo) hhi hz2).1]
  exact data_cut s m hm

set_option maxHeartbeats 4000000 in
set_option maxRecDepth 100000 in
theorem unp_no (s : ByteArray) (w : World) (hs : s.size ≤ maxLen) (hno : NoNum s) :
    Calls Try.prog 27 #[.string s] w fun e w' => (∃ k : Int, (k != 0) = true ∧ e = .returned (.tuple #[.int .i64 0, .int .i64 0, .int .i64 k])) ∧ w' = w := by
  unfold maxLen at hs
  have HNo : Hid (NoNum s) := hno
  clear hno
  go_enter Try.func27, Try.ntmps27
  go_wp2
  go_loop [5, 6] (fun v i => ∃ m : Nat, m ≤ s.size ∧ m ≤ 8 ∧ (∀ j : Nat, (hj : j < s.size) → j < m → 128 ≤ s[j].toNat) ∧ v = .int .i64 (val (s.data.toList.take m) : Nat) ∧ i = .int .i64 m) (fun _ i => s.size - (intOf i).toNat)
  case atStart => exact ⟨0, Nat.zero_le _, by omega, by omega, rfl, rfl⟩
  case round =>
    obtain ⟨m, hm, hm8, hlo, rfl, rfl⟩ := hrel
    have HL : Hid (∀ j : Nat, (hj : j < s.size) → j < m → 128 ≤ s[j].toNat) := hlo
    clear hlo
    by_cases hms : m < s.size
    · by_cases h8 : m < 8
      · have HN : Hid (val (s.data.toList.take (m + 1)) = val (s.data.toList.take m) + s[m].toNat % 128 * 2 ^ (7 * m)) := val_next s m hms
        have hb1 := val_bound s (m + 1) (by omega)
        rw [HN.out] at hb1
        have HP : Hid (∀ w, Calls Try.prog 40 #[.int .i64 ((7 * m : Nat) : Int)] w fun e w' => e = .returned (.int .i64 ((2 ^ (7 * m) : Nat) : Int)) ∧ w' = w) := fun w => Pow2_any (7 * m) w (by omega)
        have m7 : 7 * (m : Int) = ((7 * m : Nat) : Int) := by push_cast; rfl
        have m7w : IntKind.i64.wrap ((7 * m : Nat) : Int) = ((7 * m : Nat) : Int) := wraps_i64 _ (by omega) (by omega)
        have m7x : wrap64 ((7 * m : Nat) : Int) = ((7 * m : Nat) : Int) := by unfold wrap64; omega
        have hcl : s[m].toNat < 256 := s[m].toNat_lt
        have hc0 : wrap64 (s[m].toNat : Int) = (s[m].toNat : Int) := by unfold wrap64; omega
        have hcm : (s[m].toNat : Int) % 128 = ((s[m].toNat % 128 : Nat) : Int) := by omega
        have m8 : (m : Int) < 8 := by omega
        generalize hx : val (s.data.toList.take m) = x at HN hb1
        clear hx
        generalize 2 ^ (7 * m) = p at HN hb1 HP
        have hcp : ((s[m].toNat % 128 : Nat) : Int) * (p : Int) = ((s[m].toNat % 128 * p : Nat) : Int) := by push_cast; rfl
        generalize hq : s[m].toNat % 128 * p = q at hcp HN hb1
        have hwq0 : wrap64 (q : Int) = (q : Int) := by unfold wrap64; omega
        clear hq
        generalize s[m].toNat % 128 = y at hcp hcm
        generalize 7 * m = m7n at m7 m7w m7x HP
        have hxq : (x : Int) + (q : Int) = ((x + q : Nat) : Int) := by push_cast; rfl
        have hwq : wrap64 ((x + q : Nat) : Int) = ((x + q : Nat) : Int) := by unfold wrap64; omega
        by_cases hlt : 128 ≤ s[m].toNat
        · have h1 : (128 : Int) ≤ (s[m].toNat : Int) := by omega
          generalize x + q = z at hxq HN hwq
          clear hb1
          go_wp2_with (first | (go_at_call 40; refine (HP.out _).mono ?_; rintro e w' ⟨rfl, rfl⟩) | (go_at_call 41; refine (HI.out _).mono ?_; rintro e w' ⟨rfl, rfl⟩))
          refine ⟨⟨m + 1, by omega, by omega, fun j hj hjm => ?_, by rw [HN.out, hwq], by go_num⟩, by simp [intOf]; omega⟩
          by_cases hjm2 : j < m
          · exact HL.out j hj hjm2
          · obtain rfl : j = m := by omega
            exact hlt
        · have h1 : (s[m].toNat : Int) < 128 := by omega
          by_cases hcz : s[m].toNat = 0 ∧ 0 < m
          · have hc1 : ((s[m].toNat : Int) == 0) = true := by rw [hcz.1]; rfl
            have hc2 : (0 : Int) < (m : Int) := by omega
            generalize x + q = z at hxq HN hwq
            clear hb1 hcz hcl hlt h1
            have h1 : decide ((128 : Int) ≤ (s[m].toNat : Int)) = false := by
              have : (s[m].toNat : Int) = 0 := by simpa using hc1
              rw [this]
              rfl
            have HI : Hid True := trivial
            go_wp2_with (go_at_call 40; refine (HP.out _).mono ?_; rintro e w' ⟨rfl, rfl⟩)
            all_goals go_ret3
            all_goals exact ⟨⟨1, by decide, rfl⟩, rfl⟩
          · have HB : Hid (9007199254740991 < x + q) := by
              show _ < _
              rcases Nat.lt_or_ge 9007199254740991 (x + q) with h | h
              · exact h
              · refine absurd HNo.out (num_there s m hms (fun j hj => HL.out j (by omega) hj) (by omega) ?_ (by rw [HN.out]; exact h))
                by_cases h0 : m = 0
                · exact Or.inl h0
                · exact Or.inr fun h2 => hcz ⟨h2, by omega⟩
            have HI : Hid (∀ w, Calls Try.prog 41 #[.int .i64 ((x + q : Nat) : Int)] w fun e w' => e = .returned (.bool false) ∧ w' = w) := fun w => isNumber_no (x + q) w HB.out
            generalize x + q = z at hxq HN hwq HI
            by_cases hc : s[m].toNat = 0
            · obtain rfl : m = 0 := by
                rcases Nat.eq_zero_or_pos m with h | h
                · exact h
                · exact absurd ⟨hc, h⟩ hcz
              obtain rfl : m7n = 0 := by omega
              have hc1 : ((s[0].toNat : Int) == 0) = true := by rw [hc]; rfl
              clear hc hcl m7 m7w m7x hb1 hlt hcz
              go_wp2_with (first | (go_at_call 40; refine (HP.out _).mono ?_; rintro e w' ⟨rfl, rfl⟩) | (go_at_call 41; refine (HI.out _).mono ?_; rintro e w' ⟨rfl, rfl⟩))
              go_ret3
              exact ⟨⟨3, by decide, rfl⟩, rfl⟩
            · have hm0 : ((s[m].toNat : Int) == 0) = false := by simp; omega
              clear hc hb1 hlt hcz
              go_wp2_with (first | (go_at_call 40; refine (HP.out _).mono ?_; rintro e w' ⟨rfl, rfl⟩) | (go_at_call 41; refine (HI.out _).mono ?_; rintro e w' ⟨rfl, rfl⟩))
              go_ret3
              exact ⟨⟨3, by decide, rfl⟩, rfl⟩
      · have h8i : (m : Int) = 8 := by omega
        go_wp2
        go_ret3
        exact ⟨⟨3, by decide, rfl⟩, rfl⟩
    · go_wp2
      go_ret3
      exact ⟨⟨1, by decide, rfl⟩, rfl⟩

theorem unp_pk (s : ByteArray) (w : World) (n : Nat) (r : List UInt8) (hs : s.size ≤ maxLen) (hn : n ≤ 9007199254740991) (h : s.data.toList = pk n ++ r) :
    Calls Try.prog 27 #[.string s] w fun e w' => e = .returned (.tuple #[.int .i64 n, .int .i64 (pk n).length, .int .i64 0]) ∧ w' = w := by
  obtain ⟨d, c, e, hd, hc, hz, _, _⟩ := pk_form n n (Nat.le_refl _)
  have h8 := pk_len8 n hn
  have hl : (pk n).length = d.length + 1 := by rw [e]; simp
  have hsz := size_of h
  have hk : d.length < s.size := by rw [hsz]; simp; omega
  have hv : val (s.data.toList.take (d.length + 1)) = n := by
    rw [h, ← hl, List.take_left, val_pk n n (Nat.le_refl _)]
  have hat : ∀ j (hj : j < s.size), s[j] = (s.data.toList)[j]'(by rw [h]; rw [hsz] at hj; exact hj) := fun j hj => rfl
  have hl2 : s.data.toList = d ++ (c :: r) := by rw [h, e]; simp
  have hck : s[d.length] = c := by
    rw [hat _ hk]
    rw [List.getElem_of_eq hl2]
    simp
  have := unp_yes s w hs d.length hk (by omega)
    (fun j hj => by
      rw [hat j (by omega), List.getElem_of_eq hl2, List.getElem_append_left hj]
      exact hd _ (List.getElem_mem _))
    (by rw [hck]; exact hc)
    (by rw [hck]; rcases hz with hz | hz
        · exact Or.inl (by rw [hz]; rfl)
        · exact Or.inr hz)
    (by rw [hv]; exact hn)
  rw [hv] at this
  rw [hl]
  exact this
end Go.Proofs.Ytcfplkfddcblnaa
