/- What token's small functions answer of bytes. -/
import Derived.Test.YtdfimmekhbkglaaDoorTkP
import Derived.Test.YtdfimmekhbkglaaDoorTkLay
import Derived.ProofKit
import Derived.Below
import Derived.Lib.MinMax
import Derived.Deep.RegionHeld3
namespace Go.Proofs.YtdfimmekhbkglaaDoor
open Go.RowKit Go.Shelf

theorem ret_b {a b : Bool} (h : a = b) : Ending.returned (.bool a) = .returned (.bool b) := by rw [h]
theorem c_eq (c : UInt8) (n : Nat) : ((c.toNat : Int) == (n : Int)) = decide (c.toNat = n) := by
  rw [Bool.eq_iff_iff]; simp; omega

theorem isDigit_any (c : UInt8) (w : World) : Calls Tryd.prog 33 #[.int .u8 c.toNat] w fun e w' => e = .returned (.bool (isDg c)) ∧ w' = w := by
  unfold isDg
  go_enter Tryd.func33, Tryd.ntmps33
  go_wp2
  all_goals
    go_ret
    refine ⟨ret_b ?_, rfl⟩
    rw [Bool.eq_iff_iff]
    simp_all <;> omega

theorem isLetter_any (c : UInt8) (w : World) : Calls Tryd.prog 38 #[.int .u8 c.toNat] w fun e w' => e = .returned (.bool (isLt c)) ∧ w' = w := by
  unfold isLt
  go_enter Tryd.func38, Tryd.ntmps38
  go_wp2
  all_goals
    go_ret
    refine ⟨ret_b ?_, rfl⟩
    rw [Bool.eq_iff_iff]
    simp_all <;> omega

theorem skip2_any (c : UInt8) (w : World) : Calls Tryd.prog 28 #[.int .u8 c.toNat] w fun e w' => e = .returned (.bool (isNl c)) ∧ w' = w := by
  unfold isNl
  go_enter Tryd.func28, Tryd.ntmps28
  go_wp2
  go_ret
  refine ⟨ret_b ?_, rfl⟩
  rw [Bool.eq_iff_iff]
  simp <;> omega

theorem text1_any (c : UInt8) (w : World) : Calls Tryd.prog 48 #[.int .u8 c.toNat] w fun e w' => e = .returned (.bool (isPl c)) ∧ w' = w := by
  unfold isPl
  go_enter Tryd.func48, Tryd.ntmps48
  go_wp2
  all_goals
    go_ret
    refine ⟨ret_b ?_, rfl⟩
    rw [Bool.eq_iff_iff]
    simp_all <;> omega

theorem token1_any (c : UInt8) (w : World) : Calls Tryd.prog 39 #[.int .u8 c.toNat] w fun e w' => e = .returned (.bool (isNm c)) ∧ w' = w := by
  have H1 : Hid (∀ w, Calls Tryd.prog 38 #[.int .u8 c.toNat] w fun e w' => e = .returned (.bool (isLt c)) ∧ w' = w) := isLetter_any c
  have H2 : Hid (∀ w, Calls Tryd.prog 33 #[.int .u8 c.toNat] w fun e w' => e = .returned (.bool (isDg c)) ∧ w' = w) := isDigit_any c
  unfold isNm
  generalize isLt c = b1 at *
  generalize isDg c = b2 at *
  cases b1 with
  | true =>
    go_enter Tryd.func39, Tryd.ntmps39
    go_wp2_with fail
    refine (H1.out _).mono ?_
    rintro e w' ⟨rfl, rfl⟩
    go_wp2
    go_ret
    exact ⟨rfl, rfl⟩
  | false =>
    go_enter Tryd.func39, Tryd.ntmps39
    go_wp2_with fail
    refine (H1.out _).mono ?_
    rintro e w' ⟨rfl, rfl⟩
    go_wp2_with fail
    refine (H2.out _).mono ?_
    rintro e w' ⟨rfl, rfl⟩
    go_wp2
    go_ret
    exact ⟨rfl, rfl⟩

theorem indexByte_any (s : ByteArray) (c : UInt8) (w : World) : Calls Tryd.prog 44 #[.string s, .int .u8 c.toNat] w fun e w' => e = .returned (.int .i64 (Lib.indexByte s.data.toList c)) ∧ w' = w := by
  have h := Any.strings_IndexByte laysX s c.toNat w
  have e : ((c.toNat : Int)).toNat.toUInt8 = c := by simp
  rw [e] at h
  exact h
theorem idx_nonneg (l : List UInt8) (c : UInt8) : decide (0 ≤ Lib.indexByte l c) = l.contains c := by
  induction l with
  | nil => simp [Lib.indexByte]
  | cons a r ih =>
    rw [List.contains_cons, ← ih]
    have := Lib.indexByte_ge r c
    show decide (0 ≤ (if a == c then (0 : Int) else if Lib.indexByte r c == -1 then -1 else Lib.indexByte r c + 1)) = _
    by_cases h : a = c
    · simp [h]
    · have h' : (c == a) = false := by simp; exact fun e => h e.symm
      have h2 : (a == c) = false := by simp [h]
      rw [h', Bool.false_or, h2]
      rw [Bool.eq_iff_iff]
      by_cases h3 : Lib.indexByte r c = -1
      · simp [h3]
      · simp [h3]
        omega

set_option maxHeartbeats 400000 in
theorem isOpening_any (c : UInt8) (w : World) : Calls Tryd.prog 35 #[.int .u8 c.toNat] w fun e w' => e = .returned (.bool (isOpn c)) ∧ w' = w := by
  have HI : Hid (∀ w, Calls Tryd.prog 44 #[.string ⟨#[40, 91, 123]⟩, .int .u8 c.toNat] w fun e w' => e = .returned (.int .i64 (Lib.indexByte [40, 91, 123] c)) ∧ w' = w) := fun w => indexByte_any ⟨#[40, 91, 123]⟩ c w
  have hb : decide (0 ≤ Lib.indexByte [40, 91, 123] c) = isOpn c := by
    rw [idx_nonneg]
    unfold isOpn
    rw [Bool.eq_iff_iff]
    simp [← UInt8.toNat_inj]
    omega
  generalize Lib.indexByte [40, 91, 123] c = x at HI hb
  go_enter Tryd.func35, Tryd.ntmps35
  go_wp2_with fail
  refine (HI.out _).mono ?_
  rintro e w' ⟨rfl, rfl⟩
  go_wp2
  go_ret
  exact ⟨rfl, rfl⟩

set_option maxHeartbeats 400000 in
theorem isClosing_any (c : UInt8) (w : World) : Calls Tryd.prog 31 #[.int .u8 c.toNat] w fun e w' => e = .returned (.bool (isCls c)) ∧ w' = w := by
  have HI : Hid (∀ w, Calls Tryd.prog 44 #[.string ⟨#[41, 93, 125]⟩, .int .u8 c.toNat] w fun e w' => e = .returned (.int .i64 (Lib.indexByte [41, 93, 125] c)) ∧ w' = w) := fun w => indexByte_any ⟨#[41, 93, 125]⟩ c w
  have hb : decide (0 ≤ Lib.indexByte [41, 93, 125] c) = isCls c := by
    rw [idx_nonneg]
    unfold isCls
    rw [Bool.eq_iff_iff]
    simp [← UInt8.toNat_inj]
    omega
  generalize Lib.indexByte [41, 93, 125] c = x at HI hb
  go_enter Tryd.func31, Tryd.ntmps31
  go_wp2_with fail
  refine (HI.out _).mono ?_
  rintro e w' ⟨rfl, rfl⟩
  go_wp2
  go_ret
  exact ⟨rfl, rfl⟩

/-- What a function value that came in answers of a byte. -/
def Says (F : Nat) (caps : Array Value) (w : World) (h : UInt8 → Bool) : Prop := (∀ args w, (callFunc F args).run Tryd.prog w = .ok (.enter F args) w) ∧ ∀ c : UInt8, Calls Tryd.prog F (#[.int .u8 c.toNat] ++ caps) w fun e w' => e = .returned (.bool (h c)) ∧ w' = w

theorem rch_at (h : UInt8 → Bool) : ∀ (l : List UInt8) (k : Nat), k ≤ l.length → (∀ j (hj : j < l.length), j < k → h l[j] = true) → (∀ hk : k < l.length, h l[k] = false) → rch h l = k := by
  intro l
  induction l with
  | nil => intro k hk _ _; simp at hk; subst hk; rfl
  | cons c r ih =>
    intro k hk h1 h2
    cases k with
    | zero => unfold rch; rw [show h c = false from h2 (by simp)]; rfl
    | succ k =>
      unfold rch
      rw [show h c = true from h1 0 (by simp) (by omega)]
      have := ih k (by simpa using hk) (fun j hj hjk => h1 (j + 1) (by simpa using hj) (by omega)) (fun hk' => h2 (by simpa using hk'))
      rw [this]
      rfl

set_option maxHeartbeats 1000000 in
set_option maxRecDepth 100000 in
theorem reach_any (F : Nat) (h : UInt8 → Bool) (s : ByteArray) (w : World) (hs : s.size ≤ 1000000) (hF : Says F #[] w h) :
    Calls Tryd.prog 42 #[.string s, .func (.func F) #[] #[]] w fun e w' => e = .returned (.int .i64 (rch h s.data.toList)) ∧ w' = w := by
  have HF : Hid (∀ c : UInt8, Calls Tryd.prog F #[.int .u8 c.toNat] w fun e w' => e = .returned (.bool (h c)) ∧ w' = w) := fun c => hF.2 c
  have hen := hF.1
  clear hF
  go_enter Tryd.func42, Tryd.ntmps42
  go_wp2
  go_loop [8] (fun i => ∃ k : Nat, k ≤ s.size ∧ i = .int .i64 k ∧ Hid (∀ j (hj : j < s.size), j < k → h s[j] = true)) (fun i => s.size - (intOf i).toNat)
  case atStart => exact ⟨0, Nat.zero_le _, rfl, by intro j hj h; omega⟩
  case round =>
    obtain ⟨k, hk, rfl, HK⟩ := hrel
    by_cases hlt : k < s.size
    · have hki : (k : Int) < (s.size : Int) := by omega
      cases hb : h s[k] with
      | true =>
        have HN : Hid (∀ j (hj : j < s.size), j < k + 1 → h s[j] = true) := fun j hj hjk => by
          by_cases e : j < k
          · exact HK.out j hj e
          · obtain rfl : j = k := by omega
            exact hb
        have HC := HF.out s[k]
        rw [hb] at HC
        have HC' : Hid (Calls Tryd.prog F #[.int .u8 s[k].toNat] w fun e w' => e = .returned (.bool true) ∧ w' = w) := HC
        clear HC hb
        go_wp2_with fail
        refine HC'.out.mono ?_
        rintro e w' ⟨rfl, rfl⟩
        go_wp2
        refine ⟨⟨k + 1, by omega, by go_num, HN⟩, by simp [intOf]; omega⟩
      | false =>
        have HN : Hid (rch h s.data.toList = k) := rch_at h s.data.toList k (by simpa using hk) (fun j hj hjk => HK.out j (by simpa using hj) hjk) (fun _ => hb)
        have HC := HF.out s[k]
        rw [hb] at HC
        have HC' : Hid (Calls Tryd.prog F #[.int .u8 s[k].toNat] w fun e w' => e = .returned (.bool false) ∧ w' = w) := HC
        clear HC hb
        go_wp2_with fail
        refine HC'.out.mono ?_
        rintro e w' ⟨rfl, rfl⟩
        go_wp2
        go_ret
        exact ⟨by rw [HN.out]; rfl, rfl⟩
    · obtain rfl : k = s.size := by omega
      have HN : Hid (rch h s.data.toList = s.size) := rch_at h s.data.toList s.size (by simp) (fun j hj hjk => HK.out j (by simpa using hj) hjk) (fun hk => by simp at hk)
      go_wp2
      go_ret
      exact ⟨by rw [HN.out]; rfl, rfl⟩

set_option maxHeartbeats 1000000 in
set_option maxRecDepth 100000 in
theorem reach_cap (F : Nat) (u : Value) (h : UInt8 → Bool) (s : ByteArray) (w : World) (hs : s.size ≤ 1000000) (hF : Says F #[u] w h) :
    Calls Tryd.prog 42 #[.string s, .func (.func F) #[] #[u]] w fun e w' => e = .returned (.int .i64 (rch h s.data.toList)) ∧ w' = w := by
  have HF : Hid (∀ c : UInt8, Calls Tryd.prog F #[.int .u8 c.toNat, u] w fun e w' => e = .returned (.bool (h c)) ∧ w' = w) := fun c => hF.2 c
  have hen := hF.1
  clear hF
  go_enter Tryd.func42, Tryd.ntmps42
  go_wp2
  go_loop [8] (fun i => ∃ k : Nat, k ≤ s.size ∧ i = .int .i64 k ∧ Hid (∀ j (hj : j < s.size), j < k → h s[j] = true)) (fun i => s.size - (intOf i).toNat)
  case atStart => exact ⟨0, Nat.zero_le _, rfl, by intro j hj h; omega⟩
  case round =>
    obtain ⟨k, hk, rfl, HK⟩ := hrel
    by_cases hlt : k < s.size
    · have hki : (k : Int) < (s.size : Int) := by omega
      cases hb : h s[k] with
      | true =>
        have HN : Hid (∀ j (hj : j < s.size), j < k + 1 → h s[j] = true) := fun j hj hjk => by
          by_cases e : j < k
          · exact HK.out j hj e
          · obtain rfl : j = k := by omega
            exact hb
        have HC := HF.out s[k]
        rw [hb] at HC
        have HC' : Hid (Calls Tryd.prog F #[.int .u8 s[k].toNat, u] w fun e w' => e = .returned (.bool true) ∧ w' = w) := HC
        clear HC hb
        go_wp2_with fail
        refine HC'.out.mono ?_
        rintro e w' ⟨rfl, rfl⟩
        go_wp2
        refine ⟨⟨k + 1, by omega, by go_num, HN⟩, by simp [intOf]; omega⟩
      | false =>
        have HN : Hid (rch h s.data.toList = k) := rch_at h s.data.toList k (by simpa using hk) (fun j hj hjk => HK.out j (by simpa using hj) hjk) (fun _ => hb)
        have HC := HF.out s[k]
        rw [hb] at HC
        have HC' : Hid (Calls Tryd.prog F #[.int .u8 s[k].toNat, u] w fun e w' => e = .returned (.bool false) ∧ w' = w) := HC
        clear HC hb
        go_wp2_with fail
        refine HC'.out.mono ?_
        rintro e w' ⟨rfl, rfl⟩
        go_wp2
        go_ret
        exact ⟨by rw [HN.out]; rfl, rfl⟩
    · obtain rfl : k = s.size := by omega
      have HN : Hid (rch h s.data.toList = s.size) := rch_at h s.data.toList s.size (by simp) (fun j hj hjk => HK.out j (by simpa using hj) hjk) (fun hk => by simp at hk)
      go_wp2
      go_ret
      exact ⟨by rw [HN.out]; rfl, rfl⟩

theorem says_digit (w : World) : Says 33 #[] w isDg := ⟨enters_of Tryd.func33 (by kernel_rfl) rfl, fun c => isDigit_any c w⟩
theorem says_nm (w : World) : Says 39 #[] w isNm := ⟨enters_of Tryd.func39 (by kernel_rfl) rfl, fun c => token1_any c w⟩
theorem says_pl (w : World) : Says 48 #[] w isPl := ⟨enters_of Tryd.func48 (by kernel_rfl) rfl, fun c => text1_any c w⟩
theorem says_nl (w : World) : Says 28 #[] w isNl := ⟨enters_of Tryd.func28 (by kernel_rfl) rfl, fun c => skip2_any c w⟩
end Go.Proofs.YtdfimmekhbkglaaDoor
