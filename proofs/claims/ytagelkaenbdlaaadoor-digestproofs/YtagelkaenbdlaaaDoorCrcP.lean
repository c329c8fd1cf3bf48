/- CRC-32 of a list of bytes, as plain numbers, with its laws: no program is named here. -/
import Derived.WalkKit
import Derived.Laws.BitsLemmas
namespace Go.Proofs.YtagelkaenbdlaaaDoor
open Go.RowKit

def sh1 (x : Nat) : Nat := if x % 2 = 1 then (x / 2) ^^^ 3988292384 else x / 2
/-- So many shifts. -/
def shN : Nat → Nat → Nat
  | 0, x => x
  | n + 1, x => sh1 (shN n x)
def crcB (x : Nat) (b : UInt8) : Nat := shN 8 (x ^^^ b.toNat)
/-- The number behind these bytes. -/
def crcS (x : Nat) (l : List UInt8) : Nat := l.foldl crcB x
def crc (l : List UInt8) : Nat := 4294967295 - crcS 4294967295 l

theorem sh1_lt (x : Nat) (h : x < 2 ^ 32) : sh1 x < 2 ^ 32 := by
  unfold sh1
  split
  · exact Nat.xor_lt_two_pow (by omega) (by decide)
  · omega
theorem shN_lt (n x : Nat) (h : x < 2 ^ 32) : shN n x < 2 ^ 32 := by
  induction n with
  | zero => exact h
  | succ n ih => exact sh1_lt _ ih
theorem byte_lt (b : UInt8) : b.toNat < 2 ^ 32 := Nat.lt_trans b.toNat_lt (by decide)
theorem crcB_lt (x : Nat) (b : UInt8) (h : x < 2 ^ 32) : crcB x b < 2 ^ 32 := shN_lt _ _ (Nat.xor_lt_two_pow h (byte_lt b))
theorem crcS_lt (l : List UInt8) : ∀ x : Nat, x < 2 ^ 32 → crcS x l < 2 ^ 32 := by
  induction l with
  | nil => exact fun x h => h
  | cons b l ih => exact fun x h => ih _ (crcB_lt x b h)
theorem xor_half (x y : Nat) : (x ^^^ y) / 2 = (x / 2) ^^^ (y / 2) := by
  have := Nat.shiftRight_xor_distrib (a := x) (b := y) (i := 1)
  simpa [Nat.shiftRight_succ] using this
theorem xor_low (x y : Nat) : (x ^^^ y) % 2 = (x % 2 + y % 2) % 2 := by
  have h := Nat.xor_mod_two_pow (a := x) (b := y) (n := 1)
  simp only [Nat.pow_one] at h
  rw [h]
  rcases Nat.mod_two_eq_zero_or_one x with hx | hx <;> rcases Nat.mod_two_eq_zero_or_one y with hy | hy <;> rw [hx, hy] <;> rfl
theorem sh1_eq (x : Nat) : sh1 x = (x / 2) ^^^ (x % 2 * 3988292384) := by
  unfold sh1
  rcases Nat.mod_two_eq_zero_or_one x with hx | hx <;> simp [hx]
theorem sh1_xor (x y : Nat) : sh1 (x ^^^ y) = sh1 x ^^^ sh1 y := by
  have e : (x % 2 + y % 2) % 2 * 3988292384 = (x % 2 * 3988292384) ^^^ (y % 2 * 3988292384) := by
    rcases Nat.mod_two_eq_zero_or_one x with hx | hx <;> rcases Nat.mod_two_eq_zero_or_one y with hy | hy <;> simp [hx, hy]
  rw [sh1_eq, sh1_eq, sh1_eq, xor_half, xor_low, e]
  ac_rfl
theorem shN_xor (n x y : Nat) : shN n (x ^^^ y) = shN n x ^^^ shN n y := by
  induction n with
  | zero => rfl
  | succ n ih => simp only [shN]; rw [ih, sh1_xor]
theorem shN_high (n h m : Nat) : shN n (2 ^ (n + m) * h) = 2 ^ m * h := by
  induction n generalizing m with
  | zero => simp [shN]
  | succ n ih =>
    have := ih (m + 1)
    rw [show n + 1 + m = n + (m + 1) from by omega]
    simp only [shN, this]
    unfold sh1
    rw [if_neg (by rw [Nat.pow_succ, Nat.mul_right_comm, Nat.mul_mod_left]; decide), Nat.pow_succ, Nat.mul_right_comm, Nat.mul_div_cancel _ (by decide)]
/-- Of eight shifts the lowest byte alone decides what is xor-ed in. -/
theorem crcB_table (x : Nat) (b : UInt8) : crcB x b = (x / 256) ^^^ shN 8 ((x % 256) ^^^ b.toNat) := by
  have e : x = (2 ^ 8 * (x / 256)) ^^^ (x % 256) := by
    have h := Nat.two_pow_add_eq_or_of_lt (i := 8) (b := x % 256) (by omega) (x / 256)
    have h2 : (2 ^ 8 * (x / 256)) ^^^ (x % 256) = (2 ^ 8 * (x / 256)) ||| (x % 256) := by
      apply Nat.eq_of_testBit_eq
      intro i
      rw [Nat.testBit_xor, Nat.testBit_or]
      by_cases hi : i < 8
      · rw [Nat.testBit_two_pow_mul]; simp [Nat.not_le.2 hi]
      · rw [Nat.testBit_lt_two_pow (x := x % 256) (i := i) (Nat.lt_of_lt_of_le (show x % 256 < 2 ^ 8 from Nat.mod_lt _ (by decide)) (Nat.pow_le_pow_right (n := 2) (by decide) (show 8 ≤ i by omega)))]; simp
    rw [h2, ← h]
    omega
  have h8 := shN_high 8 (x / 256) 0
  simp only [Nat.add_zero, Nat.pow_zero, Nat.one_mul] at h8
  unfold crcB
  conv => lhs; rw [e]
  rw [Nat.xor_assoc, shN_xor, h8]

theorem top_bit (x : Nat) (h : x < 2 ^ 32) : (sh1 x).testBit 31 = decide (x % 2 = 1) := by
  have h2 : (x / 2).testBit 31 = false := Nat.testBit_lt_two_pow (by omega)
  unfold sh1
  split
  · rename_i h1
    rw [Nat.testBit_xor, h2, h1]
    decide
  · rename_i h1
    rw [h2]
    simp [h1]
theorem xor_cancel (a b c : Nat) (h : a ^^^ c = b ^^^ c) : a = b := by
  have := congrArg (· ^^^ c) h
  simpa [Nat.xor_assoc] using this
theorem sh1_inj (x y : Nat) (hx : x < 2 ^ 32) (hy : y < 2 ^ 32) (h : sh1 x = sh1 y) : x = y := by
  have ht := top_bit x hx
  rw [h, top_bit y hy] at ht
  have hb : x % 2 = y % 2 := by
    rcases Nat.mod_two_eq_zero_or_one x with h1 | h1 <;> rcases Nat.mod_two_eq_zero_or_one y with h2 | h2 <;> rw [h1, h2] at ht <;> first | omega | (simp at ht)
  rw [sh1_eq, sh1_eq, hb] at h
  have := xor_cancel _ _ _ h
  omega
theorem shN_inj (n : Nat) : ∀ x y : Nat, x < 2 ^ 32 → y < 2 ^ 32 → shN n x = shN n y → x = y := by
  induction n with
  | zero => exact fun x y _ _ h => h
  | succ n ih => exact fun x y hx hy h => ih x y hx hy (sh1_inj _ _ (shN_lt n x hx) (shN_lt n y hy) h)
theorem crcB_inj (x y : Nat) (b : UInt8) (hx : x < 2 ^ 32) (hy : y < 2 ^ 32) (h : crcB x b = crcB y b) : x = y :=
  xor_cancel _ _ _ (shN_inj 8 _ _ (Nat.xor_lt_two_pow hx (byte_lt b)) (Nat.xor_lt_two_pow hy (byte_lt b)) h)
theorem crcS_inj (l : List UInt8) : ∀ x y : Nat, x < 2 ^ 32 → y < 2 ^ 32 → crcS x l = crcS y l → x = y := by
  induction l with
  | nil => exact fun x y _ _ h => h
  | cons b l ih => exact fun x y hx hy h => crcB_inj x y b hx hy (ih _ _ (crcB_lt x b hx) (crcB_lt y b hy) h)
theorem crcB_byte (x : Nat) (b c : UInt8) (hx : x < 2 ^ 32) (h : crcB x b = crcB x c) : b = c := by
  have := shN_inj 8 _ _ (Nat.xor_lt_two_pow hx (byte_lt b)) (Nat.xor_lt_two_pow hx (byte_lt c)) h
  rw [Nat.xor_comm x, Nat.xor_comm x] at this
  exact UInt8.toNat.inj (xor_cancel _ _ _ this)
theorem crcS_append (x : Nat) (l m : List UInt8) : crcS x (l ++ m) = crcS (crcS x l) m := List.foldl_append ..
/-- A text in which one byte is another one has another check. -/
theorem crc_change (l m : List UInt8) (b c : UInt8) (hbc : b ≠ c) : crc (l ++ b :: m) ≠ crc (l ++ c :: m) := by
  intro h
  have h0 : (4294967295 : Nat) < 2 ^ 32 := by decide
  have h1 := crcS_lt (l ++ b :: m) 4294967295 h0
  have h2 := crcS_lt (l ++ c :: m) 4294967295 h0
  have he : crcS 4294967295 (l ++ b :: m) = crcS 4294967295 (l ++ c :: m) := by unfold crc at h; omega
  rw [crcS_append, crcS_append] at he
  have hl := crcS_lt l 4294967295 h0
  exact hbc (crcB_byte _ b c hl (crcS_inj m _ _ (crcB_lt _ b hl) (crcB_lt _ c hl) he))
theorem crc_lt (l : List UInt8) : crc l < 2 ^ 32 := by unfold crc; omega
theorem crcS_snoc (x : Nat) (l : List UInt8) (b : UInt8) : crcS x (l ++ [b]) = crcB (crcS x l) b := by rw [crcS_append]; rfl

theorem wraps_u32 (n : Int) (h₀ : 0 ≤ n) (h₁ : n < 2 ^ 32) : IntKind.u32.wrap n = n := by rw [IntKind.wrap_u32]; omega
theorem xor_u32 (a b : Nat) (ha : a < 2 ^ 32) (hb : b < 2 ^ 32) : bits .xor .u32 (a : Int) (b : Int) = ((a ^^^ b : Nat) : Int) := by
  have ha' : a % 2 ^ 32 = a := Nat.mod_eq_of_lt ha
  have hb' : b % 2 ^ 32 = b := Nat.mod_eq_of_lt hb
  show IntKind.u32.wrap (((BitVec.ofInt 32 (a : Int)) ^^^ (BitVec.ofInt 32 (b : Int))).toNat : Int) = _
  rw [BitVec.ofInt_natCast, BitVec.ofInt_natCast, BitVec.toNat_xor, BitVec.toNat_ofNat, BitVec.toNat_ofNat, ha', hb']
  exact wraps_u32 _ (Int.natCast_nonneg _) (by exact_mod_cast Nat.xor_lt_two_pow ha hb)
theorem xor_u8 (a b : Nat) (ha : a < 2 ^ 8) (hb : b < 2 ^ 8) : bits .xor .u8 (a : Int) (b : Int) = ((a ^^^ b : Nat) : Int) := by
  have ha' : a % 2 ^ 8 = a := Nat.mod_eq_of_lt ha
  have hb' : b % 2 ^ 8 = b := Nat.mod_eq_of_lt hb
  show IntKind.u8.wrap (((BitVec.ofInt 8 (a : Int)) ^^^ (BitVec.ofInt 8 (b : Int))).toNat : Int) = _
  rw [BitVec.ofInt_natCast, BitVec.ofInt_natCast, BitVec.toNat_xor, BitVec.toNat_ofNat, BitVec.toNat_ofNat, ha', hb']
  exact wraps_u8 _ (Int.natCast_nonneg _) (by exact_mod_cast Nat.xor_lt_two_pow ha hb)
theorem and1_u32 (a : Nat) (ha : a < 2 ^ 32) : bits .and .u32 (a : Int) 1 = ((a % 2 : Nat) : Int) := by
  have := (bits_nat .u32 32 (by decide) wraps_u32 a 1 ha (by decide)).1
  rw [Nat.and_one_is_mod] at this
  exact this
theorem not_u32 (a : Nat) (ha : a < 2 ^ 32) : bits .xor .u32 4294967295 (a : Int) = ((4294967295 - a : Nat) : Int) := by
  have := xor_u32 4294967295 a (by decide) ha
  rw [show ((4294967295 : Nat) : Int) = 4294967295 from rfl] at this
  rw [this]
  congr 1
  have h := BitVec.toNat_not (x := BitVec.ofNat 32 a)
  have h2 : (~~~ (BitVec.ofNat 32 a)) = BitVec.allOnes 32 ^^^ BitVec.ofNat 32 a := BitVec.not_def
  rw [h2, BitVec.toNat_xor, BitVec.toNat_ofNat, Nat.mod_eq_of_lt ha] at h
  simpa using h
end Go.Proofs.YtagelkaenbdlaaaDoor
