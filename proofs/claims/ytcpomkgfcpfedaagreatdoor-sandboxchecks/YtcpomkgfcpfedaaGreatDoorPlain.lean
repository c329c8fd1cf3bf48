/- Plain functions on lists of bytes: how a number is packed and read, with their laws: no program is named here. -/
import Derived.WalkKit
import Derived.Lib.Strings
import Derived.Lib.Builder
import Derived.Lib.UnsafeStr
import Derived.Laws.BitsLemmas
namespace Go.Proofs.YtcpomkgfcpfedaaGreatDoor
open Go.RowKit

def pkF : Nat → Nat → List UInt8
  | 0, n => [UInt8.ofNat n]
  | f + 1, n => if n < 128 then [UInt8.ofNat n] else UInt8.ofNat (n % 128 + 128) :: pkF f (n / 128)
def pk (n : Nat) : List UInt8 := pkF n n

theorem pkF_eq : ∀ f g m : Nat, m ≤ f → m ≤ g → pkF f m = pkF g m := by
  intro f
  induction f with
  | zero =>
    intro g m h1 _
    obtain rfl : m = 0 := by omega
    cases g <;> simp [pkF]
  | succ f ih =>
    intro g m h1 h2
    cases g with
    | zero =>
      obtain rfl : m = 0 := by omega
      simp [pkF]
    | succ g =>
      by_cases h : m < 128
      · simp [pkF, h]
      · simp only [pkF, if_neg h]
        rw [ih g (m / 128) (by omega) (by omega)]
theorem pk_small (m : Nat) (h : m < 128) : pk m = [UInt8.ofNat m] := by
  unfold pk
  cases m with
  | zero => rfl
  | succ k => simp only [pkF, if_pos h]
theorem pk_more (m : Nat) (h : 128 ≤ m) : pk m = UInt8.ofNat (m % 128 + 128) :: pk (m / 128) := by
  unfold pk
  obtain ⟨k, rfl⟩ : ∃ k, m = k + 1 := ⟨m - 1, by omega⟩
  rw [show pkF (k + 1) (k + 1) = UInt8.ofNat ((k + 1) % 128 + 128) :: pkF k ((k + 1) / 128) from by simp only [pkF, if_neg (show ¬ k + 1 < 128 by omega)]]
  rw [pkF_eq k ((k + 1) / 128) _ (by omega) (by omega)]
theorem pk_pos (m : Nat) : 0 < (pk m).length := by
  by_cases h : m < 128
  · rw [pk_small m h]; simp
  · rw [pk_more m (by omega)]; simp

theorem pk_len : ∀ k n : Nat, n < 128 ^ (k + 1) → (pk n).length ≤ k + 1 := by
  intro k
  induction k with
  | zero => intro n h; rw [pk_small n (by simpa using h)]; simp
  | succ k ih =>
    intro n h
    by_cases hs : n < 128
    · rw [pk_small n hs]; simp
    · rw [pk_more n (by omega)]
      have := ih (n / 128) (by rw [Nat.div_lt_iff_lt_mul (by decide)]; rw [Nat.pow_succ] at h; exact h)
      simp; omega
theorem pk_len8 (n : Nat) (h : n ≤ 9007199254740991) : (pk n).length ≤ 8 := pk_len 7 n (by omega)

/-- The number that bytes with seven bits each say, the lowest first. -/
def val : List UInt8 → Nat
  | [] => 0
  | c :: r => c.toNat % 128 + 128 * val r
theorem val_snoc (l : List UInt8) (c : UInt8) : val (l ++ [c]) = val l + 128 ^ l.length * (c.toNat % 128) := by
  induction l with
  | nil => simp [val]
  | cons d r ih => simp only [List.cons_append, val, ih, List.length_cons, Nat.pow_succ, Nat.mul_add]; rw [Nat.mul_comm (128 ^ r.length) 128, Nat.mul_assoc]; omega
theorem val_lt (l : List UInt8) : val l < 128 ^ l.length := by
  induction l with
  | nil => simp [val]
  | cons d r ih =>
    simp only [val, List.length_cons, Nat.pow_succ]
    have : d.toNat % 128 < 128 := Nat.mod_lt _ (by decide)
    omega
theorem take_snoc (s : ByteArray) (k : Nat) (h : k < s.size) : s.data.toList.take (k + 1) = s.data.toList.take k ++ [s[k]] := by
  rw [List.take_succ_eq_append_getElem (by simpa using h)]; rfl
theorem wraps_i64 (n : Int) (h0 : 0 ≤ n) (h1 : n < 2 ^ 63) : IntKind.i64.wrap n = n := by rw [IntKind.wrap_i64]; omega
theorem or_step (m N c : Nat) (hm : m < 8) (hN : N < 128 ^ m) : bits .or .i64 (N : Int) (wrap64 ((c : Int) % 128 * 2 ^ (7 * m))) = ((N + 128 ^ m * (c % 128) : Nat) : Int) := by
  have hp : 128 ^ m = 2 ^ (7 * m) := by rw [Nat.pow_mul]
  have h7 : 2 ^ (7 * m) ≤ 2 ^ 49 := Nat.pow_le_pow_right (by decide) (by omega)
  have hc : c % 128 < 128 := Nat.mod_lt _ (by decide)
  rw [hp] at hN ⊢
  have hy : c % 128 * 2 ^ (7 * m) ≤ 127 * 2 ^ 49 := Nat.mul_le_mul (by omega) h7
  have e1 : (c : Int) % 128 * 2 ^ (7 * m) = ((c % 128 * 2 ^ (7 * m) : Nat) : Int) := by push_cast; rfl
  have e2 : wrap64 ((c : Int) % 128 * 2 ^ (7 * m)) = ((2 ^ (7 * m) * (c % 128) : Nat) : Int) := by
    rw [e1, Nat.mul_comm (2 ^ (7 * m))]
    generalize c % 128 * 2 ^ (7 * m) = y at hy ⊢
    unfold wrap64
    omega
  rw [e2]
  have hy2 : 2 ^ (7 * m) * (c % 128) < 2 ^ 63 := by rw [Nat.mul_comm]; omega
  rw [(bits_nat .i64 63 (by decide) wraps_i64 N _ (by omega) hy2).2, Nat.or_comm, ← Nat.two_pow_add_eq_or_of_lt hN, Nat.add_comm]

theorem pk_form : ∀ f n : Nat, n ≤ f → ∃ d c, pk n = d ++ [c] ∧ (∀ x ∈ d, 128 ≤ x.toNat) ∧ c.toNat < 128 ∧ (d = [] ∨ c.toNat ≠ 0) ∧ (128 ≤ n → d ≠ []) ∧ (0 < n → c.toNat ≠ 0) := by
  intro f
  induction f with
  | zero =>
    intro n h
    obtain rfl : n = 0 := by omega
    exact ⟨[], 0, rfl, by simp, by decide, Or.inl rfl, by omega, by omega⟩
  | succ f ih =>
    intro n h
    by_cases hs : n < 128
    · refine ⟨[], UInt8.ofNat n, by rw [pk_small n hs]; rfl, by simp, ?_, Or.inl rfl, by omega, ?_⟩
      · simp [UInt8.toNat_ofNat']; omega
      · simp [UInt8.toNat_ofNat']; omega
    · obtain ⟨d, c, e, hd, hc, _, _, h0⟩ := ih (n / 128) (by omega)
      have hc0 := h0 (by omega)
      refine ⟨UInt8.ofNat (n % 128 + 128) :: d, c, by rw [pk_more n (by omega), e]; rfl, ?_, hc, Or.inr hc0, by simp, fun _ => hc0⟩
      intro x hx
      rcases List.mem_cons.1 hx with rfl | hx
      · simp [UInt8.toNat_ofNat']; omega
      · exact hd x hx
theorem val_pk : ∀ f n : Nat, n ≤ f → val (pk n) = n := by
  intro f
  induction f with
  | zero =>
    intro n h
    obtain rfl : n = 0 := by omega
    rfl
  | succ f ih =>
    intro n h
    by_cases hs : n < 128
    · rw [pk_small n hs]; simp [val, UInt8.toNat_ofNat']; omega
    · rw [pk_more n (by omega)]
      simp only [val, ih (n / 128) (by omega), UInt8.toNat_ofNat']
      omega
theorem bytes_eq {s : ByteArray} {l : List UInt8} (h : s.data.toList = l) : s = ⟨l.toArray⟩ := by
  subst h
  cases s
  simp
theorem size_of {s : ByteArray} {l : List UInt8} (h : s.data.toList = l) : s.size = l.length := by rw [← h]; exact Array.length_toList.symm
theorem extract_end (s : ByteArray) (a r : List UInt8) (h : s.data.toList = a ++ r) : s.extract a.length s.size = ⟨r.toArray⟩ := by
  apply bytes_eq
  rw [Lib.extract_data]
  have : s.size = (a ++ r).length := size_of h
  rw [h, this]
  simp
theorem extract_mid (s : ByteArray) (a r : List UInt8) (h : s.data.toList = a ++ r) : s.extract 0 a.length = ⟨a.toArray⟩ := by
  apply bytes_eq
  rw [Lib.extract_data, h]
  simp

theorem byteCells_snoc (l : List UInt8) (n : Nat) (h : n < 256) : Lib.byteCells (l ++ [UInt8.ofNat n]) = Lib.byteCells l ++ [Value.int .u8 (n : Int)] := by
  have : (UInt8.ofNat n).toNat = n := by simp [UInt8.toNat_ofNat']; omega
  simp [Lib.byteCells, this]
end Go.Proofs.YtcpomkgfcpfedaaGreatDoor
