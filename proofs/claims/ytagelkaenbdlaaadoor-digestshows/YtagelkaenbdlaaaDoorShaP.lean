/- The digest's sum as plain numbers: block by block of the text with its ending behind it. -/
import Derived.Test.YtagelkaenbdlaaaDoorShaN
import Derived.Test.YtagelkaenbdlaaaDoorLaid
import Derived.Lib.Strings
namespace Go.Proofs.YtagelkaenbdlaaaDoor
open Go.RowKit

/-- A block of a list of bytes. -/
def blk (P : List UInt8) (n : Nat) : ByteArray := ⟨((P.drop (64 * n)).take 64).toArray⟩
/-- The state behind so many blocks, from one of them on. -/
def stF (P : List UInt8) (ks : List Nat) (off : Nat) (q : N8) : Nat → N8
  | 0 => q
  | n + 1 => mixN (stF P ks off q n) (blk P (off + n)) ks
theorem stF_ok (P : List UInt8) (ks : List Nat) (off : Nat) (q : N8) (hq : q.ok) (n : Nat) : (stF P ks off q n).ok := by
  induction n with
  | zero => exact hq
  | succ n ih => exact (mix_nat _ _ ks ih).2
theorem stF_add (P : List UInt8) (ks : List Nat) (q : N8) (m n : Nat) : stF P ks m (stF P ks 0 q m) n = stF P ks 0 q (m + n) := by
  induction n with
  | zero => rfl
  | succ n ih =>
    show mixN (stF P ks m (stF P ks 0 q m) n) (blk P (m + n)) ks = mixN (stF P ks 0 q (m + n)) (blk P (0 + (m + n))) ks
    rw [ih, Nat.zero_add]
theorem blocks_nat (s : ByteArray) (P : List UInt8) (ks : List Nat) (off : Nat) (q : N8) (hq : q.ok) (n : Nat) (h : ∀ j, j < n → s.extract (64 * j) (64 * j + 64) = blk P (off + j)) : blocks s (toI ks) q.i n = (stF P ks off q n).i := by
  induction n with
  | zero => rfl
  | succ n ih =>
    show mixS (blocks s (toI ks) q.i n) (s.extract (64 * n) (64 * n + 64)) (toI ks) = _
    rw [ih fun j hj => h j (by omega), h n (by omega), (mix_nat _ _ ks (stF_ok P ks off q hq n)).1]
    rfl
theorem ex_data (s : ByteArray) (a b : Nat) : (s.extract a b).data.toList = (s.data.toList.take b).drop a := by rw [Lib.extract_data, List.drop_take]
theorem blk_ext {s : ByteArray} {P : List UInt8} {n a : Nat} (h : (s.data.toList.take (a + 64)).drop a = (P.drop (64 * n)).take 64) : s.extract a (a + 64) = blk P n := by
  have h1 := ex_data s a (a + 64)
  rw [h] at h1
  have hb : ∀ x : ByteArray, x = ⟨x.data.toList.toArray⟩ := fun x => by cases x; simp
  refine (hb _).trans ?_
  rw [h1]
  rfl
/-- A text with its ending behind it. -/
def padL (s : ByteArray) : List UInt8 := s.data.toList ++ endB s.size
theorem s_len (s : ByteArray) : s.data.toList.length = s.size := Array.length_toList
theorem tail_data (s : ByteArray) : (tailOf s).data.toList = (padL s).drop (64 * (s.size / 64)) := by
  have h := s_len s
  unfold tailOf padL
  rw [List.drop_append_of_le_length (by omega)]
  have e1 : (s.extract (s.size - s.size % 64) s.size ++ (⟨(endB s.size).toArray⟩ : ByteArray)).data.toList = (s.extract (s.size - s.size % 64) s.size).data.toList ++ endB s.size := by simp
  rw [e1, ex_data, List.take_of_length_le (by omega), show s.size - s.size % 64 = 64 * (s.size / 64) from by omega]
theorem pad_len (s : ByteArray) : (padL s).length = 64 * (s.size / 64) + (tailOf s).size ∧ (tailOf s).size % 64 = 0 := by
  have h := s_len s
  have h1 := tail_size s
  have h2 := endB_len s.size
  refine ⟨?_, ?_⟩
  · unfold padL
    rw [List.length_append, h, h2]
    omega
  · rw [h1]
    unfold endQ
    omega
theorem sumS_nat (s : ByteArray) (ks : List Nat) (q : N8) (hq : q.ok) : sumS s q.i (toI ks) = (stF (padL s) ks 0 q ((padL s).length / 64)).i := by
  have h := s_len s
  obtain ⟨hp, hp2⟩ := pad_len s
  have e1 : blocks s (toI ks) q.i (s.size / 64) = (stF (padL s) ks 0 q (s.size / 64)).i := by
    refine blocks_nat s (padL s) ks 0 q hq _ fun j hj => ?_
    rw [Nat.zero_add]
    refine blk_ext ?_
    unfold padL
    rw [List.drop_append_of_le_length (by omega), List.take_append_of_le_length (by rw [List.length_drop]; omega), List.drop_take]
    congr 1
    omega
  have e2 : blocks (tailOf s) (toI ks) (stF (padL s) ks 0 q (s.size / 64)).i ((tailOf s).size / 64) = (stF (padL s) ks (s.size / 64) (stF (padL s) ks 0 q (s.size / 64)) ((tailOf s).size / 64)).i := by
    refine blocks_nat (tailOf s) (padL s) ks (s.size / 64) _ (stF_ok _ _ _ _ hq _) _ fun j hj => ?_
    refine blk_ext ?_
    rw [tail_data, List.drop_take, List.drop_drop, show 64 * (s.size / 64) + 64 * j = 64 * (s.size / 64 + j) from by omega]
    congr 1
    omega
  unfold sumS
  rw [e1, e2, stF_add]
  congr 2
  omega

/-- Digit j of a number, the greatest first, as plain numbers. -/
def digN (x j : Nat) : UInt8 := UInt8.ofNat (hexC (x / 2 ^ (28 - 4 * j) % 16))
theorem dgt_nat (x j : Nat) (hx : x < 2 ^ 32) : dgt (x : Int) j = digN x j := by
  have h1 : x / 2 ^ (28 - 4 * j) < 2 ^ 32 := Nat.lt_of_le_of_lt (Nat.div_le_self _ _) hx
  have h2 : nib (x : Int) (28 - 4 * j) = ((x / 2 ^ (28 - 4 * j) % 16 : Nat) : Int) := by
    unfold nib
    rw [show (x : Int) / 2 ^ (28 - 4 * j) = ((x / 2 ^ (28 - 4 * j) : Nat) : Int) from by push_cast; rfl]
    have := and_u32 (x / 2 ^ (28 - 4 * j)) 15 h1 (by decide)
    rw [show ((15 : Nat) : Int) = 15 from rfl] at this
    rw [this, show x / 2 ^ (28 - 4 * j) &&& 15 = x / 2 ^ (28 - 4 * j) % 16 from Nat.and_two_pow_sub_one_eq_mod _ 4]
  unfold dgt digN
  rw [h2, Int.toNat_natCast]
/-- The digits of a state, as plain numbers. -/
def digsN (q : N8) : List UInt8 := [q.a, q.b, q.c, q.d, q.e, q.f, q.g, q.h].flatMap fun x => (List.range 8).map (digN x)
theorem dgs_nat (q : N8) (h : q.ok) : dgs q.i.l = digsN q := by
  obtain ⟨ha, hb, hc, hd, he, hf, hg, hh⟩ := h
  have e : ∀ x : Nat, x < 2 ^ 32 → dg (x : Int) 8 = (List.range 8).map (digN x) := fun x hx => List.map_congr_left fun j _ => dgt_nat x j hx
  unfold dgs digsN N8.i S8.l
  simp only [List.flatMap_cons, List.flatMap_nil]
  rw [e _ ha, e _ hb, e _ hc, e _ hd, e _ he, e _ hf, e _ hg, e _ hh]
/-- What the digest sums to: the digits of the state behind all blocks of the text with its ending behind it. -/
theorem sumB_nat (s : ByteArray) (ks : List Nat) (q : N8) (hq : q.ok) : sumB s q.i (toI ks) = ⟨(digsN (stF (padL s) ks 0 q ((padL s).length / 64))).toArray⟩ := by
  unfold sumB
  rw [sumS_nat s ks q hq, dgs_nat _ (stF_ok _ _ _ _ hq _)]
end Go.Proofs.YtagelkaenbdlaaaDoor
