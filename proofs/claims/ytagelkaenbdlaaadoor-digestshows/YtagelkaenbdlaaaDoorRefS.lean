/- The document's own Wrap, And and Right, of numbers of 32 bits. -/
import Derived.Test.YtagelkaenbdlaaaDoorRefX
namespace Go.Proofs.YtagelkaenbdlaaaDoor
open Go.RowKit

set_option maxHeartbeats 1000000 in
set_option maxRecDepth 100000 in
theorem Wrap_any (n : Nat) (w : World) :
    Calls Tryd.prog 38 #[.int .i64 n] w fun e w' => e = .returned (.int .i64 ((n % 4294967296 : Nat) : Int)) ∧ w' = w := by
  obtain ⟨r, hr⟩ : ∃ r, n % 4294967296 = r := ⟨_, rfl⟩
  rw [hr]
  have h1 : (n : Int) % 4294967296 = (r : Int) := by omega
  clear hr
  go_enter Tryd.func38, Tryd.ntmps38
  go_wp2
  go_ret
  exact ⟨by simp; exact h1, rfl⟩

set_option maxHeartbeats 1000000 in
theorem And_any (a b : Nat) (w : World) (ha : a < 2 ^ 32) (hb : b < 2 ^ 32) :
    Calls Tryd.prog 39 #[.int .i64 a, .int .i64 b] w fun e w' => e = .returned (.int .i64 ((a &&& b : Nat) : Int)) ∧ w' = w := by
  have HB : Hid (Calls Tryd.prog 60 #[.int .i64 a, .int .i64 b, .func (.func 62) #[] #[]] w fun e w' => e = .returned (.int .i64 ((a &&& b : Nat) : Int)) ∧ w' = w) := bits_and a b w ha hb
  generalize a &&& b = r at HB
  clear ha hb
  go_enter Tryd.func39, Tryd.ntmps39
  go_wp2_with fail
  refine HB.out.mono ?_
  rintro e w' ⟨rfl, rfl⟩
  go_wp2
  go_ret
  exact ⟨rfl, rfl⟩

/-- A number of 32 bits, turned right. -/
def rightN (x n : Nat) : Nat := x / 2 ^ n + x % 2 ^ n * 2 ^ (32 - n)
theorem wr62 (n : Nat) (h : n < 4294967296) : IntKind.i64.wrap (n : Int) = (n : Int) := by rw [IntKind.wrap_i64]; omega
theorem wr63 (n : Nat) (h : n < 4294967296) : wrap64 (n : Int) = (n : Int) := by unfold wrap64; omega
theorem tdivN (a b : Nat) : (a : Int).tdiv (b : Int) = ((a / b : Nat) : Int) := rfl
theorem tmodN (a b : Nat) : (a : Int).tmod (b : Int) = ((a % b : Nat) : Int) := rfl
theorem right_lt (x n : Nat) (hx : x < 2 ^ 32) (h2 : n ≤ 31) : x % 2 ^ n * 2 ^ (32 - n) < 2 ^ 32 ∧ rightN x n < 2 ^ 32 := by
  have h1 : x % 2 ^ n < 2 ^ n := Nat.mod_lt _ (Nat.two_pow_pos n)
  have h3 : 2 ^ n * 2 ^ (32 - n) = 2 ^ 32 := by rw [← Nat.pow_add]; congr 1; omega
  have h4 : x % 2 ^ n * 2 ^ (32 - n) ≤ (2 ^ n - 1) * 2 ^ (32 - n) := Nat.mul_le_mul_right _ (by omega)
  have h5 : (2 ^ n - 1) * 2 ^ (32 - n) = 2 ^ 32 - 2 ^ (32 - n) := by rw [Nat.sub_mul, h3, Nat.one_mul]
  have h6 : x / 2 ^ n < 2 ^ (32 - n) := by rw [Nat.div_lt_iff_lt_mul (Nat.two_pow_pos n), Nat.mul_comm, h3]; exact hx
  have h7 := Nat.two_pow_pos (32 - n)
  have h8 : 2 ^ (32 - n) ≤ 2 ^ 32 := Nat.pow_le_pow_right (by decide) (by omega)
  unfold rightN
  omega

set_option maxHeartbeats 4000000 in
set_option maxRecDepth 100000 in
theorem Right_any (x n : Nat) (w : World) (hx : x < 2 ^ 32) (h1 : 1 ≤ n) (h2 : n ≤ 31) :
    Calls Tryd.prog 37 #[.int .i64 x, .int .i64 n] w fun e w' => e = .returned (.int .i64 (rightN x n : Nat)) ∧ ∃ m, w' = w.drewN m := by
  obtain ⟨hl1, hl2⟩ := right_lt x n hx h2
  have HR : Hid (rightN x n = x / 2 ^ n + x % 2 ^ n * 2 ^ (32 - n)) := rfl
  have HP1 : Hid (∀ w, Calls Tryd.prog 33 #[.int .i64 n] w fun e w' => e = .returned (.int .i64 ((2 ^ n : Nat) : Int)) ∧ w' = w) := fun w => Pow2_any n w (by omega)
  have HP2 : Hid (∀ w, Calls Tryd.prog 33 #[.int .i64 ((32 - n : Nat) : Int)] w fun e w' => e = .returned (.int .i64 ((2 ^ (32 - n) : Nat) : Int)) ∧ w' = w) := fun w => Pow2_any (32 - n) w (by omega)
  have hm : (32 : Int) - (n : Int) = ((32 - n : Nat) : Int) := by omega
  have hpb : 2 ^ n ≤ 4294967296 := Nat.pow_le_pow_right (n := 2) (by decide) (show n ≤ 32 by omega)
  have hpp := Nat.two_pow_pos n
  generalize rightN x n = r at hl2 HR
  generalize 2 ^ n = p at hl1 HR HP1 hpb hpp
  generalize 2 ^ (32 - n) = q at hl1 HR HP2
  generalize 32 - n = m at hm HP2
  obtain ⟨d, hd⟩ : ∃ d, x / p = d := ⟨_, rfl⟩
  obtain ⟨e0, he⟩ : ∃ e0, x % p = e0 := ⟨_, rfl⟩
  obtain ⟨z, hz⟩ : ∃ z, e0 * q = z := ⟨_, rfl⟩
  rw [he] at hl1
  have hdi : (x : Int) / (p : Int) = (d : Int) := by rw [← hd]; push_cast; rfl
  have hei : (x : Int) % (p : Int) = (e0 : Int) := by rw [← he]; push_cast; rfl
  have hzi : (e0 : Int) * (q : Int) = (z : Int) := by rw [← hz]; push_cast; rfl
  have HR2 : Hid (r = d + z) := by show _ = _; rw [HR.out, hd, he, hz]
  have hp0 : ((p : Int) == 0) = false := beq_eq_false_iff_ne.2 (by omega)
  have hpn : ¬ (p : Int) = 0 := by omega
  have hpm : ¬ p = 0 := by omega
  have hdl : d < 4294967296 := Nat.lt_of_le_of_lt (by rw [← hd]; exact Nat.div_le_self _ _) hx
  have hdz : (d : Int) + (z : Int) = (r : Int) := by have := HR2.out; omega
  have hzl : z < 4294967296 := by rw [← hz]; exact hl1
  have hmi : (m : Int) ≤ 31 := by omega
  have hn0 : (0 : Int) ≤ (n : Int) := by omega
  have f1 := wr62 d hdl
  have f2 := wr62 z hzl
  have f3 := wr62 r hl2
  have f4 := wr62 m (by omega)
  have f5 : (x : Int).tdiv (p : Int) = (d : Int) := by rw [← hd]; exact tdivN x p
  have f6 : (x : Int).tmod (p : Int) = (e0 : Int) := by rw [← he]; exact tmodN x p
  clear hd he hz hl1 hpb hpp hx h1 h2 HR hl2 hdl hzl
  go_enter Tryd.func37, Tryd.ntmps37
  go_wp2
  go_region_with (first | (go_at_call_of 33 (Value.int IntKind.i64 (n : Int)); refine (HP1.out _).mono ?_; rintro e w' ⟨rfl, rfl⟩) | (go_at_call_of 33 (Value.int IntKind.i64 (m : Int)); refine (HP2.out _).mono ?_; rintro e w' ⟨rfl, rfl⟩) | fail)
  all_goals go_wp2
  all_goals go_ret
  all_goals exact ⟨rfl, 1, rfl⟩
end Go.Proofs.YtagelkaenbdlaaaDoor
