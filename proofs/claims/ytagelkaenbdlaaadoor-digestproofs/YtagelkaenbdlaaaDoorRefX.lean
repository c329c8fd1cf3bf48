/- The document's own Bits, Xor and And: what they answer of numbers of 32 bits. -/
import Derived.Test.YtagelkaenbdlaaaDoorCrcP
import Derived.Test.YtagelkaenbdlaaaDoorChecked
import Derived.ProofKit
import Derived.WalkLawsBesides
import Derived.Below
import Derived.Deep.RegionHeld3
namespace Go.Proofs.YtagelkaenbdlaaaDoor
open Go.RowKit

theorem low_step (x i : Nat) : x % 2 ^ (i + 1) = x % 2 ^ i + 2 ^ i * (x / 2 ^ i % 2) := Nat.mod_pow_succ
theorem xor_bit (a b i : Nat) : (a ^^^ b) / 2 ^ i % 2 = (a / 2 ^ i % 2 + b / 2 ^ i % 2) % 2 := by
  have := Nat.shiftRight_xor_distrib (a := a) (b := b) (i := i)
  rw [Nat.shiftRight_eq_div_pow, Nat.shiftRight_eq_div_pow, Nat.shiftRight_eq_div_pow] at this
  rw [this, xor_low]
theorem and_bit (a b i : Nat) : (a &&& b) / 2 ^ i % 2 = (a / 2 ^ i % 2) * (b / 2 ^ i % 2) := by
  have := Nat.shiftRight_and_distrib (a := a) (b := b) (i := i)
  rw [Nat.shiftRight_eq_div_pow, Nat.shiftRight_eq_div_pow, Nat.shiftRight_eq_div_pow] at this
  rw [this]
  have h := Nat.and_mod_two_pow (a := a / 2 ^ i) (b := b / 2 ^ i) (n := 1)
  simp only [Nat.pow_one] at h
  rw [h]
  rcases Nat.mod_two_eq_zero_or_one (a / 2 ^ i) with hx | hx <;> rcases Nat.mod_two_eq_zero_or_one (b / 2 ^ i) with hy | hy <;> rw [hx, hy] <;> rfl

set_option maxHeartbeats 1000000 in
theorem xor1_any (x y : Nat) (w : World) (hx : x < 2) (hy : y < 2) :
    Calls Tryd.prog 61 #[.int .i64 x, .int .i64 y] w fun e w' => e = .returned (.int .i64 (((x + y) % 2 : Nat) : Int)) ∧ w' = w := by
  have h1 : (x : Int) < 2 := by omega
  have h2 : (y : Int) < 2 := by omega
  go_enter Tryd.func61, Tryd.ntmps61
  go_wp2
  go_ret
  exact ⟨by simp, rfl⟩

set_option maxHeartbeats 1000000 in
theorem and1_any (x y : Nat) (w : World) (hx : x < 2) (hy : y < 2) :
    Calls Tryd.prog 62 #[.int .i64 x, .int .i64 y] w fun e w' => e = .returned (.int .i64 ((x * y : Nat) : Int)) ∧ w' = w := by
  have h1 : (x : Int) < 2 := by omega
  have h2 : (y : Int) < 2 := by omega
  have h3 : ((x * y : Nat) : Int) = (x : Int) * (y : Int) := by push_cast; rfl
  have h4 : IntKind.i64.wrap ((x : Int) * (y : Int)) = (x : Int) * (y : Int) := by
    have : x * y ≤ 1 * 1 := Nat.mul_le_mul (by omega) (by omega)
    rw [← h3, IntKind.wrap_i64]
    omega
  rw [h3]
  go_enter Tryd.func62, Tryd.ntmps62
  go_wp2
  go_ret
  exact ⟨by simp, rfl⟩

theorem pow32 (k : Nat) (hk : k ≤ 32) : 2 ^ k ≤ 4294967296 := Nat.pow_le_pow_right (n := 2) (by decide) hk

set_option maxHeartbeats 2000000 in
set_option maxRecDepth 100000 in
theorem bits_xor (a b : Nat) (w : World) (ha : a < 2 ^ 32) (hb : b < 2 ^ 32) :
    Calls Tryd.prog 60 #[.int .i64 a, .int .i64 b, .func (.func 61) #[] #[]] w fun e w' => e = .returned (.int .i64 ((a ^^^ b : Nat) : Int)) ∧ w' = w := by
  have HR : Hid (a ^^^ b < 2 ^ 32) := Nat.xor_lt_two_pow ha hb
  have HA : Hid (a < 2 ^ 32) := ha
  have HB : Hid (b < 2 ^ 32) := hb
  clear ha hb
  go_enter Tryd.func60, Tryd.ntmps60
  go_wp2
  go_loop [0, 1, 7, 8, 9] (fun va vb vn vt i => ∃ k : Nat, k ≤ 32 ∧ va = .int .i64 (a / 2 ^ k : Nat) ∧ vb = .int .i64 (b / 2 ^ k : Nat) ∧ vn = .int .i64 ((a ^^^ b) % 2 ^ k : Nat) ∧ vt = .int .i64 (2 ^ k : Nat) ∧ i = .int .i64 k) (fun _ _ _ _ i => 32 - (intOf i).toNat)
  case atStart => exact ⟨0, by omega, by simp, by simp, by simp [Nat.mod_one], by simp, rfl⟩
  case round =>
    obtain ⟨k, hk, rfl, rfl, rfl, rfl, rfl⟩ := hrel
    by_cases hlt : k < 32
    · have i2 : (k : Int) < 32 := by omega
      have HS : Hid ((a ^^^ b) % 2 ^ (k + 1) = (a ^^^ b) % 2 ^ k + 2 ^ k * ((a / 2 ^ k % 2 + b / 2 ^ k % 2) % 2) ∧ a / 2 ^ (k + 1) = a / 2 ^ k / 2 ∧ b / 2 ^ (k + 1) = b / 2 ^ k / 2 ∧ 2 ^ (k + 1) = 2 * 2 ^ k) :=
        ⟨by rw [low_step, xor_bit], by rw [Nat.pow_succ, Nat.div_div_eq_div_mul], by rw [Nat.pow_succ, Nat.div_div_eq_div_mul], by rw [Nat.pow_succ, Nat.mul_comm]⟩
      have p1 : a / 2 ^ k < 4294967296 := Nat.lt_of_le_of_lt (Nat.div_le_self _ _) HA.out
      have p2 : b / 2 ^ k < 4294967296 := Nat.lt_of_le_of_lt (Nat.div_le_self _ _) HB.out
      have p3 : (a ^^^ b) % 2 ^ k < 4294967296 := Nat.lt_of_le_of_lt (Nat.mod_le _ _) HR.out
      have p4 := pow32 k hk
      generalize a / 2 ^ k = x at p1 HS
      generalize b / 2 ^ k = y at p2 HS
      generalize (a ^^^ b) % 2 ^ k = n at p3 HS
      generalize 2 ^ k = q at p4 HS
      have hx : (x : Int) % 2 = ((x % 2 : Nat) : Int) := by omega
      have hy : (y : Int) % 2 = ((y % 2 : Nat) : Int) := by omega
      obtain ⟨u, hu⟩ : ∃ u, u = x % 2 := ⟨_, rfl⟩
      obtain ⟨v, hv⟩ : ∃ v, v = y % 2 := ⟨_, rfl⟩
      rw [← hu] at hx
      rw [← hv] at hy
      obtain ⟨t, htt⟩ : ∃ t, t = (u + v) % 2 := ⟨_, rfl⟩
      have HF : Hid (∀ w, Calls Tryd.prog 61 #[.int .i64 u, .int .i64 v] w fun e w' => e = .returned (.int .i64 (t : Int)) ∧ w' = w) := fun w => by rw [htt]; exact xor1_any u v w (by omega) (by omega)
      have ht1 : t ≤ 1 := by omega
      have hqt : q * t ≤ 4294967296 := Nat.le_trans (Nat.mul_le_mul_left q ht1) (by omega)
      have m0 : (q : Int) * (t : Int) = ((q * t : Nat) : Int) := by push_cast; rfl
      have HV : Hid (t = (x % 2 + y % 2) % 2) := by show _ = _; rw [htt, hu, hv]
      clear hu hv htt
      generalize hz : q * t = z at hqt m0
      have HZ : Hid (q * t = z) := hz
      clear hz
      go_wp2_with (go_at_call 61; refine (HF.out _).mono ?_; rintro e w' ⟨rfl, rfl⟩)
      refine ⟨⟨k + 1, by omega, ?_, ?_, ?_, ?_, by go_num⟩, by simp [intOf]; omega⟩
      · rw [HS.out.2.1]; go_num
      · rw [HS.out.2.2.1]; go_num
      · rw [HS.out.1, ← HV.out, HZ.out]; go_num
      · rw [HS.out.2.2.2]; go_num
    · obtain rfl : k = 32 := by omega
      have HM : Hid ((a ^^^ b) % 2 ^ 32 = a ^^^ b) := Nat.mod_eq_of_lt HR.out
      generalize (a ^^^ b) % 2 ^ 32 = n at HM
      generalize a / 2 ^ 32 = x
      generalize b / 2 ^ 32 = y
      generalize 2 ^ 32 = q
      go_wp2
      go_ret
      exact ⟨by rw [← HM.out]; rfl, rfl⟩

set_option maxHeartbeats 2000000 in
set_option maxRecDepth 100000 in
theorem bits_and (a b : Nat) (w : World) (ha : a < 2 ^ 32) (hb : b < 2 ^ 32) :
    Calls Tryd.prog 60 #[.int .i64 a, .int .i64 b, .func (.func 62) #[] #[]] w fun e w' => e = .returned (.int .i64 ((a &&& b : Nat) : Int)) ∧ w' = w := by
  have HR : Hid (a &&& b < 2 ^ 32) := Nat.and_lt_two_pow _ hb
  have HA : Hid (a < 2 ^ 32) := ha
  have HB : Hid (b < 2 ^ 32) := hb
  clear ha hb
  go_enter Tryd.func60, Tryd.ntmps60
  go_wp2
  go_loop [0, 1, 7, 8, 9] (fun va vb vn vt i => ∃ k : Nat, k ≤ 32 ∧ va = .int .i64 (a / 2 ^ k : Nat) ∧ vb = .int .i64 (b / 2 ^ k : Nat) ∧ vn = .int .i64 ((a &&& b) % 2 ^ k : Nat) ∧ vt = .int .i64 (2 ^ k : Nat) ∧ i = .int .i64 k) (fun _ _ _ _ i => 32 - (intOf i).toNat)
  case atStart => exact ⟨0, by omega, by simp, by simp, by simp [Nat.mod_one], by simp, rfl⟩
  case round =>
    obtain ⟨k, hk, rfl, rfl, rfl, rfl, rfl⟩ := hrel
    by_cases hlt : k < 32
    · have i2 : (k : Int) < 32 := by omega
      have HS : Hid ((a &&& b) % 2 ^ (k + 1) = (a &&& b) % 2 ^ k + 2 ^ k * ((a / 2 ^ k % 2) * (b / 2 ^ k % 2)) ∧ a / 2 ^ (k + 1) = a / 2 ^ k / 2 ∧ b / 2 ^ (k + 1) = b / 2 ^ k / 2 ∧ 2 ^ (k + 1) = 2 * 2 ^ k) :=
        ⟨by rw [low_step, and_bit], by rw [Nat.pow_succ, Nat.div_div_eq_div_mul], by rw [Nat.pow_succ, Nat.div_div_eq_div_mul], by rw [Nat.pow_succ, Nat.mul_comm]⟩
      have p1 : a / 2 ^ k < 4294967296 := Nat.lt_of_le_of_lt (Nat.div_le_self _ _) HA.out
      have p2 : b / 2 ^ k < 4294967296 := Nat.lt_of_le_of_lt (Nat.div_le_self _ _) HB.out
      have p3 : (a &&& b) % 2 ^ k < 4294967296 := Nat.lt_of_le_of_lt (Nat.mod_le _ _) HR.out
      have p4 := pow32 k hk
      generalize a / 2 ^ k = x at p1 HS
      generalize b / 2 ^ k = y at p2 HS
      generalize (a &&& b) % 2 ^ k = n at p3 HS
      generalize 2 ^ k = q at p4 HS
      have hx : (x : Int) % 2 = ((x % 2 : Nat) : Int) := by omega
      have hy : (y : Int) % 2 = ((y % 2 : Nat) : Int) := by omega
      obtain ⟨u, hu⟩ : ∃ u, u = x % 2 := ⟨_, rfl⟩
      obtain ⟨v, hv⟩ : ∃ v, v = y % 2 := ⟨_, rfl⟩
      rw [← hu] at hx
      rw [← hv] at hy
      obtain ⟨t, htt⟩ : ∃ t, t = u * v := ⟨_, rfl⟩
      have HF : Hid (∀ w, Calls Tryd.prog 62 #[.int .i64 u, .int .i64 v] w fun e w' => e = .returned (.int .i64 (t : Int)) ∧ w' = w) := fun w => by rw [htt]; exact and1_any u v w (by omega) (by omega)
      have ht1 : t ≤ 1 := by
        have : u * v ≤ 1 * 1 := Nat.mul_le_mul (by omega) (by omega)
        omega
      have hqt : q * t ≤ 4294967296 := Nat.le_trans (Nat.mul_le_mul_left q ht1) (by omega)
      have m0 : (q : Int) * (t : Int) = ((q * t : Nat) : Int) := by push_cast; rfl
      have HV : Hid (t = (x % 2) * (y % 2)) := by show _ = _; rw [htt, hu, hv]
      clear hu hv htt
      generalize hz : q * t = z at hqt m0
      have HZ : Hid (q * t = z) := hz
      clear hz
      go_wp2_with (go_at_call 62; refine (HF.out _).mono ?_; rintro e w' ⟨rfl, rfl⟩)
      refine ⟨⟨k + 1, by omega, ?_, ?_, ?_, ?_, by go_num⟩, by simp [intOf]; omega⟩
      · rw [HS.out.2.1]; go_num
      · rw [HS.out.2.2.1]; go_num
      · rw [HS.out.1, ← HV.out, HZ.out]; go_num
      · rw [HS.out.2.2.2]; go_num
    · obtain rfl : k = 32 := by omega
      have HM : Hid ((a &&& b) % 2 ^ 32 = a &&& b) := Nat.mod_eq_of_lt HR.out
      generalize (a &&& b) % 2 ^ 32 = n at HM
      generalize a / 2 ^ 32 = x
      generalize b / 2 ^ 32 = y
      generalize 2 ^ 32 = q
      go_wp2
      go_ret
      exact ⟨by rw [← HM.out]; rfl, rfl⟩

/-- All of them, xor-ed. -/
def xors (l : List Nat) : Nat := l.foldl (· ^^^ ·) 0
theorem xors_lt (l : List Nat) (h : ∀ x ∈ l, x < 2 ^ 32) : xors l < 2 ^ 32 := by
  suffices ∀ (l : List Nat) (n : Nat), n < 2 ^ 32 → (∀ x ∈ l, x < 2 ^ 32) → l.foldl (· ^^^ ·) n < 2 ^ 32 from this l 0 (by decide) h
  intro l
  induction l with
  | nil => exact fun n hn _ => hn
  | cons x l ih => exact fun n hn hx => ih _ (Nat.xor_lt_two_pow hn (hx x (List.mem_cons_self ..))) fun y hy => hx y (List.mem_cons_of_mem _ hy)

set_option maxHeartbeats 2000000 in
set_option maxRecDepth 100000 in
theorem Xor_any (g cap : Nat) (l : List Nat) (w : World) (hl : l.length ≤ 1000) (h32 : ∀ x ∈ l, x < 2 ^ 32) (hc : ∀ j (hj : j < l.length), w.cell? ⟨g, j, none⟩ = some (.int .i64 (l[j] : Int))) :
    Calls Tryd.prog 36 #[.slice (some ⟨g, 0, none⟩) l.length cap] w fun e w' => e = .returned (.int .i64 (xors l : Nat)) ∧ w' = w := by
  have HC : Hid (∀ j (hj : j < l.length), w.cell? ⟨g, j, none⟩ = some (.int .i64 (l[j] : Int))) := hc
  have H32 : Hid (∀ x ∈ l, x < 2 ^ 32) := h32
  have hl1 : (l.length : Int) ≤ 1000 := by omega
  clear hc h32
  go_enter Tryd.func36, Tryd.ntmps36
  go_wp2
  go_loop [3, 4] (fun v i => ∃ k : Nat, k ≤ l.length ∧ v = .int .i64 (xors (l.take k) : Nat) ∧ i = .int .i64 k) (fun _ i => l.length - (intOf i).toNat)
  case atStart => exact ⟨0, Nat.zero_le _, rfl, rfl⟩
  case round =>
    obtain ⟨k, hk, rfl, rfl⟩ := hrel
    by_cases hlt : k < l.length
    · have c1 := HC.out k hlt
      have HS : Hid (xors (l.take (k + 1)) = xors (l.take k) ^^^ l[k]) := by
        show _ = _
        rw [List.take_succ_eq_append_getElem hlt, xors, List.foldl_append]
        rfl
      have HX : Hid (∀ w, Calls Tryd.prog 60 #[.int .i64 (xors (l.take k) : Nat), .int .i64 (l[k] : Nat), .func (.func 61) #[] #[]] w fun e w' => e = .returned (.int .i64 ((xors (l.take k) ^^^ l[k] : Nat) : Int)) ∧ w' = w) :=
        fun w => bits_xor _ _ w (xors_lt _ fun x hx => H32.out x (List.mem_of_mem_take hx)) (H32.out _ (List.getElem_mem hlt))
      generalize xors (l.take k) ^^^ l[k] = z at HS HX
      generalize xors (l.take k) = n at HX
      generalize l[k] = x at c1 HX
      go_wp2_with (go_at_call 60; refine (HX.out _).mono ?_; rintro e w' ⟨rfl, rfl⟩)
      refine ⟨⟨k + 1, by omega, ?_, by go_num⟩, by simp [intOf]; omega⟩
      rw [HS.out]
    · have HK : Hid (xors l = xors (l.take k)) := by show _ = _; rw [List.take_of_length_le (by omega)]
      generalize xors (l.take k) = n at HK
      go_wp2
      go_ret
      exact ⟨by rw [HK.out]; rfl, rfl⟩

set_option maxHeartbeats 1000000 in
set_option maxRecDepth 100000 in
theorem Pow2_any (n : Nat) (w : World) (hn : n ≤ 60) :
    Calls Tryd.prog 33 #[.int .i64 n] w fun e w' => e = .returned (.int .i64 ((2 ^ n : Nat) : Int)) ∧ w' = w := by
  obtain ⟨r, hr⟩ : ∃ r : Nat, 2 ^ n = r := ⟨_, rfl⟩
  rw [hr]
  have HR : Hid (2 ^ n = r) := hr
  clear hr
  go_enter Tryd.func33, Tryd.ntmps33
  go_wp2
  go_loop [0, 3] (fun i v => ∃ k : Nat, k ≤ n ∧ i = .int .i64 ((n - k : Nat) : Int) ∧ v = .int .i64 ((2 ^ k : Nat) : Int)) (fun i _ => (intOf i).toNat)
  case atStart => exact ⟨0, Nat.zero_le _, rfl, rfl⟩
  case round =>
    obtain ⟨k, hk, rfl, rfl⟩ := hrel
    have hp : 2 ^ k ≤ 2 ^ 60 := Nat.pow_le_pow_right (by decide) (by omega)
    have HS : Hid (2 ^ (k + 1) = 2 * 2 ^ k) := by show _ = _; rw [Nat.pow_succ, Nat.mul_comm]
    by_cases hlt : k < n
    · obtain ⟨d, hd⟩ : ∃ d, n - k = d + 1 := ⟨n - k - 1, by omega⟩
      have HD : Hid (n - (k + 1) = d) := by show _ = _; omega
      rw [hd]
      generalize 2 ^ k = p at hp HS
      have hpi : (p : Int) ≤ 1152921504606846976 := by omega
      have hdi : (d : Int) ≤ 60 := by omega
      clear hp hd
      go_wp2
      refine ⟨⟨k + 1, by omega, ?_, ?_⟩, by simp [intOf]⟩
      · rw [HD.out]
      · rw [HS.out]; go_num
    · have HE : Hid (r = 2 ^ k) := by show _ = _; rw [← HR.out, show n = k by omega]
      have hz : n - k = 0 := by omega
      rw [hz]
      generalize 2 ^ k = p at HE
      go_wp2
      go_ret
      exact ⟨by rw [HE.out]; rfl, rfl⟩
end Go.Proofs.YtagelkaenbdlaaaDoor
