/- The digest's own words and mixing, of numbers that are not negative: what they are as plain numbers, as the document reckons them. -/
import Derived.Test.YtagelkaenbdlaaaDoorMixed
import Derived.Test.YtagelkaenbdlaaaDoorRefS
namespace Go.Proofs.YtagelkaenbdlaaaDoor
open Go.RowKit

theorem or_u32 (a b : Nat) (ha : a < 2 ^ 32) (hb : b < 2 ^ 32) : bits .or .u32 (a : Int) (b : Int) = ((a ||| b : Nat) : Int) := (bits_nat .u32 32 (by decide) wraps_u32 a b ha hb).2
theorem and_u32 (a b : Nat) (ha : a < 2 ^ 32) (hb : b < 2 ^ 32) : bits .and .u32 (a : Int) (b : Int) = ((a &&& b : Nat) : Int) := (bits_nat .u32 32 (by decide) wraps_u32 a b ha hb).1
theorem rot_nat (x n : Nat) (hx : x < 2 ^ 32) (h1 : 1 ≤ n) (h2 : n ≤ 31) : rotR (x : Int) n = (rightN x n : Int) := by
  obtain ⟨hl1, hl2⟩ := right_lt x n hx h2
  have h3 : 2 ^ 32 = 2 ^ n * 2 ^ (32 - n) := by rw [← Nat.pow_add]; congr 1; omega
  have e1 : IntKind.u32.wrap ((x : Int) * 2 ^ (32 - n)) = ((x % 2 ^ n * 2 ^ (32 - n) : Nat) : Int) := by
    rw [show (x : Int) * 2 ^ (32 - n) = ((x * 2 ^ (32 - n) : Nat) : Int) from by push_cast; rfl, IntKind.wrap_u32, show (4294967296 : Int) = ((2 ^ 32 : Nat) : Int) from rfl, ← Int.natCast_emod, h3, Nat.mul_mod_mul_right]
  have e2 : (x : Int) / 2 ^ n = ((x / 2 ^ n : Nat) : Int) := by push_cast; rfl
  have h6 : x / 2 ^ n < 2 ^ (32 - n) := by rw [Nat.div_lt_iff_lt_mul (Nat.two_pow_pos n), Nat.mul_comm, ← h3]; exact hx
  have h8 : 2 ^ (32 - n) ≤ 2 ^ 32 := Nat.pow_le_pow_right (by decide) (by omega)
  unfold rotR
  rw [e1, e2, or_u32 _ _ hl1 (by omega), Nat.mul_comm (x % 2 ^ n), ← Nat.two_pow_add_eq_or_of_lt h6]
  unfold rightN
  congr 1
  rw [Nat.mul_comm (x % 2 ^ n)]
  omega

def sig0N (x : Nat) : Nat := rightN x 7 ^^^ rightN x 18 ^^^ x / 8
def sig1N (x : Nat) : Nat := rightN x 17 ^^^ rightN x 19 ^^^ x / 1024
def big0N (x : Nat) : Nat := rightN x 2 ^^^ rightN x 13 ^^^ rightN x 22
def big1N (x : Nat) : Nat := rightN x 6 ^^^ rightN x 11 ^^^ rightN x 25
def chN (e f g : Nat) : Nat := (e &&& f) ^^^ ((4294967295 - e) &&& g)
def majN (a b c : Nat) : Nat := (a &&& b) ^^^ (a &&& c) ^^^ (b &&& c)
theorem xor3 (a b c : Nat) (ha : a < 2 ^ 32) (hb : b < 2 ^ 32) (hc : c < 2 ^ 32) : bits .xor .u32 (bits .xor .u32 (a : Int) (b : Int)) (c : Int) = ((a ^^^ b ^^^ c : Nat) : Int) ∧ a ^^^ b ^^^ c < 2 ^ 32 := by
  rw [xor_u32 a b ha hb, xor_u32 _ c (Nat.xor_lt_two_pow ha hb) hc]
  exact ⟨rfl, Nat.xor_lt_two_pow (Nat.xor_lt_two_pow ha hb) hc⟩
theorem sig0_nat (x : Nat) (hx : x < 2 ^ 32) : sig0 (x : Int) = (sig0N x : Int) ∧ sig0N x < 2 ^ 32 := by
  unfold sig0 sig0N
  rw [rot_nat x 7 hx (by decide) (by decide), rot_nat x 18 hx (by decide) (by decide), show (x : Int) / 8 = ((x / 8 : Nat) : Int) from by omega]
  exact xor3 _ _ _ (right_lt x 7 hx (by decide)).2 (right_lt x 18 hx (by decide)).2 (by omega)
theorem sig1_nat (x : Nat) (hx : x < 2 ^ 32) : sig1 (x : Int) = (sig1N x : Int) ∧ sig1N x < 2 ^ 32 := by
  unfold sig1 sig1N
  rw [rot_nat x 17 hx (by decide) (by decide), rot_nat x 19 hx (by decide) (by decide), show (x : Int) / 1024 = ((x / 1024 : Nat) : Int) from by omega]
  exact xor3 _ _ _ (right_lt x 17 hx (by decide)).2 (right_lt x 19 hx (by decide)).2 (by omega)
theorem big0_nat (x : Nat) (hx : x < 2 ^ 32) : big0 (x : Int) = (big0N x : Int) ∧ big0N x < 2 ^ 32 := by
  unfold big0 big0N
  rw [rot_nat x 2 hx (by decide) (by decide), rot_nat x 13 hx (by decide) (by decide), rot_nat x 22 hx (by decide) (by decide)]
  exact xor3 _ _ _ (right_lt x 2 hx (by decide)).2 (right_lt x 13 hx (by decide)).2 (right_lt x 22 hx (by decide)).2
theorem big1_nat (x : Nat) (hx : x < 2 ^ 32) : big1 (x : Int) = (big1N x : Int) ∧ big1N x < 2 ^ 32 := by
  unfold big1 big1N
  rw [rot_nat x 6 hx (by decide) (by decide), rot_nat x 11 hx (by decide) (by decide), rot_nat x 25 hx (by decide) (by decide)]
  exact xor3 _ _ _ (right_lt x 6 hx (by decide)).2 (right_lt x 11 hx (by decide)).2 (right_lt x 25 hx (by decide)).2
theorem ch_nat (e f g : Nat) (he : e < 2 ^ 32) (hf : f < 2 ^ 32) (hg : g < 2 ^ 32) : ch (e : Int) (f : Int) (g : Int) = (chN e f g : Int) ∧ chN e f g < 2 ^ 32 := by
  have h1 : bits .xor .u32 IntKind.u32.max (e : Int) = ((4294967295 - e : Nat) : Int) := not_u32 e he
  have a1 : e &&& f < 2 ^ 32 := Nat.and_lt_two_pow _ hf
  have a2 : (4294967295 - e) &&& g < 2 ^ 32 := Nat.and_lt_two_pow _ hg
  unfold ch chN
  rw [h1, and_u32 e f he hf, and_u32 _ g (by omega) hg, xor_u32 _ _ a1 a2]
  exact ⟨rfl, Nat.xor_lt_two_pow a1 a2⟩
theorem maj_nat (a b c : Nat) (ha : a < 2 ^ 32) (hb : b < 2 ^ 32) (hc : c < 2 ^ 32) : maj (a : Int) (b : Int) (c : Int) = (majN a b c : Int) ∧ majN a b c < 2 ^ 32 := by
  unfold maj majN
  rw [and_u32 a b ha hb, and_u32 a c ha hc, and_u32 b c hb hc]
  exact xor3 _ _ _ (Nat.and_lt_two_pow _ hb) (Nat.and_lt_two_pow _ hc) (Nat.and_lt_two_pow _ hc)

/-- Four bytes, the greatest first. -/
def be4N (a b c d : Nat) : Nat := ((a * 256 + b) * 256 + c) * 256 + d
theorem be4_nat (a b c d : Nat) (ha : a < 256) (hb : b < 256) (hc : c < 256) (hd : d < 256) : be4 (a : Int) (b : Int) (c : Int) (d : Int) = (be4N a b c d : Int) ∧ be4N a b c d < 2 ^ 32 := by
  have e1 : (a : Int) % 4294967296 * 16777216 % 4294967296 = ((2 ^ 24 * a : Nat) : Int) := by omega
  have e2 : (b : Int) % 4294967296 * 65536 % 4294967296 = ((2 ^ 16 * b : Nat) : Int) := by omega
  have e3 : (c : Int) % 4294967296 * 256 % 4294967296 = ((2 ^ 8 * c : Nat) : Int) := by omega
  have e4 : (d : Int) % 4294967296 = ((d : Nat) : Int) := by omega
  have o1 := Nat.two_pow_add_eq_or_of_lt (i := 24) (b := 2 ^ 16 * b) (by omega) a
  have o2 : 2 ^ 24 * a + 2 ^ 16 * b = 2 ^ 16 * (2 ^ 8 * a + b) := by omega
  have o3 := Nat.two_pow_add_eq_or_of_lt (i := 16) (b := 2 ^ 8 * c) (by omega) (2 ^ 8 * a + b)
  have o4 : 2 ^ 16 * (2 ^ 8 * a + b) + 2 ^ 8 * c = 2 ^ 8 * (2 ^ 16 * a + 2 ^ 8 * b + c) := by omega
  have o5 := Nat.two_pow_add_eq_or_of_lt (i := 8) (b := d) (by omega) (2 ^ 16 * a + 2 ^ 8 * b + c)
  unfold be4 be4N
  rw [e1, e2, e3, e4, or_u32 _ _ (by omega) (by omega), ← o1, o2, or_u32 _ _ (by omega) (by omega), ← o3, o4, or_u32 _ _ (by omega) (by omega), ← o5]
  omega

def toI (l : List Nat) : List Int := l.map fun (n : Nat) => (n : Int)
theorem toI_get (l : List Nat) (i : Nat) : (toI l).getD i 0 = (l.getD i 0 : Int) := by
  unfold toI
  rw [List.getD_eq_getElem?_getD, List.getD_eq_getElem?_getD, List.getElem?_map]
  cases l[i]? <;> rfl
theorem get_lt (l : List Nat) (h : ∀ x ∈ l, x < 2 ^ 32) (i : Nat) : l.getD i 0 < 2 ^ 32 := by
  rw [List.getD_eq_getElem?_getD]
  cases e : l[i]? with
  | none => show 0 < 2 ^ 32; decide
  | some x => exact h x (List.mem_of_getElem? e)
def byteN (s : ByteArray) (k : Nat) : Nat := (s.data.toList.getD k 0).toNat
def wnextN (s : ByteArray) (l : List Nat) (k : Nat) : Nat :=
  if k < 16 then be4N (byteN s (4 * k)) (byteN s (4 * k + 1)) (byteN s (4 * k + 2)) (byteN s (4 * k + 3))
  else (l.getD (k - 16) 0 + sig0N (l.getD (k - 15) 0) + l.getD (k - 7) 0 + sig1N (l.getD (k - 2) 0)) % 4294967296
/-- The words of a block, as plain numbers. -/
def wsN (s : ByteArray) : Nat → List Nat
  | 0 => []
  | k + 1 => wsN s k ++ [wnextN s (wsN s k) k]
theorem wnext_nat (s : ByteArray) (l : List Nat) (k : Nat) (h : ∀ x ∈ l, x < 2 ^ 32) : wnext s (toI l) k = (wnextN s l k : Int) ∧ wnextN s l k < 2 ^ 32 := by
  unfold wnext wnextN
  by_cases hk : k < 16
  · rw [if_pos hk, if_pos hk]
    exact be4_nat _ _ _ _ (s.data.toList.getD (4 * k) 0).toNat_lt (s.data.toList.getD (4 * k + 1) 0).toNat_lt (s.data.toList.getD (4 * k + 2) 0).toNat_lt (s.data.toList.getD (4 * k + 3) 0).toNat_lt
  · rw [if_neg hk, if_neg hk, toI_get, toI_get, toI_get, toI_get]
    have h1 := sig0_nat _ (get_lt l h (k - 15))
    have h2 := sig1_nat _ (get_lt l h (k - 2))
    rw [h1.1, h2.1]
    exact ⟨by omega, Nat.mod_lt _ (by decide)⟩
theorem ws_nat (s : ByteArray) (k : Nat) : ws s k = toI (wsN s k) ∧ ∀ x ∈ wsN s k, x < 2 ^ 32 := by
  induction k with
  | zero => exact ⟨rfl, by simp [wsN]⟩
  | succ k ih =>
    obtain ⟨h1, h2⟩ := wnext_nat s (wsN s k) k ih.2
    refine ⟨?_, ?_⟩
    · show ws s k ++ [wnext s (ws s k) k] = _
      rw [ih.1, h1]
      simp [wsN, toI]
    · intro x hx
      rcases List.mem_append.1 hx with h | h
      · exact ih.2 x h
      · simp at h; rw [h]; exact h2

structure N8 where
  (a b c d e f g h : Nat)
def N8.ok (s : N8) : Prop := s.a < 2 ^ 32 ∧ s.b < 2 ^ 32 ∧ s.c < 2 ^ 32 ∧ s.d < 2 ^ 32 ∧ s.e < 2 ^ 32 ∧ s.f < 2 ^ 32 ∧ s.g < 2 ^ 32 ∧ s.h < 2 ^ 32
def N8.i (s : N8) : S8 := ⟨s.a, s.b, s.c, s.d, s.e, s.f, s.g, s.h⟩
def N8.u (s : N8) (k v : Nat) : Nat := (s.h + big1N s.e + chN s.e s.f s.g + k + v) % 4294967296
/-- One round, as plain numbers. -/
def N8.step (s : N8) (k v : Nat) : N8 := ⟨(s.u k v + (big0N s.a + majN s.a s.b s.c)) % 4294967296, s.a, s.b, s.c, (s.d + s.u k v) % 4294967296, s.e, s.f, s.g⟩
theorem step_nat (s : N8) (k v : Nat) (h : s.ok) : S8.step s.i k v = (s.step k v).i ∧ (s.step k v).ok := by
  obtain ⟨ha, hb, hc, hd, he, hf, hg, hh⟩ := h
  have h1 := big1_nat s.e he
  have h2 := ch_nat s.e s.f s.g he hf hg
  have h3 := big0_nat s.a ha
  have h4 := maj_nat s.a s.b s.c ha hb hc
  have hu : S8.u s.i k v = (s.u k v : Int) := by
    unfold S8.u N8.u N8.i
    simp only
    rw [h1.1, h2.1]
    omega
  have hul : s.u k v < 2 ^ 32 := Nat.mod_lt _ (by decide)
  refine ⟨?_, Nat.mod_lt _ (by decide), ha, hb, hc, Nat.mod_lt _ (by decide), he, hf, hg⟩
  unfold S8.step
  rw [hu]
  unfold N8.step N8.i
  simp only
  rw [h3.1, h4.1]
  congr 1
  all_goals omega
def roundsN (wl ks : List Nat) : Nat → N8 → N8
  | 0, s => s
  | n + 1, s => (roundsN wl ks n s).step (ks.getD n 0) (wl.getD n 0)
theorem rounds_nat (wl ks : List Nat) (n : Nat) (s : N8) (h : s.ok) : rounds8 (toI wl) (toI ks) n s.i = (roundsN wl ks n s).i ∧ (roundsN wl ks n s).ok := by
  induction n with
  | zero => exact ⟨rfl, h⟩
  | succ n ih =>
    obtain ⟨h1, h2⟩ := step_nat (roundsN wl ks n s) (ks.getD n 0) (wl.getD n 0) ih.2
    refine ⟨?_, h2⟩
    show (rounds8 (toI wl) (toI ks) n s.i).step ((toI ks).getD n 0) ((toI wl).getD n 0) = _
    rw [ih.1, toI_get, toI_get, h1]
    rfl
/-- The state behind a block, as plain numbers. -/
def mixN (q : N8) (s : ByteArray) (ks : List Nat) : N8 :=
  ⟨(q.a + (roundsN (wsN s 64) ks 64 q).a) % 4294967296, (q.b + (roundsN (wsN s 64) ks 64 q).b) % 4294967296, (q.c + (roundsN (wsN s 64) ks 64 q).c) % 4294967296, (q.d + (roundsN (wsN s 64) ks 64 q).d) % 4294967296, (q.e + (roundsN (wsN s 64) ks 64 q).e) % 4294967296, (q.f + (roundsN (wsN s 64) ks 64 q).f) % 4294967296, (q.g + (roundsN (wsN s 64) ks 64 q).g) % 4294967296, (q.h + (roundsN (wsN s 64) ks 64 q).h) % 4294967296⟩
theorem mix_nat (q : N8) (s : ByteArray) (ks : List Nat) (h : q.ok) : mixS q.i s (toI ks) = (mixN q s ks).i ∧ (mixN q s ks).ok := by
  have h1 := (rounds_nat (wsN s 64) ks 64 q h).1
  rw [← (ws_nat s 64).1] at h1
  refine ⟨?_, Nat.mod_lt _ (by decide), Nat.mod_lt _ (by decide), Nat.mod_lt _ (by decide), Nat.mod_lt _ (by decide), Nat.mod_lt _ (by decide), Nat.mod_lt _ (by decide), Nat.mod_lt _ (by decide), Nat.mod_lt _ (by decide)⟩
  unfold mixS
  rw [h1]
  unfold mixN N8.i
  simp only
  generalize roundsN (wsN s 64) ks 64 q = r
  congr 1
end Go.Proofs.YtagelkaenbdlaaaDoor
