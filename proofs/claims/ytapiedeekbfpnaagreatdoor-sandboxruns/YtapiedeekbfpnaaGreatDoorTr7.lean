/- Calls of Run, whose files lie somewhere; files that are the same; a number that is chosen. -/
import Derived.WalkKit
import Derived.Laws.BitsLemmas
import Derived.Test.YtapiedeekbfpnaaGreatDoorChecked
import Derived.ProofKit
import Derived.WalkLawsBesides
import Derived.Below
import Derived.Deep.RegionHeld3
import Derived.Lib.Strings
import Derived.BigQuiet
import Derived.Deep.AppendLies
import Derived.Deep.QuietTactic
import Derived.BigRegion
import Derived.Test.YtapiedeekbfpnaaGreatDoorTie
import Derived.Test.YtapiedeekbfpnaaGreatDoorCards
import Derived.OpenShut
import Derived.ShutString
import Derived.ChangeOld
import Derived.Lay
import Derived.HandedShaped
import Derived.SevenTiedAt
import Derived.Stop.Joined
import Derived.Shelf.Vars
import Derived.Test.YtapiedeekbfpnaaGreatDoorTr6
namespace Go.Proofs.YtapiedeekbfpnaaGreatDoor
open Go.RowKit Go.Shelf Go.Sort

theorem IsFl.up {w w' : World} {ao : Option Addr} {L : List Fl} (h : IsFl w ao L) (hb : Below w.heap.size w w') : IsFl w' ao L := h.below hb (Nat.le_refl _)
/-- How Run ends: its files lie somewhere. -/
def RuP (F : List Fl) (ss : List ByteArray) (fuel : Int) (W : World) (e : Ending) (w' : World) : Prop :=
  ∃ ra rc, e = .returned (.tuple #[.slice ra (rnL F ss fuel).length rc, .int .i64 (rnC F ss fuel : Int), .int .i64 (rnS F ss fuel : Int), .int .i64 (rnE F ss fuel)]) ∧ Hid (IsFl w' ra (rnL F ss fuel)) ∧ Hid (Below W.heap.size W w')
theorem RunC (ao co : Option Addr) (cap ccap : Nat) (F : List Fl) (ss : List ByteArray) (fuel : Int) (W : World) (hl : IsFl W ao F) (ht : TxAt W co ss) (he : Env W) (hlen : ss.length ≤ 4611686018427387904) (hf1 : -9223372036854775808 ≤ fuel) (hf2 : fuel ≤ 9223372036854775807) :
    Calls Tryz.prog 9 #[.slice ao F.length cap, .slice co ss.length ccap, .int .i64 fuel] W (RuP F ss fuel W) := by
  refine (Run_any ao co cap ccap F ss fuel W hl ht he hlen hf1 hf2).mono ?_
  rintro e w' ⟨ra, rc, rfl, h1, h2⟩
  exact ⟨ra, rc, rfl, own_files h1.out rfl, h2⟩
theorem below_dn (w : World) (n : Nat) : Below w.heap.size w (w.drewN n) := ⟨rfl, rfl, rfl, Nat.le_refl _, fun _ _ => rfl⟩
theorem SameC (xa ya : Option Addr) (xc yc : Nat) (X : List Fl) (W : World) (hn : X.length ≤ 60) (hx : IsFl W xa X) (hy : IsFl W ya X) :
    Calls Tryz.prog 15 #[.slice xa X.length xc, .slice ya X.length yc] W fun e w' => e = .returned (.bool true) ∧ Hid (Below W.heap.size W w') := by
  refine (SameFiles_any xa ya xc yc X X W (by omega) hx hy).mono ?_
  rintro e w' ⟨b, rfl, hb, n, rfl⟩
  rw [hb.2 rfl]
  exact ⟨rfl, below_dn W n⟩
/-- What an argument that is a list of texts is. -/
theorem tx_of {w : World} {v : Value} {ss : List ByteArray} (hi : IsTexts w v ss) : ss.length ≤ 4611686018427387904 ∧ ∃ co ccap, v = .slice co ss.length ccap ∧ TxAt w co ss := by
  obtain ⟨hn, ao, cap, rfl, hc⟩ := hi
  refine ⟨hn, ao, cap, rfl, ?_⟩
  rcases hc with h | ⟨g, o, e, hc⟩
  · exact .inl h
  · by_cases h0 : ss = []
    · exact .inl h0
    · have hp : 0 < ss.length := List.length_pos_iff.2 h0
      exact .inr ⟨g, o, e, World.block_lt_of_cell? w ⟨g, o + 0, none⟩ (hc 0 hp), hc⟩

set_option maxHeartbeats 1000000 in
theorem choose_any (c : Int) (m : Nat) (w : World) (h0 : -9223372036854775808 ≤ c) (h1 : c ≤ 9223372036854775807) (hm : 0 < m) (hm2 : m ≤ 1099511627776) :
    Calls Tryz.prog 14 #[.int .i64 c, .int .i64 m] w fun e w' => (∃ r : Nat, r < m ∧ e = .returned (.int .i64 (r : Int))) ∧ w' = w := by
  have hmi : (0 : Int) < (m : Int) := by omega
  have hm0 : ((m : Int) == 0) = false := by simp; omega
  have key : ∀ d : Int, 0 ≤ d → ∃ r : Nat, r < m ∧ d.tmod (m : Int) = (r : Int) ∧ d % (m : Int) = (r : Int) := fun d hd => by
    have h2 := Int.emod_nonneg d (show (m : Int) ≠ 0 by omega)
    have h3 := Int.emod_lt_of_pos d hmi
    refine ⟨(d % (m : Int)).toNat, by omega, ?_, by omega⟩
    rw [Int.tmod_eq_emod_of_nonneg hd]
    omega
  by_cases hc : c < 0
  · obtain ⟨d, hd⟩ : ∃ d : Int, d = -(c + 1) := ⟨_, rfl⟩
    obtain ⟨r, hr, hr1, hr2⟩ := key d (by omega)
    have x1 : wrap64 (c + 1) = c + 1 := by unfold wrap64; omega
    have x2 : IntKind.i64.wrap (c + 1) = c + 1 := by rw [IntKind.wrap_i64]; omega
    have x3 : wrap64 (-(c + 1)) = d := by unfold wrap64; omega
    have x4 : IntKind.i64.wrap (-(c + 1)) = d := by rw [IntKind.wrap_i64]; omega
    have hd0 : 0 ≤ d := by omega
    clear key hd h0 h1 hm2
    go_enter Tryz.func14, Tryz.ntmps14
    go_wp2
    go_ret
    exact ⟨⟨r, hr, by simp⟩, rfl⟩
  · obtain ⟨r, hr, hr1, hr2⟩ := key c (by omega)
    have hc0 : 0 ≤ c := by omega
    clear key h1 hm2 hc
    go_enter Tryz.func14, Tryz.ntmps14
    go_wp2
    go_ret
    exact ⟨⟨r, hr, by simp⟩, rfl⟩
end Go.Proofs.YtapiedeekbfpnaaGreatDoor

/- The words of a line, in memory. -/
namespace Go.Proofs.YtapiedeekbfpnaaGreatDoor
open Go.RowKit Go.Shelf Go.Sort

/-- Words lie in a block. -/
def WdAt (w : World) (g : Nat) (ws : List (List UInt8)) : Prop := ∀ j, j < ws.length → w.cell? ⟨g, j, none⟩ = some (.string (bA (ws.getD j [])))
theorem WordsC (s : ByteArray) (W : World) (hs : s.size ≤ 100000) :
    Calls Tryz.prog 17 #[.string s] W fun e w' => ∃ g cap, e = .returned (.slice (some ⟨g, 0, none⟩) (wdL [] s.data.toList).length cap) ∧ Hid (WdAt w' g (wdL [] s.data.toList)) ∧ Hid (Below W.heap.size W w') := by
  refine (WordsOf_any s W hs).mono ?_
  rintro e w' ⟨v, rfl, h1, h2⟩
  have hne := wdL_ne s.data.toList []
  generalize wdL [] s.data.toList = ws at *
  have hl : ws.length ≠ 0 := fun e => hne (List.length_eq_zero_iff.1 e)
  rcases h1.2 with ⟨_, hz⟩ | ⟨g, cap, cur, rfl, _⟩
  · exact absurd hz hl
  · refine ⟨g, cap, rfl, fun j hj => ?_, h2⟩
    have := h1.cells rfl j (.string (bA (ws.getD j []))) (by unfold strs; rw [List.getElem?_map, List.getElem?_eq_getElem hj, List.getD_eq_getElem?_getD, List.getElem?_eq_getElem hj]; rfl)
    rwa [addr_add, Nat.zero_add] at this
theorem TxAt.get {w : World} {co : Option Addr} {ss : List ByteArray} (h : TxAt w co ss) {k : Nat} (hk : k < ss.length) : ∃ g o, co = some ⟨g, o, none⟩ ∧ g < w.heap.size ∧ w.cell? ⟨g, o + k, none⟩ = some (.string ss[k]) := by
  rcases h with h | ⟨g, o, e, hg, hc⟩
  · rw [h] at hk; simp at hk
  · exact ⟨g, o, e, hg, hc k hk⟩
theorem eqb (a b : List UInt8) : ((bA a).toList == b) = decide (a = b) := by
  rw [Lib.toList_data]
  show (a.toArray.toList == b) = _
  rw [Bool.eq_iff_iff, beq_iff_eq, decide_eq_true_iff]
end Go.Proofs.YtapiedeekbfpnaaGreatDoor

/- The document's digits of a number. -/
namespace Go.Proofs.YtapiedeekbfpnaaGreatDoor
open Go.RowKit Go.Shelf Go.Sort

theorem dig_len (n : Nat) (h : n ≤ 1000000) : (Lib.decDigits n).length ≤ 7 := dig_pow 6 n (by omega)
theorem bA_size (l : List UInt8) : (bA l).size = l.length := List.size_toArray
set_option maxHeartbeats 2000000 in
set_option maxRecDepth 100000 in
theorem digD1 (n : Nat) (hn : n < 10) (w : World) :
    Calls Tryz.prog 47 #[.int .i64 n] w fun e w' => e = .returned (.string (bA (Lib.decDigits n))) ∧ Below w.heap.size w w' := by
  have HD : Hid (bA (Lib.decDigits n) = ⟨#[UInt8.ofNat (48 + n)]⟩) := by unfold Hid; rw [Lib.decDigits, dif_pos hn]; rfl
  obtain ⟨m, hm⟩ : ∃ m, m = 48 + n := ⟨_, rfl⟩
  rw [← hm] at HD
  have hu : ((UInt8.ofNat m).toNat : Int) = (m : Int) := by
    have : (UInt8.ofNat m).toNat = m := by rw [UInt8.toNat_ofNat']; omega
    omega
  have hcv : (convert 82 9 (.slice (some ⟨w.heap.size, 0, none⟩) 1 1)).run Tryz.prog (w.alloc (.cells #[.int .u8 (m : Int)] 5)) = .ok (.string ⟨#[UInt8.ofNat m]⟩) (w.alloc (.cells #[.int .u8 (m : Int)] 5)) :=
    run_convert_bytes_back (w.alloc (.cells #[.int .u8 (m : Int)] 5)) 82 9 5 ⟨w.heap.size, 0, none⟩ 1 [UInt8.ofNat m] Tryz.underlying82 Tryz.underlying5 Tryz.underlying9 fun j hj => by
      have : j = 0 := by simp at hj; omega
      subst this
      show (w.alloc (.cells #[.int .u8 (m : Int)] 5)).cell? ⟨w.heap.size, 0, none⟩ = some (.int .u8 ((UInt8.ofNat m).toNat : Int))
      rw [hu, Lib.cell_of_heap (heap_alloc_new w _)]
      rfl
  have k1 : (n : Int) < 10 := by omega
  have k2 : (48 : Int) + (n : Int) = (m : Int) := by omega
  have k3 : IntKind.i64.wrap (m : Int) = (m : Int) := by rw [IntKind.wrap_i64]; omega
  have k4 : IntKind.u8.wrap (m : Int) = (m : Int) := by rw [IntKind.wrap_u8]; omega
  have HB : Hid (Below w.heap.size w (w.alloc (.cells #[.int .u8 (m : Int)] 5))) := (Below.refl _ w).alloc (Nat.le_refl _) _
  clear hm hn hu
  go_enter Tryz.func47, Tryz.ntmps47
  go_wp2
  go_ret
  exact ⟨by rw [HD.out]; rfl, HB.out⟩

set_option maxHeartbeats 2000000 in
set_option maxRecDepth 100000 in
theorem digD_step (n a b : Nat) (ha : a = n / 10) (hb : b = n % 10) (hn : 10 ≤ n) (hn2 : n ≤ 1000000) (w : World)
    (hA : ∀ W : World, Calls Tryz.prog 47 #[.int .i64 a] W fun e w' => e = .returned (.string (bA (Lib.decDigits a))) ∧ Below W.heap.size W w')
    (hB : ∀ W : World, Calls Tryz.prog 47 #[.int .i64 b] W fun e w' => e = .returned (.string (bA (Lib.decDigits b))) ∧ Below W.heap.size W w') :
    Calls Tryz.prog 47 #[.int .i64 n] w fun e w' => e = .returned (.string (bA (Lib.decDigits n))) ∧ Below w.heap.size w w' := by
  have HA : Hid (∀ W : World, Calls Tryz.prog 47 #[.int .i64 a] W fun e w' => e = .returned (.string (bA (Lib.decDigits a))) ∧ Below W.heap.size W w') := hA
  have HB : Hid (∀ W : World, Calls Tryz.prog 47 #[.int .i64 b] W fun e w' => e = .returned (.string (bA (Lib.decDigits b))) ∧ Below W.heap.size W w') := hB
  have hcat : Lib.decDigits a ++ Lib.decDigits b = Lib.decDigits n := by
    rw [Lib.decDigits.eq_def n, dif_neg (by omega), Lib.decDigits.eq_def b, dif_pos (by omega), ha, hb]
  have hc := catB (bA (Lib.decDigits a)) (bA (Lib.decDigits b)) (bA (Lib.decDigits n)) (by simpa [bA] using hcat) (by have := dig_len a (by omega); have := dig_len b (by omega); rw [bA_size, bA_size]; omega)
  have k1 : ¬ (n : Int) < 10 := by omega
  have k2 : (n : Int) / 10 = (a : Int) := by omega
  have k3 : (n : Int) % 10 = (b : Int) := by omega
  have k4 : (n : Int).tdiv 10 = (a : Int) := by rw [Int.tdiv_eq_ediv_of_nonneg (by omega)]; exact k2
  have k5 : (n : Int).tmod 10 = (b : Int) := by rw [Int.tmod_eq_emod_of_nonneg (by omega)]; exact k3
  have k6 : IntKind.i64.wrap (a : Int) = (a : Int) := by rw [IntKind.wrap_i64]; omega
  have k7 : IntKind.i64.wrap (b : Int) = (b : Int) := by rw [IntKind.wrap_i64]; omega
  clear hA hB hcat ha hb hn hn2
  generalize bA (Lib.decDigits a) = da at *
  generalize bA (Lib.decDigits b) = db at *
  generalize bA (Lib.decDigits n) = dn at *
  go_enter Tryz.func47, Tryz.ntmps47
  go_wp2_with fail
  refine (HA.out _).mono ?_
  rintro e w1 ⟨rfl, hb1⟩
  go_wp2_with fail
  refine (HB.out _).mono ?_
  rintro e w2 ⟨rfl, hb2⟩
  have HW : Hid (Below w.heap.size w w2) := hb1.trans (hb2.mono hb1.size)
  clear hb1 hb2
  go_wp2
  go_ret
  exact ⟨rfl, HW.out⟩

/-- The document's digits are the library's. -/
theorem DigitsOf_any (n : Nat) (hn : n ≤ 1000000) : ∀ w : World,
    Calls Tryz.prog 47 #[.int .i64 n] w fun e w' => e = .returned (.string (bA (Lib.decDigits n))) ∧ Below w.heap.size w w' := by
  induction n using Nat.strongRecOn with
  | _ n ih =>
    intro w
    by_cases h : n < 10
    · exact digD1 n h w
    · exact digD_step n _ _ rfl rfl (by omega) hn w (fun W => ih _ (by omega) (by omega) W) (fun W => digD1 _ (by omega) W)
end Go.Proofs.YtapiedeekbfpnaaGreatDoor

/- The document's 'reg': a register's number, from the word that names it. -/
namespace Go.Proofs.YtapiedeekbfpnaaGreatDoor
open Go.RowKit Go.Shelf Go.Sort

set_option maxHeartbeats 2000000 in
set_option maxRecDepth 100000 in
theorem reg_call (p g i n cap : Nat) (s : ByteArray) (r : Nat) (w : World) (hp : w.cell? ⟨p, 0, none⟩ = some (.slice (some ⟨g, 0, none⟩) n cap)) (hi : i < n)
    (hw : w.cell? ⟨g, i, none⟩ = some (.string s)) (hs : 0 < s.size) (hr : s[0].toNat = 97 + r) :
    Calls Tryz.prog 45 #[.int .i64 (i : Int), .pointer (some ⟨p, 0, none⟩)] w fun e w' => e = .returned (.int .i64 (r : Int)) ∧ w' = w := by
  have hi2 : (i : Int) < (n : Int) := by omega
  have hz : (0 : Int) < (s.size : Int) := by omega
  have hlt := s[0].toNat_lt
  have k1 : IntKind.i64.wrap (s[0].toNat : Int) = (s[0].toNat : Int) := by rw [IntKind.wrap_i64]; omega
  have k2 : (s[0].toNat : Int) - 97 = (r : Int) := by omega
  have k3 : IntKind.i64.wrap (r : Int) = (r : Int) := by rw [IntKind.wrap_i64]; omega
  clear hr hlt
  go_enter Tryz.func45, Tryz.ntmps45
  go_wp2
  go_ret
  exact ⟨by first | rfl | simp, rfl⟩
end Go.Proofs.YtapiedeekbfpnaaGreatDoor

/- CRC-32 of a list of bytes, as plain numbers, with its laws: no program is named here. -/
namespace Go.Proofs.YtapiedeekbfpnaaGreatDoor
open Go.RowKit

def sh1 (x : Nat) : Nat := if x % 2 = 1 then (x / 2) ^^^ 3988292384 else x / 2
/-- So many shifts. -/
def shN : Nat → Nat → Nat
  | 0, x => x
  | n + 1, x => sh1 (shN n x)
def crcB (x : Nat) (b : UInt8) : Nat := shN 8 (x ^^^ b.toNat)
/-- The number behind these bytes. -/
def crcS (x : Nat) (l : List UInt8) : Nat := l.foldl crcB x
def crc (l : List UInt8) : Nat := 4294967295 - crcS 4294967295 l

theorem sh1_lt (x : Nat) (h : x < 2 ^ 32) : sh1 x < 2 ^ 32 := by
  unfold sh1
  split
  · exact Nat.xor_lt_two_pow (by omega) (by decide)
  · omega
theorem shN_lt (n x : Nat) (h : x < 2 ^ 32) : shN n x < 2 ^ 32 := by
  induction n with
  | zero => exact h
  | succ n ih => exact sh1_lt _ ih
theorem byte_lt (b : UInt8) : b.toNat < 2 ^ 32 := Nat.lt_trans b.toNat_lt (by decide)
theorem crcB_lt (x : Nat) (b : UInt8) (h : x < 2 ^ 32) : crcB x b < 2 ^ 32 := shN_lt _ _ (Nat.xor_lt_two_pow h (byte_lt b))
theorem crcS_lt (l : List UInt8) : ∀ x : Nat, x < 2 ^ 32 → crcS x l < 2 ^ 32 := by
  induction l with
  | nil => exact fun x h => h
  | cons b l ih => exact fun x h => ih _ (crcB_lt x b h)
theorem xor_half (x y : Nat) : (x ^^^ y) / 2 = (x / 2) ^^^ (y / 2) := by
  have := Nat.shiftRight_xor_distrib (a := x) (b := y) (i := 1)
  simpa [Nat.shiftRight_succ] using this
theorem xor_low (x y : Nat) : (x ^^^ y) % 2 = (x % 2 + y % 2) % 2 := by
  have h := Nat.xor_mod_two_pow (a := x) (b := y) (n := 1)
  simp only [Nat.pow_one] at h
  rw [h]
  rcases Nat.mod_two_eq_zero_or_one x with hx | hx <;> rcases Nat.mod_two_eq_zero_or_one y with hy | hy <;> rw [hx, hy] <;> rfl
theorem sh1_eq (x : Nat) : sh1 x = (x / 2) ^^^ (x % 2 * 3988292384) := by
  unfold sh1
  rcases Nat.mod_two_eq_zero_or_one x with hx | hx <;> simp [hx]
theorem sh1_xor (x y : Nat) : sh1 (x ^^^ y) = sh1 x ^^^ sh1 y := by
  have e : (x % 2 + y % 2) % 2 * 3988292384 = (x % 2 * 3988292384) ^^^ (y % 2 * 3988292384) := by
    rcases Nat.mod_two_eq_zero_or_one x with hx | hx <;> rcases Nat.mod_two_eq_zero_or_one y with hy | hy <;> simp [hx, hy]
  rw [sh1_eq, sh1_eq, sh1_eq, xor_half, xor_low, e]
  ac_rfl
theorem shN_xor (n x y : Nat) : shN n (x ^^^ y) = shN n x ^^^ shN n y := by
  induction n with
  | zero => rfl
  | succ n ih => simp only [shN]; rw [ih, sh1_xor]
theorem shN_high (n h m : Nat) : shN n (2 ^ (n + m) * h) = 2 ^ m * h := by
  induction n generalizing m with
  | zero => simp [shN]
  | succ n ih =>
    have := ih (m + 1)
    rw [show n + 1 + m = n + (m + 1) from by omega]
    simp only [shN, this]
    unfold sh1
    rw [if_neg (by rw [Nat.pow_succ, Nat.mul_right_comm, Nat.mul_mod_left]; decide), Nat.pow_succ, Nat.mul_right_comm, Nat.mul_div_cancel _ (by decide)]
/-- Of eight shifts the lowest byte alone decides what is xor-ed in. -/
theorem crcB_table (x : Nat) (b : UInt8) : crcB x b = (x / 256) ^^^ shN 8 ((x % 256) ^^^ b.toNat) := by
  have e : x = (2 ^ 8 * (x / 256)) ^^^ (x % 256) := by
    have h := Nat.two_pow_add_eq_or_of_lt (i := 8) (b := x % 256) (by omega) (x / 256)
    have h2 : (2 ^ 8 * (x / 256)) ^^^ (x % 256) = (2 ^ 8 * (x / 256)) ||| (x % 256) := by
      apply Nat.eq_of_testBit_eq
      intro i
      rw [Nat.testBit_xor, Nat.testBit_or]
      by_cases hi : i < 8
      · rw [Nat.testBit_two_pow_mul]; simp [Nat.not_le.2 hi]
      · rw [Nat.testBit_lt_two_pow (x := x % 256) (i := i) (Nat.lt_of_lt_of_le (show x % 256 < 2 ^ 8 from Nat.mod_lt _ (by decide)) (Nat.pow_le_pow_right (n := 2) (by decide) (show 8 ≤ i by omega)))]; simp
    rw [h2, ← h]
    omega
  have h8 := shN_high 8 (x / 256) 0
  simp only [Nat.add_zero, Nat.pow_zero, Nat.one_mul] at h8
  unfold crcB
  conv => lhs; rw [e]
  rw [Nat.xor_assoc, shN_xor, h8]

theorem top_bit (x : Nat) (h : x < 2 ^ 32) : (sh1 x).testBit 31 = decide (x % 2 = 1) := by
  have h2 : (x / 2).testBit 31 = false := Nat.testBit_lt_two_pow (by omega)
  unfold sh1
  split
  · rename_i h1
    rw [Nat.testBit_xor, h2, h1]
    decide
  · rename_i h1
    rw [h2]
    simp [h1]
theorem xor_cancel (a b c : Nat) (h : a ^^^ c = b ^^^ c) : a = b := by
  have := congrArg (· ^^^ c) h
  simpa [Nat.xor_assoc] using this
theorem sh1_inj (x y : Nat) (hx : x < 2 ^ 32) (hy : y < 2 ^ 32) (h : sh1 x = sh1 y) : x = y := by
  have ht := top_bit x hx
  rw [h, top_bit y hy] at ht
  have hb : x % 2 = y % 2 := by
    rcases Nat.mod_two_eq_zero_or_one x with h1 | h1 <;> rcases Nat.mod_two_eq_zero_or_one y with h2 | h2 <;> rw [h1, h2] at ht <;> first | omega | (simp at ht)
  rw [sh1_eq, sh1_eq, hb] at h
  have := xor_cancel _ _ _ h
  omega
theorem shN_inj (n : Nat) : ∀ x y : Nat, x < 2 ^ 32 → y < 2 ^ 32 → shN n x = shN n y → x = y := by
  induction n with
  | zero => exact fun x y _ _ h => h
  | succ n ih => exact fun x y hx hy h => ih x y hx hy (sh1_inj _ _ (shN_lt n x hx) (shN_lt n y hy) h)
theorem crcB_inj (x y : Nat) (b : UInt8) (hx : x < 2 ^ 32) (hy : y < 2 ^ 32) (h : crcB x b = crcB y b) : x = y :=
  xor_cancel _ _ _ (shN_inj 8 _ _ (Nat.xor_lt_two_pow hx (byte_lt b)) (Nat.xor_lt_two_pow hy (byte_lt b)) h)
theorem crcS_inj (l : List UInt8) : ∀ x y : Nat, x < 2 ^ 32 → y < 2 ^ 32 → crcS x l = crcS y l → x = y := by
  induction l with
  | nil => exact fun x y _ _ h => h
  | cons b l ih => exact fun x y hx hy h => crcB_inj x y b hx hy (ih _ _ (crcB_lt x b hx) (crcB_lt y b hy) h)
theorem crcB_byte (x : Nat) (b c : UInt8) (hx : x < 2 ^ 32) (h : crcB x b = crcB x c) : b = c := by
  have := shN_inj 8 _ _ (Nat.xor_lt_two_pow hx (byte_lt b)) (Nat.xor_lt_two_pow hx (byte_lt c)) h
  rw [Nat.xor_comm x, Nat.xor_comm x] at this
  exact UInt8.toNat.inj (xor_cancel _ _ _ this)
theorem crcS_append (x : Nat) (l m : List UInt8) : crcS x (l ++ m) = crcS (crcS x l) m := List.foldl_append ..
/-- A text in which one byte is another one has another check. -/
theorem crc_change (l m : List UInt8) (b c : UInt8) (hbc : b ≠ c) : crc (l ++ b :: m) ≠ crc (l ++ c :: m) := by
  intro h
  have h0 : (4294967295 : Nat) < 2 ^ 32 := by decide
  have h1 := crcS_lt (l ++ b :: m) 4294967295 h0
  have h2 := crcS_lt (l ++ c :: m) 4294967295 h0
  have he : crcS 4294967295 (l ++ b :: m) = crcS 4294967295 (l ++ c :: m) := by unfold crc at h; omega
  rw [crcS_append, crcS_append] at he
  have hl := crcS_lt l 4294967295 h0
  exact hbc (crcB_byte _ b c hl (crcS_inj m _ _ (crcB_lt _ b hl) (crcB_lt _ c hl) he))
theorem crc_lt (l : List UInt8) : crc l < 2 ^ 32 := by unfold crc; omega
theorem crcS_snoc (x : Nat) (l : List UInt8) (b : UInt8) : crcS x (l ++ [b]) = crcB (crcS x l) b := by rw [crcS_append]; rfl

theorem wraps_u32 (n : Int) (h₀ : 0 ≤ n) (h₁ : n < 2 ^ 32) : IntKind.u32.wrap n = n := by rw [IntKind.wrap_u32]; omega
theorem xor_u32 (a b : Nat) (ha : a < 2 ^ 32) (hb : b < 2 ^ 32) : bits .xor .u32 (a : Int) (b : Int) = ((a ^^^ b : Nat) : Int) := by
  have ha' : a % 2 ^ 32 = a := Nat.mod_eq_of_lt ha
  have hb' : b % 2 ^ 32 = b := Nat.mod_eq_of_lt hb
  show IntKind.u32.wrap (((BitVec.ofInt 32 (a : Int)) ^^^ (BitVec.ofInt 32 (b : Int))).toNat : Int) = _
  rw [BitVec.ofInt_natCast, BitVec.ofInt_natCast, BitVec.toNat_xor, BitVec.toNat_ofNat, BitVec.toNat_ofNat, ha', hb']
  exact wraps_u32 _ (Int.natCast_nonneg _) (by exact_mod_cast Nat.xor_lt_two_pow ha hb)
theorem xor_u8 (a b : Nat) (ha : a < 2 ^ 8) (hb : b < 2 ^ 8) : bits .xor .u8 (a : Int) (b : Int) = ((a ^^^ b : Nat) : Int) := by
  have ha' : a % 2 ^ 8 = a := Nat.mod_eq_of_lt ha
  have hb' : b % 2 ^ 8 = b := Nat.mod_eq_of_lt hb
  show IntKind.u8.wrap (((BitVec.ofInt 8 (a : Int)) ^^^ (BitVec.ofInt 8 (b : Int))).toNat : Int) = _
  rw [BitVec.ofInt_natCast, BitVec.ofInt_natCast, BitVec.toNat_xor, BitVec.toNat_ofNat, BitVec.toNat_ofNat, ha', hb']
  exact wraps_u8 _ (Int.natCast_nonneg _) (by exact_mod_cast Nat.xor_lt_two_pow ha hb)
theorem and1_u32 (a : Nat) (ha : a < 2 ^ 32) : bits .and .u32 (a : Int) 1 = ((a % 2 : Nat) : Int) := by
  have := (bits_nat .u32 32 (by decide) wraps_u32 a 1 ha (by decide)).1
  rw [Nat.and_one_is_mod] at this
  exact this
theorem not_u32 (a : Nat) (ha : a < 2 ^ 32) : bits .xor .u32 4294967295 (a : Int) = ((4294967295 - a : Nat) : Int) := by
  have := xor_u32 4294967295 a (by decide) ha
  rw [show ((4294967295 : Nat) : Int) = 4294967295 from rfl] at this
  rw [this]
  congr 1
  have h := BitVec.toNat_not (x := BitVec.ofNat 32 a)
  have h2 : (~~~ (BitVec.ofNat 32 a)) = BitVec.allOnes 32 ^^^ BitVec.ofNat 32 a := BitVec.not_def
  rw [h2, BitVec.toNat_xor, BitVec.toNat_ofNat, Nat.mod_eq_of_lt ha] at h
  simpa using h
end Go.Proofs.YtapiedeekbfpnaaGreatDoor

/- The document's own Bits, Xor and And: what they answer of numbers of 32 bits. -/
namespace Go.Proofs.YtapiedeekbfpnaaGreatDoor
open Go.RowKit

theorem low_step (x i : Nat) : x % 2 ^ (i + 1) = x % 2 ^ i + 2 ^ i * (x / 2 ^ i % 2) := Nat.mod_pow_succ
theorem xor_bit (a b i : Nat) : (a ^^^ b) / 2 ^ i % 2 = (a / 2 ^ i % 2 + b / 2 ^ i % 2) % 2 := by
  have := Nat.shiftRight_xor_distrib (a := a) (b := b) (i := i)
  rw [Nat.shiftRight_eq_div_pow, Nat.shiftRight_eq_div_pow, Nat.shiftRight_eq_div_pow] at this
  rw [this, xor_low]
theorem and_bit (a b i : Nat) : (a &&& b) / 2 ^ i % 2 = (a / 2 ^ i % 2) * (b / 2 ^ i % 2) := by
  have := Nat.shiftRight_and_distrib (a := a) (b := b) (i := i)
  rw [Nat.shiftRight_eq_div_pow, Nat.shiftRight_eq_div_pow, Nat.shiftRight_eq_div_pow] at this
  rw [this]
  have h := Nat.and_mod_two_pow (a := a / 2 ^ i) (b := b / 2 ^ i) (n := 1)
  simp only [Nat.pow_one] at h
  rw [h]
  rcases Nat.mod_two_eq_zero_or_one (a / 2 ^ i) with hx | hx <;> rcases Nat.mod_two_eq_zero_or_one (b / 2 ^ i) with hy | hy <;> rw [hx, hy] <;> rfl

set_option maxHeartbeats 1000000 in
theorem xor1_any (x y : Nat) (w : World) (hx : x < 2) (hy : y < 2) :
    Calls Tryz.prog 128 #[.int .i64 x, .int .i64 y] w fun e w' => e = .returned (.int .i64 (((x + y) % 2 : Nat) : Int)) ∧ w' = w := by
  have h1 : (x : Int) < 2 := by omega
  have h2 : (y : Int) < 2 := by omega
  go_enter Tryz.func128, Tryz.ntmps128
  go_wp2
  go_ret
  exact ⟨by simp, rfl⟩

set_option maxHeartbeats 1000000 in
theorem and1_any (x y : Nat) (w : World) (hx : x < 2) (hy : y < 2) :
    Calls Tryz.prog 129 #[.int .i64 x, .int .i64 y] w fun e w' => e = .returned (.int .i64 ((x * y : Nat) : Int)) ∧ w' = w := by
  have h1 : (x : Int) < 2 := by omega
  have h2 : (y : Int) < 2 := by omega
  have h3 : ((x * y : Nat) : Int) = (x : Int) * (y : Int) := by push_cast; rfl
  have h4 : IntKind.i64.wrap ((x : Int) * (y : Int)) = (x : Int) * (y : Int) := by
    have : x * y ≤ 1 * 1 := Nat.mul_le_mul (by omega) (by omega)
    rw [← h3, IntKind.wrap_i64]
    omega
  rw [h3]
  go_enter Tryz.func129, Tryz.ntmps129
  go_wp2
  go_ret
  exact ⟨by simp, rfl⟩

theorem pow32 (k : Nat) (hk : k ≤ 32) : 2 ^ k ≤ 4294967296 := Nat.pow_le_pow_right (n := 2) (by decide) hk

set_option maxHeartbeats 2000000 in
set_option maxRecDepth 100000 in
theorem bits_xor (a b : Nat) (w : World) (ha : a < 2 ^ 32) (hb : b < 2 ^ 32) :
    Calls Tryz.prog 127 #[.int .i64 a, .int .i64 b, .func (.func 128) #[] #[]] w fun e w' => e = .returned (.int .i64 ((a ^^^ b : Nat) : Int)) ∧ w' = w := by
  have HR : Hid (a ^^^ b < 2 ^ 32) := Nat.xor_lt_two_pow ha hb
  have HA : Hid (a < 2 ^ 32) := ha
  have HB : Hid (b < 2 ^ 32) := hb
  clear ha hb
  go_enter Tryz.func127, Tryz.ntmps127
  go_wp2
  go_loop [0, 1, 7, 8, 9] (fun va vb vn vt i => ∃ k : Nat, k ≤ 32 ∧ va = .int .i64 (a / 2 ^ k : Nat) ∧ vb = .int .i64 (b / 2 ^ k : Nat) ∧ vn = .int .i64 ((a ^^^ b) % 2 ^ k : Nat) ∧ vt = .int .i64 (2 ^ k : Nat) ∧ i = .int .i64 k) (fun _ _ _ _ i => 32 - (intOf i).toNat)
  case atStart => exact ⟨0, by omega, by simp, by simp, by simp [Nat.mod_one], by simp, rfl⟩
  case round =>
    obtain ⟨k, hk, rfl, rfl, rfl, rfl, rfl⟩ := hrel
    by_cases hlt : k < 32
    · have i2 : (k : Int) < 32 := by omega
      have HS : Hid ((a ^^^ b) % 2 ^ (k + 1) = (a ^^^ b) % 2 ^ k + 2 ^ k * ((a / 2 ^ k % 2 + b / 2 ^ k % 2) % 2) ∧ a / 2 ^ (k + 1) = a / 2 ^ k / 2 ∧ b / 2 ^ (k + 1) = b / 2 ^ k / 2 ∧ 2 ^ (k + 1) = 2 * 2 ^ k) :=
        ⟨by rw [low_step, xor_bit], by rw [Nat.pow_succ, Nat.div_div_eq_div_mul], by rw [Nat.pow_succ, Nat.div_div_eq_div_mul], by rw [Nat.pow_succ, Nat.mul_comm]⟩
      have p1 : a / 2 ^ k < 4294967296 := Nat.lt_of_le_of_lt (Nat.div_le_self _ _) HA.out
      have p2 : b / 2 ^ k < 4294967296 := Nat.lt_of_le_of_lt (Nat.div_le_self _ _) HB.out
      have p3 : (a ^^^ b) % 2 ^ k < 4294967296 := Nat.lt_of_le_of_lt (Nat.mod_le _ _) HR.out
      have p4 := pow32 k hk
      generalize a / 2 ^ k = x at p1 HS
      generalize b / 2 ^ k = y at p2 HS
      generalize (a ^^^ b) % 2 ^ k = n at p3 HS
      generalize 2 ^ k = q at p4 HS
      have hx : (x : Int) % 2 = ((x % 2 : Nat) : Int) := by omega
      have hy : (y : Int) % 2 = ((y % 2 : Nat) : Int) := by omega
      obtain ⟨u, hu⟩ : ∃ u, u = x % 2 := ⟨_, rfl⟩
      obtain ⟨v, hv⟩ : ∃ v, v = y % 2 := ⟨_, rfl⟩
      rw [← hu] at hx
      rw [← hv] at hy
      obtain ⟨t, htt⟩ : ∃ t, t = (u + v) % 2 := ⟨_, rfl⟩
      have HF : Hid (∀ w, Calls Tryz.prog 128 #[.int .i64 u, .int .i64 v] w fun e w' => e = .returned (.int .i64 (t : Int)) ∧ w' = w) := fun w => by rw [htt]; exact xor1_any u v w (by omega) (by omega)
      have ht1 : t ≤ 1 := by omega
      have hqt : q * t ≤ 4294967296 := Nat.le_trans (Nat.mul_le_mul_left q ht1) (by omega)
      have m0 : (q : Int) * (t : Int) = ((q * t : Nat) : Int) := by push_cast; rfl
      have HV : Hid (t = (x % 2 + y % 2) % 2) := by show _ = _; rw [htt, hu, hv]
      clear hu hv htt
      generalize hz : q * t = z at hqt m0
      have HZ : Hid (q * t = z) := hz
      clear hz
      go_wp2_with (go_at_call 128; refine (HF.out _).mono ?_; rintro e w' ⟨rfl, rfl⟩)
      refine ⟨⟨k + 1, by omega, ?_, ?_, ?_, ?_, by go_num⟩, by simp [intOf]; omega⟩
      · rw [HS.out.2.1]; go_num
      · rw [HS.out.2.2.1]; go_num
      · rw [HS.out.1, ← HV.out, HZ.out]; go_num
      · rw [HS.out.2.2.2]; go_num
    · obtain rfl : k = 32 := by omega
      have HM : Hid ((a ^^^ b) % 2 ^ 32 = a ^^^ b) := Nat.mod_eq_of_lt HR.out
      generalize (a ^^^ b) % 2 ^ 32 = n at HM
      generalize a / 2 ^ 32 = x
      generalize b / 2 ^ 32 = y
      generalize 2 ^ 32 = q
      go_wp2
      go_ret
      exact ⟨by rw [← HM.out]; rfl, rfl⟩

set_option maxHeartbeats 2000000 in
set_option maxRecDepth 100000 in
theorem bits_and (a b : Nat) (w : World) (ha : a < 2 ^ 32) (hb : b < 2 ^ 32) :
    Calls Tryz.prog 127 #[.int .i64 a, .int .i64 b, .func (.func 129) #[] #[]] w fun e w' => e = .returned (.int .i64 ((a &&& b : Nat) : Int)) ∧ w' = w := by
  have HR : Hid (a &&& b < 2 ^ 32) := Nat.and_lt_two_pow _ hb
  have HA : Hid (a < 2 ^ 32) := ha
  have HB : Hid (b < 2 ^ 32) := hb
  clear ha hb
  go_enter Tryz.func127, Tryz.ntmps127
  go_wp2
  go_loop [0, 1, 7, 8, 9] (fun va vb vn vt i => ∃ k : Nat, k ≤ 32 ∧ va = .int .i64 (a / 2 ^ k : Nat) ∧ vb = .int .i64 (b / 2 ^ k : Nat) ∧ vn = .int .i64 ((a &&& b) % 2 ^ k : Nat) ∧ vt = .int .i64 (2 ^ k : Nat) ∧ i = .int .i64 k) (fun _ _ _ _ i => 32 - (intOf i).toNat)
  case atStart => exact ⟨0, by omega, by simp, by simp, by simp [Nat.mod_one], by simp, rfl⟩
  case round =>
    obtain ⟨k, hk, rfl, rfl, rfl, rfl, rfl⟩ := hrel
    by_cases hlt : k < 32
    · have i2 : (k : Int) < 32 := by omega
      have HS : Hid ((a &&& b) % 2 ^ (k + 1) = (a &&& b) % 2 ^ k + 2 ^ k * ((a / 2 ^ k % 2) * (b / 2 ^ k % 2)) ∧ a / 2 ^ (k + 1) = a / 2 ^ k / 2 ∧ b / 2 ^ (k + 1) = b / 2 ^ k / 2 ∧ 2 ^ (k + 1) = 2 * 2 ^ k) :=
        ⟨by rw [low_step, and_bit], by rw [Nat.pow_succ, Nat.div_div_eq_div_mul], by rw [Nat.pow_succ, Nat.div_div_eq_div_mul], by rw [Nat.pow_succ, Nat.mul_comm]⟩
      have p1 : a / 2 ^ k < 4294967296 := Nat.lt_of_le_of_lt (Nat.div_le_self _ _) HA.out
      have p2 : b / 2 ^ k < 4294967296 := Nat.lt_of_le_of_lt (Nat.div_le_self _ _) HB.out
      have p3 : (a &&& b) % 2 ^ k < 4294967296 := Nat.lt_of_le_of_lt (Nat.mod_le _ _) HR.out
      have p4 := pow32 k hk
      generalize a / 2 ^ k = x at p1 HS
      generalize b / 2 ^ k = y at p2 HS
      generalize (a &&& b) % 2 ^ k = n at p3 HS
      generalize 2 ^ k = q at p4 HS
      have hx : (x : Int) % 2 = ((x % 2 : Nat) : Int) := by omega
      have hy : (y : Int) % 2 = ((y % 2 : Nat) : Int) := by omega
      obtain ⟨u, hu⟩ : ∃ u, u = x % 2 := ⟨_, rfl⟩
      obtain ⟨v, hv⟩ : ∃ v, v = y % 2 := ⟨_, rfl⟩
      rw [← hu] at hx
      rw [← hv] at hy
      obtain ⟨t, htt⟩ : ∃ t, t = u * v := ⟨_, rfl⟩
      have HF : Hid (∀ w, Calls Tryz.prog 129 #[.int .i64 u, .int .i64 v] w fun e w' => e = .returned (.int .i64 (t : Int)) ∧ w' = w) := fun w => by rw [htt]; exact and1_any u v w (by omega) (by omega)
      have ht1 : t ≤ 1 := by
        have : u * v ≤ 1 * 1 := Nat.mul_le_mul (by omega) (by omega)
        omega
      have hqt : q * t ≤ 4294967296 := Nat.le_trans (Nat.mul_le_mul_left q ht1) (by omega)
      have m0 : (q : Int) * (t : Int) = ((q * t : Nat) : Int) := by push_cast; rfl
      have HV : Hid (t = (x % 2) * (y % 2)) := by show _ = _; rw [htt, hu, hv]
      clear hu hv htt
      generalize hz : q * t = z at hqt m0
      have HZ : Hid (q * t = z) := hz
      clear hz
      go_wp2_with (go_at_call 129; refine (HF.out _).mono ?_; rintro e w' ⟨rfl, rfl⟩)
      refine ⟨⟨k + 1, by omega, ?_, ?_, ?_, ?_, by go_num⟩, by simp [intOf]; omega⟩
      · rw [HS.out.2.1]; go_num
      · rw [HS.out.2.2.1]; go_num
      · rw [HS.out.1, ← HV.out, HZ.out]; go_num
      · rw [HS.out.2.2.2]; go_num
    · obtain rfl : k = 32 := by omega
      have HM : Hid ((a &&& b) % 2 ^ 32 = a &&& b) := Nat.mod_eq_of_lt HR.out
      generalize (a &&& b) % 2 ^ 32 = n at HM
      generalize a / 2 ^ 32 = x
      generalize b / 2 ^ 32 = y
      generalize 2 ^ 32 = q
      go_wp2
      go_ret
      exact ⟨by rw [← HM.out]; rfl, rfl⟩

/-- All of them, xor-ed. -/
def xors (l : List Nat) : Nat := l.foldl (· ^^^ ·) 0
theorem xors_lt (l : List Nat) (h : ∀ x ∈ l, x < 2 ^ 32) : xors l < 2 ^ 32 := by
  suffices ∀ (l : List Nat) (n : Nat), n < 2 ^ 32 → (∀ x ∈ l, x < 2 ^ 32) → l.foldl (· ^^^ ·) n < 2 ^ 32 from this l 0 (by decide) h
  intro l
  induction l with
  | nil => exact fun n hn _ => hn
  | cons x l ih => exact fun n hn hx => ih _ (Nat.xor_lt_two_pow hn (hx x (List.mem_cons_self ..))) fun y hy => hx y (List.mem_cons_of_mem _ hy)

set_option maxHeartbeats 2000000 in
set_option maxRecDepth 100000 in
theorem Xor_any (g cap : Nat) (l : List Nat) (w : World) (hl : l.length ≤ 1000) (h32 : ∀ x ∈ l, x < 2 ^ 32) (hc : ∀ j (hj : j < l.length), w.cell? ⟨g, j, none⟩ = some (.int .i64 (l[j] : Int))) :
    Calls Tryz.prog 101 #[.slice (some ⟨g, 0, none⟩) l.length cap] w fun e w' => e = .returned (.int .i64 (xors l : Nat)) ∧ w' = w := by
  have HC : Hid (∀ j (hj : j < l.length), w.cell? ⟨g, j, none⟩ = some (.int .i64 (l[j] : Int))) := hc
  have H32 : Hid (∀ x ∈ l, x < 2 ^ 32) := h32
  have hl1 : (l.length : Int) ≤ 1000 := by omega
  clear hc h32
  go_enter Tryz.func101, Tryz.ntmps101
  go_wp2
  go_loop [3, 4] (fun v i => ∃ k : Nat, k ≤ l.length ∧ v = .int .i64 (xors (l.take k) : Nat) ∧ i = .int .i64 k) (fun _ i => l.length - (intOf i).toNat)
  case atStart => exact ⟨0, Nat.zero_le _, rfl, rfl⟩
  case round =>
    obtain ⟨k, hk, rfl, rfl⟩ := hrel
    by_cases hlt : k < l.length
    · have c1 := HC.out k hlt
      have HS : Hid (xors (l.take (k + 1)) = xors (l.take k) ^^^ l[k]) := by
        show _ = _
        rw [List.take_succ_eq_append_getElem hlt, xors, List.foldl_append]
        rfl
      have HX : Hid (∀ w, Calls Tryz.prog 127 #[.int .i64 (xors (l.take k) : Nat), .int .i64 (l[k] : Nat), .func (.func 128) #[] #[]] w fun e w' => e = .returned (.int .i64 ((xors (l.take k) ^^^ l[k] : Nat) : Int)) ∧ w' = w) :=
        fun w => bits_xor _ _ w (xors_lt _ fun x hx => H32.out x (List.mem_of_mem_take hx)) (H32.out _ (List.getElem_mem hlt))
      generalize xors (l.take k) ^^^ l[k] = z at HS HX
      generalize xors (l.take k) = n at HX
      generalize l[k] = x at c1 HX
      go_wp2_with (go_at_call 127; refine (HX.out _).mono ?_; rintro e w' ⟨rfl, rfl⟩)
      refine ⟨⟨k + 1, by omega, ?_, by go_num⟩, by simp [intOf]; omega⟩
      rw [HS.out]
    · have HK : Hid (xors l = xors (l.take k)) := by show _ = _; rw [List.take_of_length_le (by omega)]
      generalize xors (l.take k) = n at HK
      go_wp2
      go_ret
      exact ⟨by rw [HK.out]; rfl, rfl⟩

set_option maxHeartbeats 1000000 in
set_option maxRecDepth 100000 in
theorem Pow2_any (n : Nat) (w : World) (hn : n ≤ 60) :
    Calls Tryz.prog 98 #[.int .i64 n] w fun e w' => e = .returned (.int .i64 ((2 ^ n : Nat) : Int)) ∧ w' = w := by
  obtain ⟨r, hr⟩ : ∃ r : Nat, 2 ^ n = r := ⟨_, rfl⟩
  rw [hr]
  have HR : Hid (2 ^ n = r) := hr
  clear hr
  go_enter Tryz.func98, Tryz.ntmps98
  go_wp2
  go_loop [0, 3] (fun i v => ∃ k : Nat, k ≤ n ∧ i = .int .i64 ((n - k : Nat) : Int) ∧ v = .int .i64 ((2 ^ k : Nat) : Int)) (fun i _ => (intOf i).toNat)
  case atStart => exact ⟨0, Nat.zero_le _, rfl, rfl⟩
  case round =>
    obtain ⟨k, hk, rfl, rfl⟩ := hrel
    have hp : 2 ^ k ≤ 2 ^ 60 := Nat.pow_le_pow_right (by decide) (by omega)
    have HS : Hid (2 ^ (k + 1) = 2 * 2 ^ k) := by show _ = _; rw [Nat.pow_succ, Nat.mul_comm]
    by_cases hlt : k < n
    · obtain ⟨d, hd⟩ : ∃ d, n - k = d + 1 := ⟨n - k - 1, by omega⟩
      have HD : Hid (n - (k + 1) = d) := by show _ = _; omega
      rw [hd]
      generalize 2 ^ k = p at hp HS
      have hpi : (p : Int) ≤ 1152921504606846976 := by omega
      have hdi : (d : Int) ≤ 60 := by omega
      clear hp hd
      go_wp2
      refine ⟨⟨k + 1, by omega, ?_, ?_⟩, by simp [intOf]⟩
      · rw [HD.out]
      · rw [HS.out]; go_num
    · have HE : Hid (r = 2 ^ k) := by show _ = _; rw [← HR.out, show n = k by omega]
      have hz : n - k = 0 := by omega
      rw [hz]
      generalize 2 ^ k = p at HE
      go_wp2
      go_ret
      exact ⟨by rw [HE.out]; rfl, rfl⟩
end Go.Proofs.YtapiedeekbfpnaaGreatDoor

/- The document's own Wrap, And and Right, of numbers of 32 bits. -/
namespace Go.Proofs.YtapiedeekbfpnaaGreatDoor
open Go.RowKit

set_option maxHeartbeats 1000000 in
set_option maxRecDepth 100000 in
theorem Wrap_any (n : Nat) (w : World) :
    Calls Tryz.prog 103 #[.int .i64 n] w fun e w' => e = .returned (.int .i64 ((n % 4294967296 : Nat) : Int)) ∧ w' = w := by
  obtain ⟨r, hr⟩ : ∃ r, n % 4294967296 = r := ⟨_, rfl⟩
  rw [hr]
  have h1 : (n : Int) % 4294967296 = (r : Int) := by omega
  clear hr
  go_enter Tryz.func103, Tryz.ntmps103
  go_wp2
  go_ret
  exact ⟨by simp; exact h1, rfl⟩

set_option maxHeartbeats 1000000 in
theorem And_any (a b : Nat) (w : World) (ha : a < 2 ^ 32) (hb : b < 2 ^ 32) :
    Calls Tryz.prog 104 #[.int .i64 a, .int .i64 b] w fun e w' => e = .returned (.int .i64 ((a &&& b : Nat) : Int)) ∧ w' = w := by
  have HB : Hid (Calls Tryz.prog 127 #[.int .i64 a, .int .i64 b, .func (.func 129) #[] #[]] w fun e w' => e = .returned (.int .i64 ((a &&& b : Nat) : Int)) ∧ w' = w) := bits_and a b w ha hb
  generalize a &&& b = r at HB
  clear ha hb
  go_enter Tryz.func104, Tryz.ntmps104
  go_wp2_with fail
  refine HB.out.mono ?_
  rintro e w' ⟨rfl, rfl⟩
  go_wp2
  go_ret
  exact ⟨rfl, rfl⟩

/-- A number of 32 bits, turned right. -/
def rightN (x n : Nat) : Nat := x / 2 ^ n + x % 2 ^ n * 2 ^ (32 - n)
theorem wr62 (n : Nat) (h : n < 4294967296) : IntKind.i64.wrap (n : Int) = (n : Int) := by rw [IntKind.wrap_i64]; omega
theorem wr63 (n : Nat) (h : n < 4294967296) : wrap64 (n : Int) = (n : Int) := by unfold wrap64; omega
theorem tdivN (a b : Nat) : (a : Int).tdiv (b : Int) = ((a / b : Nat) : Int) := rfl
theorem tmodN (a b : Nat) : (a : Int).tmod (b : Int) = ((a % b : Nat) : Int) := rfl
theorem right_lt (x n : Nat) (hx : x < 2 ^ 32) (h2 : n ≤ 31) : x % 2 ^ n * 2 ^ (32 - n) < 2 ^ 32 ∧ rightN x n < 2 ^ 32 := by
  have h1 : x % 2 ^ n < 2 ^ n := Nat.mod_lt _ (Nat.two_pow_pos n)
  have h3 : 2 ^ n * 2 ^ (32 - n) = 2 ^ 32 := by rw [← Nat.pow_add]; congr 1; omega
  have h4 : x % 2 ^ n * 2 ^ (32 - n) ≤ (2 ^ n - 1) * 2 ^ (32 - n) := Nat.mul_le_mul_right _ (by omega)
  have h5 : (2 ^ n - 1) * 2 ^ (32 - n) = 2 ^ 32 - 2 ^ (32 - n) := by rw [Nat.sub_mul, h3, Nat.one_mul]
  have h6 : x / 2 ^ n < 2 ^ (32 - n) := by rw [Nat.div_lt_iff_lt_mul (Nat.two_pow_pos n), Nat.mul_comm, h3]; exact hx
  have h7 := Nat.two_pow_pos (32 - n)
  have h8 : 2 ^ (32 - n) ≤ 2 ^ 32 := Nat.pow_le_pow_right (by decide) (by omega)
  unfold rightN
  omega

set_option maxHeartbeats 4000000 in
set_option maxRecDepth 100000 in
theorem Right_any (x n : Nat) (w : World) (hx : x < 2 ^ 32) (h1 : 1 ≤ n) (h2 : n ≤ 31) :
    Calls Tryz.prog 102 #[.int .i64 x, .int .i64 n] w fun e w' => e = .returned (.int .i64 (rightN x n : Nat)) ∧ ∃ m, w' = w.drewN m := by
  obtain ⟨hl1, hl2⟩ := right_lt x n hx h2
  have HR : Hid (rightN x n = x / 2 ^ n + x % 2 ^ n * 2 ^ (32 - n)) := rfl
  have HP1 : Hid (∀ w, Calls Tryz.prog 98 #[.int .i64 n] w fun e w' => e = .returned (.int .i64 ((2 ^ n : Nat) : Int)) ∧ w' = w) := fun w => Pow2_any n w (by omega)
  have HP2 : Hid (∀ w, Calls Tryz.prog 98 #[.int .i64 ((32 - n : Nat) : Int)] w fun e w' => e = .returned (.int .i64 ((2 ^ (32 - n) : Nat) : Int)) ∧ w' = w) := fun w => Pow2_any (32 - n) w (by omega)
  have hm : (32 : Int) - (n : Int) = ((32 - n : Nat) : Int) := by omega
  have hpb : 2 ^ n ≤ 4294967296 := Nat.pow_le_pow_right (n := 2) (by decide) (show n ≤ 32 by omega)
  have hpp := Nat.two_pow_pos n
  generalize rightN x n = r at hl2 HR
  generalize 2 ^ n = p at hl1 HR HP1 hpb hpp
  generalize 2 ^ (32 - n) = q at hl1 HR HP2
  generalize 32 - n = m at hm HP2
  obtain ⟨d, hd⟩ : ∃ d, x / p = d := ⟨_, rfl⟩
  obtain ⟨e0, he⟩ : ∃ e0, x % p = e0 := ⟨_, rfl⟩
  obtain ⟨z, hz⟩ : ∃ z, e0 * q = z := ⟨_, rfl⟩
  rw [he] at hl1
  have hdi : (x : Int) / (p : Int) = (d : Int) := by rw [← hd]; push_cast; rfl
  have hei : (x : Int) % (p : Int) = (e0 : Int) := by rw [← he]; push_cast; rfl
  have hzi : (e0 : Int) * (q : Int) = (z : Int) := by rw [← hz]; push_cast; rfl
  have HR2 : Hid (r = d + z) := by show _ = _; rw [HR.out, hd, he, hz]
  have hp0 : ((p : Int) == 0) = false := beq_eq_false_iff_ne.2 (by omega)
  have hpn : ¬ (p : Int) = 0 := by omega
  have hpm : ¬ p = 0 := by omega
  have hdl : d < 4294967296 := Nat.lt_of_le_of_lt (by rw [← hd]; exact Nat.div_le_self _ _) hx
  have hdz : (d : Int) + (z : Int) = (r : Int) := by have := HR2.out; omega
  have hzl : z < 4294967296 := by rw [← hz]; exact hl1
  have hmi : (m : Int) ≤ 31 := by omega
  have hn0 : (0 : Int) ≤ (n : Int) := by omega
  have f1 := wr62 d hdl
  have f2 := wr62 z hzl
  have f3 := wr62 r hl2
  have f4 := wr62 m (by omega)
  have f5 : (x : Int).tdiv (p : Int) = (d : Int) := by rw [← hd]; exact tdivN x p
  have f6 : (x : Int).tmod (p : Int) = (e0 : Int) := by rw [← he]; exact tmodN x p
  clear hd he hz hl1 hpb hpp hx h1 h2 HR hl2 hdl hzl
  go_enter Tryz.func102, Tryz.ntmps102
  go_wp2
  go_region_with (first | (go_at_call_of 98 (Value.int IntKind.i64 (n : Int)); refine (HP1.out _).mono ?_; rintro e w' ⟨rfl, rfl⟩) | (go_at_call_of 98 (Value.int IntKind.i64 (m : Int)); refine (HP2.out _).mono ?_; rintro e w' ⟨rfl, rfl⟩) | fail)
  all_goals go_wp2
  all_goals go_ret
  all_goals exact ⟨rfl, 1, rfl⟩
end Go.Proofs.YtapiedeekbfpnaaGreatDoor

/- The digest's own words and mixing, of numbers that are not negative: what they are as plain numbers, as the document reckons them. -/
namespace Go.Proofs.YtapiedeekbfpnaaGreatDoor
open Go.RowKit

theorem or_u32 (a b : Nat) (ha : a < 2 ^ 32) (hb : b < 2 ^ 32) : bits .or .u32 (a : Int) (b : Int) = ((a ||| b : Nat) : Int) := (bits_nat .u32 32 (by decide) wraps_u32 a b ha hb).2
theorem and_u32 (a b : Nat) (ha : a < 2 ^ 32) (hb : b < 2 ^ 32) : bits .and .u32 (a : Int) (b : Int) = ((a &&& b : Nat) : Int) := (bits_nat .u32 32 (by decide) wraps_u32 a b ha hb).1
theorem rot_nat (x n : Nat) (hx : x < 2 ^ 32) (h1 : 1 ≤ n) (h2 : n ≤ 31) : rotR (x : Int) n = (rightN x n : Int) := by
  obtain ⟨hl1, hl2⟩ := right_lt x n hx h2
  have h3 : 2 ^ 32 = 2 ^ n * 2 ^ (32 - n) := by rw [← Nat.pow_add]; congr 1; omega
  have e1 : IntKind.u32.wrap ((x : Int) * 2 ^ (32 - n)) = ((x % 2 ^ n * 2 ^ (32 - n) : Nat) : Int) := by
    rw [show (x : Int) * 2 ^ (32 - n) = ((x * 2 ^ (32 - n) : Nat) : Int) from by push_cast; rfl, IntKind.wrap_u32, show (4294967296 : Int) = ((2 ^ 32 : Nat) : Int) from rfl, ← Int.natCast_emod, h3, Nat.mul_mod_mul_right]
  have e2 : (x : Int) / 2 ^ n = ((x / 2 ^ n : Nat) : Int) := by push_cast; rfl
  have h6 : x / 2 ^ n < 2 ^ (32 - n) := by rw [Nat.div_lt_iff_lt_mul (Nat.two_pow_pos n), Nat.mul_comm, ← h3]; exact hx
  have h8 : 2 ^ (32 - n) ≤ 2 ^ 32 := Nat.pow_le_pow_right (by decide) (by omega)
  unfold rotR
  rw [e1, e2, or_u32 _ _ hl1 (by omega), Nat.mul_comm (x % 2 ^ n), ← Nat.two_pow_add_eq_or_of_lt h6]
  unfold rightN
  congr 1
  rw [Nat.mul_comm (x % 2 ^ n)]
  omega

def sig0N (x : Nat) : Nat := rightN x 7 ^^^ rightN x 18 ^^^ x / 8
def sig1N (x : Nat) : Nat := rightN x 17 ^^^ rightN x 19 ^^^ x / 1024
def big0N (x : Nat) : Nat := rightN x 2 ^^^ rightN x 13 ^^^ rightN x 22
def big1N (x : Nat) : Nat := rightN x 6 ^^^ rightN x 11 ^^^ rightN x 25
def chN (e f g : Nat) : Nat := (e &&& f) ^^^ ((4294967295 - e) &&& g)
def majN (a b c : Nat) : Nat := (a &&& b) ^^^ (a &&& c) ^^^ (b &&& c)
theorem xor3 (a b c : Nat) (ha : a < 2 ^ 32) (hb : b < 2 ^ 32) (hc : c < 2 ^ 32) : bits .xor .u32 (bits .xor .u32 (a : Int) (b : Int)) (c : Int) = ((a ^^^ b ^^^ c : Nat) : Int) ∧ a ^^^ b ^^^ c < 2 ^ 32 := by
  rw [xor_u32 a b ha hb, xor_u32 _ c (Nat.xor_lt_two_pow ha hb) hc]
  exact ⟨rfl, Nat.xor_lt_two_pow (Nat.xor_lt_two_pow ha hb) hc⟩
theorem sig0_nat (x : Nat) (hx : x < 2 ^ 32) : sig0 (x : Int) = (sig0N x : Int) ∧ sig0N x < 2 ^ 32 := by
  unfold sig0 sig0N
  rw [rot_nat x 7 hx (by decide) (by decide), rot_nat x 18 hx (by decide) (by decide), show (x : Int) / 8 = ((x / 8 : Nat) : Int) from by omega]
  exact xor3 _ _ _ (right_lt x 7 hx (by decide)).2 (right_lt x 18 hx (by decide)).2 (by omega)
theorem sig1_nat (x : Nat) (hx : x < 2 ^ 32) : sig1 (x : Int) = (sig1N x : Int) ∧ sig1N x < 2 ^ 32 := by
  unfold sig1 sig1N
  rw [rot_nat x 17 hx (by decide) (by decide), rot_nat x 19 hx (by decide) (by decide), show (x : Int) / 1024 = ((x / 1024 : Nat) : Int) from by omega]
  exact xor3 _ _ _ (right_lt x 17 hx (by decide)).2 (right_lt x 19 hx (by decide)).2 (by omega)
theorem big0_nat (x : Nat) (hx : x < 2 ^ 32) : big0 (x : Int) = (big0N x : Int) ∧ big0N x < 2 ^ 32 := by
  unfold big0 big0N
  rw [rot_nat x 2 hx (by decide) (by decide), rot_nat x 13 hx (by decide) (by decide), rot_nat x 22 hx (by decide) (by decide)]
  exact xor3 _ _ _ (right_lt x 2 hx (by decide)).2 (right_lt x 13 hx (by decide)).2 (right_lt x 22 hx (by decide)).2
theorem big1_nat (x : Nat) (hx : x < 2 ^ 32) : big1 (x : Int) = (big1N x : Int) ∧ big1N x < 2 ^ 32 := by
  unfold big1 big1N
  rw [rot_nat x 6 hx (by decide) (by decide), rot_nat x 11 hx (by decide) (by decide), rot_nat x 25 hx (by decide) (by decide)]
  exact xor3 _ _ _ (right_lt x 6 hx (by decide)).2 (right_lt x 11 hx (by decide)).2 (right_lt x 25 hx (by decide)).2
theorem ch_nat (e f g : Nat) (he : e < 2 ^ 32) (hf : f < 2 ^ 32) (hg : g < 2 ^ 32) : ch (e : Int) (f : Int) (g : Int) = (chN e f g : Int) ∧ chN e f g < 2 ^ 32 := by
  have h1 : bits .xor .u32 IntKind.u32.max (e : Int) = ((4294967295 - e : Nat) : Int) := not_u32 e he
  have a1 : e &&& f < 2 ^ 32 := Nat.and_lt_two_pow _ hf
  have a2 : (4294967295 - e) &&& g < 2 ^ 32 := Nat.and_lt_two_pow _ hg
  unfold ch chN
  rw [h1, and_u32 e f he hf, and_u32 _ g (by omega) hg, xor_u32 _ _ a1 a2]
  exact ⟨rfl, Nat.xor_lt_two_pow a1 a2⟩
theorem maj_nat (a b c : Nat) (ha : a < 2 ^ 32) (hb : b < 2 ^ 32) (hc : c < 2 ^ 32) : maj (a : Int) (b : Int) (c : Int) = (majN a b c : Int) ∧ majN a b c < 2 ^ 32 := by
  unfold maj majN
  rw [and_u32 a b ha hb, and_u32 a c ha hc, and_u32 b c hb hc]
  exact xor3 _ _ _ (Nat.and_lt_two_pow _ hb) (Nat.and_lt_two_pow _ hc) (Nat.and_lt_two_pow _ hc)

/-- Four bytes, the greatest first. -/
def be4N (a b c d : Nat) : Nat := ((a * 256 + b) * 256 + c) * 256 + d
theorem be4_nat (a b c d : Nat) (ha : a < 256) (hb : b < 256) (hc : c < 256) (hd : d < 256) : be4 (a : Int) (b : Int) (c : Int) (d : Int) = (be4N a b c d : Int) ∧ be4N a b c d < 2 ^ 32 := by
  have e1 : (a : Int) % 4294967296 * 16777216 % 4294967296 = ((2 ^ 24 * a : Nat) : Int) := by omega
  have e2 : (b : Int) % 4294967296 * 65536 % 4294967296 = ((2 ^ 16 * b : Nat) : Int) := by omega
  have e3 : (c : Int) % 4294967296 * 256 % 4294967296 = ((2 ^ 8 * c : Nat) : Int) := by omega
  have e4 : (d : Int) % 4294967296 = ((d : Nat) : Int) := by omega
  have o1 := Nat.two_pow_add_eq_or_of_lt (i := 24) (b := 2 ^ 16 * b) (by omega) a
  have o2 : 2 ^ 24 * a + 2 ^ 16 * b = 2 ^ 16 * (2 ^ 8 * a + b) := by omega
  have o3 := Nat.two_pow_add_eq_or_of_lt (i := 16) (b := 2 ^ 8 * c) (by omega) (2 ^ 8 * a + b)
  have o4 : 2 ^ 16 * (2 ^ 8 * a + b) + 2 ^ 8 * c = 2 ^ 8 * (2 ^ 16 * a + 2 ^ 8 * b + c) := by omega
  have o5 := Nat.two_pow_add_eq_or_of_lt (i := 8) (b := d) (by omega) (2 ^ 16 * a + 2 ^ 8 * b + c)
  unfold be4 be4N
  rw [e1, e2, e3, e4, or_u32 _ _ (by omega) (by omega), ← o1, o2, or_u32 _ _ (by omega) (by omega), ← o3, o4, or_u32 _ _ (by omega) (by omega), ← o5]
  omega

def toI (l : List Nat) : List Int := l.map fun (n : Nat) => (n : Int)
theorem toI_get (l : List Nat) (i : Nat) : (toI l).getD i 0 = (l.getD i 0 : Int) := by
  unfold toI
  rw [List.getD_eq_getElem?_getD, List.getD_eq_getElem?_getD, List.getElem?_map]
  cases l[i]? <;> rfl
theorem get_lt (l : List Nat) (h : ∀ x ∈ l, x < 2 ^ 32) (i : Nat) : l.getD i 0 < 2 ^ 32 := by
  rw [List.getD_eq_getElem?_getD]
  cases e : l[i]? with
  | none => show 0 < 2 ^ 32; decide
  | some x => exact h x (List.mem_of_getElem? e)
def byteN (s : ByteArray) (k : Nat) : Nat := (s.data.toList.getD k 0).toNat
def wnextN (s : ByteArray) (l : List Nat) (k : Nat) : Nat :=
  if k < 16 then be4N (byteN s (4 * k)) (byteN s (4 * k + 1)) (byteN s (4 * k + 2)) (byteN s (4 * k + 3))
  else (l.getD (k - 16) 0 + sig0N (l.getD (k - 15) 0) + l.getD (k - 7) 0 + sig1N (l.getD (k - 2) 0)) % 4294967296
/-- The words of a block, as plain numbers. -/
def wsN (s : ByteArray) : Nat → List Nat
  | 0 => []
  | k + 1 => wsN s k ++ [wnextN s (wsN s k) k]
theorem wnext_nat (s : ByteArray) (l : List Nat) (k : Nat) (h : ∀ x ∈ l, x < 2 ^ 32) : wnext s (toI l) k = (wnextN s l k : Int) ∧ wnextN s l k < 2 ^ 32 := by
  unfold wnext wnextN
  by_cases hk : k < 16
  · rw [if_pos hk, if_pos hk]
    exact be4_nat _ _ _ _ (s.data.toList.getD (4 * k) 0).toNat_lt (s.data.toList.getD (4 * k + 1) 0).toNat_lt (s.data.toList.getD (4 * k + 2) 0).toNat_lt (s.data.toList.getD (4 * k + 3) 0).toNat_lt
  · rw [if_neg hk, if_neg hk, toI_get, toI_get, toI_get, toI_get]
    have h1 := sig0_nat _ (get_lt l h (k - 15))
    have h2 := sig1_nat _ (get_lt l h (k - 2))
    rw [h1.1, h2.1]
    exact ⟨by omega, Nat.mod_lt _ (by decide)⟩
theorem ws_nat (s : ByteArray) (k : Nat) : ws s k = toI (wsN s k) ∧ ∀ x ∈ wsN s k, x < 2 ^ 32 := by
  induction k with
  | zero => exact ⟨rfl, by simp [wsN]⟩
  | succ k ih =>
    obtain ⟨h1, h2⟩ := wnext_nat s (wsN s k) k ih.2
    refine ⟨?_, ?_⟩
    · show ws s k ++ [wnext s (ws s k) k] = _
      rw [ih.1, h1]
      simp [wsN, toI]
    · intro x hx
      rcases List.mem_append.1 hx with h | h
      · exact ih.2 x h
      · simp at h; rw [h]; exact h2

structure N8 where
  (a b c d e f g h : Nat)
def N8.ok (s : N8) : Prop := s.a < 2 ^ 32 ∧ s.b < 2 ^ 32 ∧ s.c < 2 ^ 32 ∧ s.d < 2 ^ 32 ∧ s.e < 2 ^ 32 ∧ s.f < 2 ^ 32 ∧ s.g < 2 ^ 32 ∧ s.h < 2 ^ 32
def N8.i (s : N8) : S8 := ⟨s.a, s.b, s.c, s.d, s.e, s.f, s.g, s.h⟩
def N8.u (s : N8) (k v : Nat) : Nat := (s.h + big1N s.e + chN s.e s.f s.g + k + v) % 4294967296
/-- One round, as plain numbers. -/
def N8.step (s : N8) (k v : Nat) : N8 := ⟨(s.u k v + (big0N s.a + majN s.a s.b s.c)) % 4294967296, s.a, s.b, s.c, (s.d + s.u k v) % 4294967296, s.e, s.f, s.g⟩
theorem step_nat (s : N8) (k v : Nat) (h : s.ok) : S8.step s.i k v = (s.step k v).i ∧ (s.step k v).ok := by
  obtain ⟨ha, hb, hc, hd, he, hf, hg, hh⟩ := h
  have h1 := big1_nat s.e he
  have h2 := ch_nat s.e s.f s.g he hf hg
  have h3 := big0_nat s.a ha
  have h4 := maj_nat s.a s.b s.c ha hb hc
  have hu : S8.u s.i k v = (s.u k v : Int) := by
    unfold S8.u N8.u N8.i
    simp only
    rw [h1.1, h2.1]
    omega
  have hul : s.u k v < 2 ^ 32 := Nat.mod_lt _ (by decide)
  refine ⟨?_, Nat.mod_lt _ (by decide), ha, hb, hc, Nat.mod_lt _ (by decide), he, hf, hg⟩
  unfold S8.step
  rw [hu]
  unfold N8.step N8.i
  simp only
  rw [h3.1, h4.1]
  congr 1
  all_goals omega
def roundsN (wl ks : List Nat) : Nat → N8 → N8
  | 0, s => s
  | n + 1, s => (roundsN wl ks n s).step (ks.getD n 0) (wl.getD n 0)
theorem rounds_nat (wl ks : List Nat) (n : Nat) (s : N8) (h : s.ok) : rounds8 (toI wl) (toI ks) n s.i = (roundsN wl ks n s).i ∧ (roundsN wl ks n s).ok := by
  induction n with
  | zero => exact ⟨rfl, h⟩
  | succ n ih =>
    obtain ⟨h1, h2⟩ := step_nat (roundsN wl ks n s) (ks.getD n 0) (wl.getD n 0) ih.2
    refine ⟨?_, h2⟩
    show (rounds8 (toI wl) (toI ks) n s.i).step ((toI ks).getD n 0) ((toI wl).getD n 0) = _
    rw [ih.1, toI_get, toI_get, h1]
    rfl
/-- The state behind a block, as plain numbers. -/
def mixN (q : N8) (s : ByteArray) (ks : List Nat) : N8 :=
  ⟨(q.a + (roundsN (wsN s 64) ks 64 q).a) % 4294967296, (q.b + (roundsN (wsN s 64) ks 64 q).b) % 4294967296, (q.c + (roundsN (wsN s 64) ks 64 q).c) % 4294967296, (q.d + (roundsN (wsN s 64) ks 64 q).d) % 4294967296, (q.e + (roundsN (wsN s 64) ks 64 q).e) % 4294967296, (q.f + (roundsN (wsN s 64) ks 64 q).f) % 4294967296, (q.g + (roundsN (wsN s 64) ks 64 q).g) % 4294967296, (q.h + (roundsN (wsN s 64) ks 64 q).h) % 4294967296⟩
theorem mix_nat (q : N8) (s : ByteArray) (ks : List Nat) (h : q.ok) : mixS q.i s (toI ks) = (mixN q s ks).i ∧ (mixN q s ks).ok := by
  have h1 := (rounds_nat (wsN s 64) ks 64 q h).1
  rw [← (ws_nat s 64).1] at h1
  refine ⟨?_, Nat.mod_lt _ (by decide), Nat.mod_lt _ (by decide), Nat.mod_lt _ (by decide), Nat.mod_lt _ (by decide), Nat.mod_lt _ (by decide), Nat.mod_lt _ (by decide), Nat.mod_lt _ (by decide), Nat.mod_lt _ (by decide)⟩
  unfold mixS
  rw [h1]
  unfold mixN N8.i
  simp only
  generalize roundsN (wsN s 64) ks 64 q = r
  congr 1
end Go.Proofs.YtapiedeekbfpnaaGreatDoor

/- The digest's sum as plain numbers: block by block of the text with its ending behind it. -/
namespace Go.Proofs.YtapiedeekbfpnaaGreatDoor
open Go.RowKit

/-- A block of a list of bytes. -/
def blk (P : List UInt8) (n : Nat) : ByteArray := ⟨((P.drop (64 * n)).take 64).toArray⟩
/-- The state behind so many blocks, from one of them on. -/
def stF (P : List UInt8) (ks : List Nat) (off : Nat) (q : N8) : Nat → N8
  | 0 => q
  | n + 1 => mixN (stF P ks off q n) (blk P (off + n)) ks
theorem stF_ok (P : List UInt8) (ks : List Nat) (off : Nat) (q : N8) (hq : q.ok) (n : Nat) : (stF P ks off q n).ok := by
  induction n with
  | zero => exact hq
  | succ n ih => exact (mix_nat _ _ ks ih).2
theorem stF_add (P : List UInt8) (ks : List Nat) (q : N8) (m n : Nat) : stF P ks m (stF P ks 0 q m) n = stF P ks 0 q (m + n) := by
  induction n with
  | zero => rfl
  | succ n ih =>
    show mixN (stF P ks m (stF P ks 0 q m) n) (blk P (m + n)) ks = mixN (stF P ks 0 q (m + n)) (blk P (0 + (m + n))) ks
    rw [ih, Nat.zero_add]
theorem blocks_nat (s : ByteArray) (P : List UInt8) (ks : List Nat) (off : Nat) (q : N8) (hq : q.ok) (n : Nat) (h : ∀ j, j < n → s.extract (64 * j) (64 * j + 64) = blk P (off + j)) : blocks s (toI ks) q.i n = (stF P ks off q n).i := by
  induction n with
  | zero => rfl
  | succ n ih =>
    show mixS (blocks s (toI ks) q.i n) (s.extract (64 * n) (64 * n + 64)) (toI ks) = _
    rw [ih fun j hj => h j (by omega), h n (by omega), (mix_nat _ _ ks (stF_ok P ks off q hq n)).1]
    rfl
theorem ex_data (s : ByteArray) (a b : Nat) : (s.extract a b).data.toList = (s.data.toList.take b).drop a := by rw [Lib.extract_data, List.drop_take]
theorem blk_ext {s : ByteArray} {P : List UInt8} {n a : Nat} (h : (s.data.toList.take (a + 64)).drop a = (P.drop (64 * n)).take 64) : s.extract a (a + 64) = blk P n := by
  have h1 := ex_data s a (a + 64)
  rw [h] at h1
  have hb : ∀ x : ByteArray, x = ⟨x.data.toList.toArray⟩ := fun x => by cases x; simp
  refine (hb _).trans ?_
  rw [h1]
  rfl
/-- A text with its ending behind it. -/
def padL (s : ByteArray) : List UInt8 := s.data.toList ++ endB s.size
theorem s_len (s : ByteArray) : s.data.toList.length = s.size := Array.length_toList
theorem tail_data (s : ByteArray) : (tailOf s).data.toList = (padL s).drop (64 * (s.size / 64)) := by
  have h := s_len s
  unfold tailOf padL
  rw [List.drop_append_of_le_length (by omega)]
  have e1 : (s.extract (s.size - s.size % 64) s.size ++ (⟨(endB s.size).toArray⟩ : ByteArray)).data.toList = (s.extract (s.size - s.size % 64) s.size).data.toList ++ endB s.size := by simp
  rw [e1, ex_data, List.take_of_length_le (by omega), show s.size - s.size % 64 = 64 * (s.size / 64) from by omega]
theorem pad_len (s : ByteArray) : (padL s).length = 64 * (s.size / 64) + (tailOf s).size ∧ (tailOf s).size % 64 = 0 := by
  have h := s_len s
  have h1 := tail_size s
  have h2 := endB_len s.size
  refine ⟨?_, ?_⟩
  · unfold padL
    rw [List.length_append, h, h2]
    omega
  · rw [h1]
    unfold endQ
    omega
theorem sumS_nat (s : ByteArray) (ks : List Nat) (q : N8) (hq : q.ok) : sumS s q.i (toI ks) = (stF (padL s) ks 0 q ((padL s).length / 64)).i := by
  have h := s_len s
  obtain ⟨hp, hp2⟩ := pad_len s
  have e1 : blocks s (toI ks) q.i (s.size / 64) = (stF (padL s) ks 0 q (s.size / 64)).i := by
    refine blocks_nat s (padL s) ks 0 q hq _ fun j hj => ?_
    rw [Nat.zero_add]
    refine blk_ext ?_
    unfold padL
    rw [List.drop_append_of_le_length (by omega), List.take_append_of_le_length (by rw [List.length_drop]; omega), List.drop_take]
    congr 1
    omega
  have e2 : blocks (tailOf s) (toI ks) (stF (padL s) ks 0 q (s.size / 64)).i ((tailOf s).size / 64) = (stF (padL s) ks (s.size / 64) (stF (padL s) ks 0 q (s.size / 64)) ((tailOf s).size / 64)).i := by
    refine blocks_nat (tailOf s) (padL s) ks (s.size / 64) _ (stF_ok _ _ _ _ hq _) _ fun j hj => ?_
    refine blk_ext ?_
    rw [tail_data, List.drop_take, List.drop_drop, show 64 * (s.size / 64) + 64 * j = 64 * (s.size / 64 + j) from by omega]
    congr 1
    omega
  unfold sumS
  rw [e1, e2, stF_add]
  congr 2
  omega

/-- Digit j of a number, the greatest first, as plain numbers. -/
def digN (x j : Nat) : UInt8 := UInt8.ofNat (hexC (x / 2 ^ (28 - 4 * j) % 16))
theorem dgt_nat (x j : Nat) (hx : x < 2 ^ 32) : dgt (x : Int) j = digN x j := by
  have h1 : x / 2 ^ (28 - 4 * j) < 2 ^ 32 := Nat.lt_of_le_of_lt (Nat.div_le_self _ _) hx
  have h2 : nib (x : Int) (28 - 4 * j) = ((x / 2 ^ (28 - 4 * j) % 16 : Nat) : Int) := by
    unfold nib
    rw [show (x : Int) / 2 ^ (28 - 4 * j) = ((x / 2 ^ (28 - 4 * j) : Nat) : Int) from by push_cast; rfl]
    have := and_u32 (x / 2 ^ (28 - 4 * j)) 15 h1 (by decide)
    rw [show ((15 : Nat) : Int) = 15 from rfl] at this
    rw [this, show x / 2 ^ (28 - 4 * j) &&& 15 = x / 2 ^ (28 - 4 * j) % 16 from Nat.and_two_pow_sub_one_eq_mod _ 4]
  unfold dgt digN
  rw [h2, Int.toNat_natCast]
/-- The digits of a state, as plain numbers. -/
def digsN (q : N8) : List UInt8 := [q.a, q.b, q.c, q.d, q.e, q.f, q.g, q.h].flatMap fun x => (List.range 8).map (digN x)
theorem dgs_nat (q : N8) (h : q.ok) : dgs q.i.l = digsN q := by
  obtain ⟨ha, hb, hc, hd, he, hf, hg, hh⟩ := h
  have e : ∀ x : Nat, x < 2 ^ 32 → dg (x : Int) 8 = (List.range 8).map (digN x) := fun x hx => List.map_congr_left fun j _ => dgt_nat x j hx
  unfold dgs digsN N8.i S8.l
  simp only [List.flatMap_cons, List.flatMap_nil]
  rw [e _ ha, e _ hb, e _ hc, e _ hd, e _ he, e _ hf, e _ hg, e _ hh]
/-- What the digest sums to: the digits of the state behind all blocks of the text with its ending behind it. -/
theorem sumB_nat (s : ByteArray) (ks : List Nat) (q : N8) (hq : q.ok) : sumB s q.i (toI ks) = ⟨(digsN (stF (padL s) ks 0 q ((padL s).length / 64))).toArray⟩ := by
  unfold sumB
  rw [sumS_nat s ks q hq, dgs_nat _ (stF_ok _ _ _ _ hq _)]
end Go.Proofs.YtapiedeekbfpnaaGreatDoor

/- The document's own Firsts and Constants: the numbers that the digest's variables are laid with. -/
namespace Go.Proofs.YtapiedeekbfpnaaGreatDoor
open Go.RowKit

def sqN : List Nat := sqL.map Int.toNat
def cuN : List Nat := cuL.map Int.toNat
theorem sqN_i : toI sqN = sqL := by kernel_rfl
theorem cuN_i : toI cuN = cuL := by kernel_rfl
def q0 : N8 := ⟨sqN.getD 0 0, sqN.getD 1 0, sqN.getD 2 0, sqN.getD 3 0, sqN.getD 4 0, sqN.getD 5 0, sqN.getD 6 0, sqN.getD 7 0⟩
theorem q0_i : q0.i = sq8 := by kernel_rfl
theorem q0_ok : q0.ok := by
  have h : (decide (q0.a < 2 ^ 32) && decide (q0.b < 2 ^ 32) && decide (q0.c < 2 ^ 32) && decide (q0.d < 2 ^ 32) && decide (q0.e < 2 ^ 32) && decide (q0.f < 2 ^ 32) && decide (q0.g < 2 ^ 32) && decide (q0.h < 2 ^ 32)) = true := by kernel_rfl
  simp only [Bool.and_eq_true, decide_eq_true_eq] at h
  exact ⟨h.1.1.1.1.1.1.1, h.1.1.1.1.1.1.2, h.1.1.1.1.1.2, h.1.1.1.1.2, h.1.1.1.2, h.1.1.2, h.1.2, h.2⟩
theorem sum_plain (s : ByteArray) : sumB s sq8 cuL = ⟨(digsN (stF (padL s) cuN 0 q0 ((padL s).length / 64))).toArray⟩ := by
  rw [← q0_i, ← cuN_i]
  exact sumB_nat s cuN q0 q0_ok
/-- These numbers, as cells. -/
def intCells (l : List Nat) : Array Value := (l.map fun (n : Nat) => Value.int .i64 (n : Int)).toArray

set_option maxHeartbeats 2000000 in
set_option maxRecDepth 100000 in
theorem Firsts_any (w : World) :
    Calls Tryz.prog 100 #[] w fun e w' => e = .returned (.slice (some ⟨w.heap.size, 0, none⟩) 8 8) ∧ w' = w.alloc (.cells (intCells sqN) 3) := by
  have HC : Hid (intCells sqN = #[.int .i64 1779033703, .int .i64 3144134277, .int .i64 1013904242, .int .i64 2773480762, .int .i64 1359893119, .int .i64 2600822924, .int .i64 528734635, .int .i64 1541459225]) := by show _ = _; kernel_rfl
  rw [HC.out]
  go_enter Tryz.func100, Tryz.ntmps100
  go_wp2
  go_ret
  exact ⟨rfl, rfl⟩

set_option maxHeartbeats 4000000 in
set_option maxRecDepth 100000 in
theorem Constants_any (w : World) :
    Calls Tryz.prog 99 #[] w fun e w' => e = .returned (.slice (some ⟨w.heap.size, 0, none⟩) 64 64) ∧ w' = w.alloc (.cells (intCells cuN) 3) := by
  obtain ⟨C, hC⟩ : ∃ C, C = intCells cuN := ⟨_, rfl⟩
  rw [← hC]
  have HC : Hid (C = intCells cuN) := hC
  clear hC
  go_enter Tryz.func99, Tryz.ntmps99
  go_wp2
  go_ret
  refine ⟨rfl, ?_⟩
  rw [HC.out]
  exact congrArg (fun c => w.alloc (.cells c 3)) (by kernel_rfl)
end Go.Proofs.YtapiedeekbfpnaaGreatDoor

/- The document's own Sum, in parts: its loops, taken out of its text; what lies where. -/
namespace Go.Proofs.YtapiedeekbfpnaaGreatDoor
open Go.RowKit

/-- A part of a text, by the way that leads to it. -/
def subC : List Bool → Code → Code
  | [], c => c
  | false :: p, .seq a _ => subC p a
  | true :: p, .seq _ b => subC p b
  | _ :: p, .block _ c => subC p c
  | _ :: p, .loop c => subC p c
  | false :: p, .cond _ a _ => subC p a
  | true :: p, .cond _ _ b => subC p b
  | _ :: _, c => c
end Go.Proofs.YtapiedeekbfpnaaGreatDoor

/- The document's RunCommand: whether a file may be made: its loop over what was made. -/
namespace Go.Proofs.YtapiedeekbfpnaaGreatDoor
open Go.RowKit Go.Shelf Go.Maps Go.WideMaps Go.Sort
variable {A0 A1 A2 A3 A4 A5 A6 A7 A8 A9 B0 B1 B2 B3 B4 B5 B6 B7 B8 B9 C0 C1 C2 C3 C4 C5 C6 C7 C8 C9 D0 D1 D2 D3 D4 D5 D6 D7 D8 D9 E0 E1 E2 E3 E4 E5 E6 E7 E8 E9 G0 G1 G2 G3 G4 G5 G6 G7 G8 G9 H0 H1 H2 H3 H4 H5 H6 H7 H8 H9 I0 I1 I2 I3 I4 I5 I6 I7 I8 I9 J0 J1 J2 J3 J4 J5 J6 J7 J8 J9 K0 K1 K2 K3 K4 K5 K6 K7 K8 K9 M0 M1 M2 M3 M4 M5 M6 M7 M8 M9 N0 N1 N2 N3 N4 N5 N6 N7 N8 N9 O0 O1 O2 O3 O4 O5 O6 O7 O8 O9 P0 P1 P2 P3 P4 P5 P6 P7 P8 P9 R0 R1 R2 R3 R4 R5 R6 R7 R8 R9 S0 S1 S2 S3 S4 S5 S6 S7 S8 S9 T0 T1 T2 T3 T4 T5 T6 T7 T8 T9 U0 U1 U2 U3 U4 U5 U6 U7 U8 U9 V0 V1 V2 V3 V4 V5 V6 V7 V8 V9 W0 W1 W2 W3 W4 W5 W6 W7 W8 W9 X0 X1 X2 X3 X4 X5 X6 X7 X8 X9 Y0 Y1 Y2 Y3 Y4 Y5 Y6 Y7 Y8 Y9 Z0 Z1 Z2 Z3 Z4 Z5 Z6 Z7 Z8 Z9 j0 j1 j2 j3 j4 j5 j6 j7 j8 j9 o0 o1 o2 o3 o4 o5 o6 o7 o8 o9 y0 y1 y2 y3 y4 y5 y6 y7 y8 y9 z0 z1 z2 z3 z4 z5 z6 z7 z8 z9 x0 x1 x2 x3 x4 x5 x6 x7 x8 x9 i0 i1 i2 i3 i4 i5 i6 i7 i8 i9 d0 d1 d2 d3 d4 d5 d6 d7 d8 d9 e0 e1 e2 e3 e4 e5 e6 e7 e8 e9 f0 f1 f2 f3 f4 f5 f6 f7 f8 f9 p0 p1 p2 p3 p4 p5 p6 p7 p8 p9 v0 v1 v2 v3 v4 v5 v6 v7 v8 : Value}

/-- Whether a path lies within one of these files, or one of them within it. -/
def inX (L : List Fl) (p : ByteArray) : Bool := L.any fun f => inB p f.pa || inB f.pa p
/-- The code for it. -/
def cdX (b : Bool) : Int := if b = true then 103 else 0
theorem inX_snoc (L : List Fl) (k : Nat) (h : k < L.length) (p : ByteArray) : inX (L.take (k + 1)) p = (inX (L.take k) p || (inB p L[k].pa || inB L[k].pa p)) := by
  unfold inX
  rw [List.take_succ_eq_append_getElem h, List.any_append]
  simp

set_option maxHeartbeats 8000000 in
set_option maxRecDepth 100000 in
theorem madeL (ao : Option Addr) (cap : Nat) (L : List Fl) (p : ByteArray) (w : World) (hL : IsFl w ao L) (hn : L.length ≤ 60) (Q0 : Exit → Act → World → Prop)
    (HX : Hid (∀ (Oh Oj Ok Om Oq Ot Ov Ow Ox Oy Oz Pb Pc Pf Pg Ph Pj Pk Pm Pq Pt Pv : Value), Q0 (.exit 7) ⟨#[A0,A1,A2,A3,A4,A5,A6,A7,A8,A9,.slice ao L.length cap,B1,B2,B3,B4,B5,B6,.int .i64 (cdX (inX L p)),B8,B9,.string p,C1,C2,C3,.int .i64 (L.length : Int),C5,C6,C7,C8,C9,D0,D1,D2,D3,D4,D5,D6,D7,D8,D9,E0,E1,E2,E3,E4,E5,E6,E7,E8,E9,G0,G1,G2,G3,G4,G5,G6,G7,G8,G9,H0,H1,H2,H3,H4,H5,H6,H7,H8,H9,I0,I1,I2,I3,I4,I5,I6,I7,I8,I9,J0,J1,J2,J3,J4,J5,J6,J7,J8,J9,K0,K1,K2,K3,K4,K5,K6,K7,K8,K9,M0,M1,M2,M3,M4,M5,M6,M7,M8,M9,N0,N1,N2,N3,N4,N5,N6,N7,N8,N9,O0,O1,O2,O3,O4,O5,O6,O7,O8,O9,P0,P1,P2,P3,P4,P5,P6,P7,P8,P9,R0,R1,R2,R3,R4,R5,R6,R7,R8,R9,S0,S1,S2,S3,S4,S5,S6,S7,S8,S9,T0,T1,T2,T3,T4,T5,T6,T7,T8,T9,U0,U1,U2,U3,U4,U5,U6,U7,U8,U9,V0,V1,V2,V3,Oh,Oj,Ok,Om,Oq,Ot,Ov,Ow,Ox,Oy,Oz,Pb,Pc,Pf,Pg,Ph,Pj,Pk,Pm,Pq,Pt,Pv,X6,X7,X8,X9,Y0,Y1,Y2,Y3,Y4,Y5,Y6,Y7,Y8,Y9,Z0,Z1,Z2,Z3,Z4,Z5,Z6,Z7,Z8,Z9,j0,j1,j2,j3,j4,j5,j6,j7,j8,j9,o0,o1,o2,o3,o4,o5,o6,o7,o8,o9,y0,y1,y2,y3,y4,y5,y6,y7,y8,y9,z0,z1,z2,z3,z4,z5,z6,z7,z8,z9,x0,x1,x2,x3,x4,x5,x6,x7,x8,x9,i0,i1,i2,i3,i4,i5,i6,i7,i8,i9,d0,d1,d2,d3,d4,d5,d6,d7,d8,d9,e0,e1,e2,e3,e4,e5,e6,e7,e8,e9,f0,f1,f2,f3,f4,f5,f6,f7,f8,f9,p0,p1,p2,p3,p4,p5,p6,p7,p8,p9,v0,v1,v2,v3,v4,v5,v6,v7,v8], []⟩ w)) :
    Code.wp Tryz.prog (subC [true, true, true, true, false, true, false, false, true, false, true, true, true, true, true, true, true, false, true, false, true, true, true, true, true, true, true, true, true, true, true, true, true, true, true, false, true, false, true, false] (Tryz.f25.body.getD .skip)) Q0 ⟨#[A0,A1,A2,A3,A4,A5,A6,A7,A8,A9,.slice ao L.length cap,B1,B2,B3,B4,B5,B6,.int .i64 0,B8,B9,.string p,C1,C2,C3,.int .i64 0,C5,C6,C7,C8,C9,D0,D1,D2,D3,D4,D5,D6,D7,D8,D9,E0,E1,E2,E3,E4,E5,E6,E7,E8,E9,G0,G1,G2,G3,G4,G5,G6,G7,G8,G9,H0,H1,H2,H3,H4,H5,H6,H7,H8,H9,I0,I1,I2,I3,I4,I5,I6,I7,I8,I9,J0,J1,J2,J3,J4,J5,J6,J7,J8,J9,K0,K1,K2,K3,K4,K5,K6,K7,K8,K9,M0,M1,M2,M3,M4,M5,M6,M7,M8,M9,N0,N1,N2,N3,N4,N5,N6,N7,N8,N9,O0,O1,O2,O3,O4,O5,O6,O7,O8,O9,P0,P1,P2,P3,P4,P5,P6,P7,P8,P9,R0,R1,R2,R3,R4,R5,R6,R7,R8,R9,S0,S1,S2,S3,S4,S5,S6,S7,S8,S9,T0,T1,T2,T3,T4,T5,T6,T7,T8,T9,U0,U1,U2,U3,U4,U5,U6,U7,U8,U9,V0,V1,V2,V3,V4,V5,V6,V7,V8,V9,W0,W1,W2,W3,W4,W5,W6,W7,W8,W9,X0,X1,X2,X3,X4,X5,X6,X7,X8,X9,Y0,Y1,Y2,Y3,Y4,Y5,Y6,Y7,Y8,Y9,Z0,Z1,Z2,Z3,Z4,Z5,Z6,Z7,Z8,Z9,j0,j1,j2,j3,j4,j5,j6,j7,j8,j9,o0,o1,o2,o3,o4,o5,o6,o7,o8,o9,y0,y1,y2,y3,y4,y5,y6,y7,y8,y9,z0,z1,z2,z3,z4,z5,z6,z7,z8,z9,x0,x1,x2,x3,x4,x5,x6,x7,x8,x9,i0,i1,i2,i3,i4,i5,i6,i7,i8,i9,d0,d1,d2,d3,d4,d5,d6,d7,d8,d9,e0,e1,e2,e3,e4,e5,e6,e7,e8,e9,f0,f1,f2,f3,f4,f5,f6,f7,f8,f9,p0,p1,p2,p3,p4,p5,p6,p7,p8,p9,v0,v1,v2,v3,v4,v5,v6,v7,v8], []⟩ w := by
  have HL : Hid (IsFl w ao L) := hL
  have hn1 : (L.length : Int) ≤ 60 := by omega
  have HI1 : Hid (∀ q : ByteArray, Calls Tryz.prog 42 #[.string q, .string p] w fun e w' => e = .returned (.bool (inB p q)) ∧ w' = w) := fun q => RIsInside_any p q w
  have HI2 : Hid (∀ q : ByteArray, Calls Tryz.prog 42 #[.string p, .string q] w fun e w' => e = .returned (.bool (inB q p)) ∧ w' = w) := fun q => RIsInside_any q p w
  clear hL
  conv => arg 2; whnf
  dsimp only
  go_loopw [17, 24] (fun c i wr => ∃ k : Nat, k ≤ L.length ∧ i = .int .i64 (k : Int) ∧ Hid (c = .int .i64 (cdX (inX (L.take k) p))) ∧ wr = w) (fun _ i _ => L.length - (RowKit.intOf i).toNat)
  case atStart => exact ⟨0, Nat.zero_le _, rfl, rfl, rfl⟩
  case round =>
    obtain ⟨k, hk, rfl, HC, rfl⟩ := hrel
    by_cases hlt : k < L.length
    · have hki : (k : Int) < (L.length : Int) := by omega
      rcases HL.out with h | ⟨g, o, rfl, hg, hc⟩
      · exfalso; rw [h] at hlt; exact absurd hlt (by simp)
      obtain ⟨c0, _, _⟩ := hc k hlt
      have HS := inX_snoc L k hlt p
      have hI1 := HI1.out L[k].pa
      have hI2 := HI2.out L[k].pa
      clear hc HI1 HI2
      generalize L[k].pa = q at *
      generalize inB p q = b1 at *
      generalize inB q p = b2 at *
      cases b1 with
      | true =>
        have HE : Hid (Value.int .i64 103 = .int .i64 (cdX (inX (L.take (k + 1)) p))) := by unfold Hid; rw [HS]; simp [cdX]
        clear HS hI2
        go_wp2_with fail
        refine hI1.mono ?_
        rintro e w1 ⟨rfl, rfl⟩
        go_wp2
        refine ⟨⟨k + 1, hlt, by go_num, HE, by first | trivial | rfl⟩, ?_⟩
        simp [RowKit.intOf]; omega
      | false =>
        cases b2 with
        | true =>
          have HE : Hid (Value.int .i64 103 = .int .i64 (cdX (inX (L.take (k + 1)) p))) := by unfold Hid; rw [HS]; simp [cdX]
          clear HS
          go_wp2_with fail
          refine hI1.mono ?_
          rintro e w1 ⟨rfl, rfl⟩
          go_wp2_with fail
          refine hI2.mono ?_
          rintro e w1 ⟨rfl, rfl⟩
          go_wp2
          refine ⟨⟨k + 1, hlt, by go_num, HE, by first | trivial | rfl⟩, ?_⟩
          simp [RowKit.intOf]; omega
        | false =>
          have HE : Hid (u17 = .int .i64 (cdX (inX (L.take (k + 1)) p))) := by unfold Hid; rw [HS, HC.out]; simp
          clear HS
          go_wp2_with fail
          refine hI1.mono ?_
          rintro e w1 ⟨rfl, rfl⟩
          go_wp2_with fail
          refine hI2.mono ?_
          rintro e w1 ⟨rfl, rfl⟩
          go_wp2
          refine ⟨⟨k + 1, hlt, by go_num, HE, by first | trivial | rfl⟩, ?_⟩
          simp [RowKit.intOf]; omega
    · obtain rfl : k = L.length := by omega
      have HC2 := HC.out
      rw [List.take_length] at HC2
      subst HC2
      clear HI1 HI2 hlt
      go_wp2
      apply HX.out
end Go.Proofs.YtapiedeekbfpnaaGreatDoor

/- The document's RunCommand: a piece of a text: its loop. -/
namespace Go.Proofs.YtapiedeekbfpnaaGreatDoor
open Go.RowKit Go.Shelf Go.Maps Go.WideMaps Go.Sort
variable {A0 A1 A2 A3 A4 A5 A6 A7 A8 A9 B0 B1 B2 B3 B4 B5 B6 B7 B8 B9 C0 C1 C2 C3 C4 C5 C6 C7 C8 C9 D0 D1 D2 D3 D4 D5 D6 D7 D8 D9 E0 E1 E2 E3 E4 E5 E6 E7 E8 E9 G0 G1 G2 G3 G4 G5 G6 G7 G8 G9 H0 H1 H2 H3 H4 H5 H6 H7 H8 H9 I0 I1 I2 I3 I4 I5 I6 I7 I8 I9 J0 J1 J2 J3 J4 J5 J6 J7 J8 J9 K0 K1 K2 K3 K4 K5 K6 K7 K8 K9 M0 M1 M2 M3 M4 M5 M6 M7 M8 M9 N0 N1 N2 N3 N4 N5 N6 N7 N8 N9 O0 O1 O2 O3 O4 O5 O6 O7 O8 O9 P0 P1 P2 P3 P4 P5 P6 P7 P8 P9 R0 R1 R2 R3 R4 R5 R6 R7 R8 R9 S0 S1 S2 S3 S4 S5 S6 S7 S8 S9 T0 T1 T2 T3 T4 T5 T6 T7 T8 T9 U0 U1 U2 U3 U4 U5 U6 U7 U8 U9 V0 V1 V2 V3 V4 V5 V6 V7 V8 V9 W0 W1 W2 W3 W4 W5 W6 W7 W8 W9 X0 X1 X2 X3 X4 X5 X6 X7 X8 X9 Y0 Y1 Y2 Y3 Y4 Y5 Y6 Y7 Y8 Y9 Z0 Z1 Z2 Z3 Z4 Z5 Z6 Z7 Z8 Z9 j0 j1 j2 j3 j4 j5 j6 j7 j8 j9 o0 o1 o2 o3 o4 o5 o6 o7 o8 o9 y0 y1 y2 y3 y4 y5 y6 y7 y8 y9 z0 z1 z2 z3 z4 z5 z6 z7 z8 z9 x0 x1 x2 x3 x4 x5 x6 x7 x8 x9 i0 i1 i2 i3 i4 i5 i6 i7 i8 i9 d0 d1 d2 d3 d4 d5 d6 d7 d8 d9 e0 e1 e2 e3 e4 e5 e6 e7 e8 e9 f0 f1 f2 f3 f4 f5 f6 f7 f8 f9 p0 p1 p2 p3 p4 p5 p6 p7 p8 p9 v0 v1 v2 v3 v4 v5 v6 v7 v8 : Value}

theorem ext_more (t : ByteArray) (a k : Nat) (ha : a ≤ k) : (t.extract a k).data.toList ++ (t.extract k (k + 1)).data.toList = (t.extract a (k + 1)).data.toList := by
  simp only [ByteArray.data_extract, Array.toList_extract, List.extract_eq_take_drop]
  rw [show k + 1 - a = (k - a) + 1 by omega, show k + 1 - k = 1 by omega, List.take_add, List.drop_drop, show a + (k - a) = k by omega]
theorem ext_none (t : ByteArray) (a b : Nat) (h : b ≤ a) : t.extract a b = ⟨#[]⟩ := ba_ext (by
  simp only [ByteArray.data_extract, Array.toList_extract, List.extract_eq_take_drop]
  rw [show b - a = 0 by omega, List.take_zero])
theorem cut_end (t : ByteArray) (a k m : Nat) (ha : a ≤ k) (h : k = a ∨ k ≤ min m t.size) (he : ¬ (k < m ∧ k < t.size)) : t.extract a k = cutM t a m := by
  unfold cutM
  rcases h with rfl | h
  · rw [ext_none t k k (Nat.le_refl _), ext_none t _ _ (by omega)]
  · rw [show min m t.size = k by omega, show min a k = a by omega]

set_option maxHeartbeats 8000000 in
set_option maxRecDepth 100000 in
theorem cutL (pw g n cap rg r a m : Nat) (s3 t : ByteArray) (w : World) (hpw : w.cell? ⟨pw, 0, none⟩ = some (.slice (some ⟨g, 0, none⟩) n cap)) (hn : 3 < n) (h3 : w.cell? ⟨g, 3, none⟩ = some (.string s3)) (hm : nmbF s3.data.toList 999999 = (m : Int)) (hz3 : s3.size ≤ 1000000) (hm2 : m ≤ 999999) (ha : a ≤ 999999)
    (hr : r < 8) (ht : w.cell? ⟨rg, r, none⟩ = some (.string t)) (Q0 : Exit → Act → World → Prop)
    (HX : Hid (∀ (Bq Jj Jk Jm Jq Jt Jv Jw Jx Jy Jz Kb Kc Kf Kg Kh Kj Kk Km Kq Kt Kv Kw Kx Ky Kz Mb Mc : Value), Q0 (.exit 5) ⟨#[A0,A1,A2,A3,A4,A5,A6,A7,A8,.slice (some ⟨rg, 0, none⟩) 8 8,B0,B1,B2,B3,.pointer (some ⟨pw, 0, none⟩),B5,B6,B7,.int .i64 (r : Int),.string (cutM t a m),C0,C1,C2,Bq,C4,C5,C6,C7,C8,C9,D0,D1,D2,D3,D4,D5,D6,D7,D8,D9,E0,E1,E2,E3,E4,E5,E6,E7,E8,E9,G0,G1,G2,G3,G4,G5,G6,G7,G8,G9,H0,H1,H2,H3,H4,H5,H6,H7,H8,H9,I0,I1,I2,I3,I4,I5,I6,I7,I8,I9,J0,J1,J2,J3,J4,J5,J6,J7,J8,J9,K0,K1,K2,K3,K4,K5,K6,K7,K8,K9,M0,M1,M2,M3,M4,M5,M6,M7,M8,M9,N0,N1,N2,N3,N4,N5,N6,N7,N8,N9,O0,O1,O2,O3,O4,Jj,Jk,Jm,Jq,Jt,Jv,Jw,Jx,Jy,Jz,Kb,Kc,Kf,Kg,Kh,Kj,Kk,Km,Kq,Kt,Kv,Kw,Kx,Ky,Kz,Mb,Mc,S2,S3,S4,S5,S6,S7,S8,S9,T0,T1,T2,T3,T4,T5,T6,T7,T8,T9,U0,U1,U2,U3,U4,U5,U6,U7,U8,U9,V0,V1,V2,V3,V4,V5,V6,V7,V8,V9,W0,W1,W2,W3,W4,W5,W6,W7,W8,W9,X0,X1,X2,X3,X4,X5,X6,X7,X8,X9,Y0,Y1,Y2,Y3,Y4,Y5,Y6,Y7,Y8,Y9,Z0,Z1,Z2,Z3,Z4,Z5,Z6,Z7,Z8,Z9,j0,j1,j2,j3,j4,j5,j6,j7,j8,j9,o0,o1,o2,o3,o4,o5,o6,o7,o8,o9,y0,y1,y2,y3,y4,y5,y6,y7,y8,y9,z0,z1,z2,z3,z4,z5,z6,z7,z8,z9,x0,x1,x2,x3,x4,x5,x6,x7,x8,x9,i0,i1,i2,i3,i4,i5,i6,i7,i8,i9,d0,d1,d2,d3,d4,d5,d6,d7,d8,d9,e0,e1,e2,e3,e4,e5,e6,e7,e8,e9,f0,f1,f2,f3,f4,f5,f6,f7,f8,f9,p0,p1,p2,p3,p4,p5,p6,p7,p8,p9,v0,v1,v2,v3,v4,v5,v6,v7,v8], []⟩ w)) :
    Code.wp Tryz.prog (subC [true, true, true, true, false, true, false, false, true, false, true, true, true, true, true, true, true, false, true, false, true, true, true, true, true, true, true, true, true, false, true, true, false] (Tryz.f25.body.getD .skip)) Q0 ⟨#[A0,A1,A2,A3,A4,A5,A6,A7,A8,.slice (some ⟨rg, 0, none⟩) 8 8,B0,B1,B2,B3,.pointer (some ⟨pw, 0, none⟩),B5,B6,B7,.int .i64 (r : Int),.string ⟨#[]⟩,C0,C1,C2,.int .i64 (a : Int),C4,C5,C6,C7,C8,C9,D0,D1,D2,D3,D4,D5,D6,D7,D8,D9,E0,E1,E2,E3,E4,E5,E6,E7,E8,E9,G0,G1,G2,G3,G4,G5,G6,G7,G8,G9,H0,H1,H2,H3,H4,H5,H6,H7,H8,H9,I0,I1,I2,I3,I4,I5,I6,I7,I8,I9,J0,J1,J2,J3,J4,J5,J6,J7,J8,J9,K0,K1,K2,K3,K4,K5,K6,K7,K8,K9,M0,M1,M2,M3,M4,M5,M6,M7,M8,M9,N0,N1,N2,N3,N4,N5,N6,N7,N8,N9,O0,O1,O2,O3,O4,O5,O6,O7,O8,O9,P0,P1,P2,P3,P4,P5,P6,P7,P8,P9,R0,R1,R2,R3,R4,R5,R6,R7,R8,R9,S0,S1,S2,S3,S4,S5,S6,S7,S8,S9,T0,T1,T2,T3,T4,T5,T6,T7,T8,T9,U0,U1,U2,U3,U4,U5,U6,U7,U8,U9,V0,V1,V2,V3,V4,V5,V6,V7,V8,V9,W0,W1,W2,W3,W4,W5,W6,W7,W8,W9,X0,X1,X2,X3,X4,X5,X6,X7,X8,X9,Y0,Y1,Y2,Y3,Y4,Y5,Y6,Y7,Y8,Y9,Z0,Z1,Z2,Z3,Z4,Z5,Z6,Z7,Z8,Z9,j0,j1,j2,j3,j4,j5,j6,j7,j8,j9,o0,o1,o2,o3,o4,o5,o6,o7,o8,o9,y0,y1,y2,y3,y4,y5,y6,y7,y8,y9,z0,z1,z2,z3,z4,z5,z6,z7,z8,z9,x0,x1,x2,x3,x4,x5,x6,x7,x8,x9,i0,i1,i2,i3,i4,i5,i6,i7,i8,i9,d0,d1,d2,d3,d4,d5,d6,d7,d8,d9,e0,e1,e2,e3,e4,e5,e6,e7,e8,e9,f0,f1,f2,f3,f4,f5,f6,f7,f8,f9,p0,p1,p2,p3,p4,p5,p6,p7,p8,p9,v0,v1,v2,v3,v4,v5,v6,v7,v8], []⟩ w := by
  have HN : Hid (Calls Tryz.prog 46 #[.string s3, .int .i64 999999] w fun e w' => e = .returned (.int .i64 (m : Int)) ∧ w' = w) := (NumberOf_any s3 999999 w hz3).mono fun e w' ⟨q1, q2⟩ => ⟨q1.trans (by rw [← hm]; rfl), q2⟩
  have hni : (3 : Int) < (n : Int) := by omega
  have hri : (r : Int) < 8 := by omega
  have hr0 : (0 : Int) ≤ (r : Int) := by omega
  clear hm hn
  conv => arg 2; whnf
  dsimp only
  go_loopw [19, 23] (fun c i wr => ∃ k : Nat, a ≤ k ∧ (k = a ∨ k ≤ min m t.size) ∧ i = .int .i64 (k : Int) ∧ Hid (c = .string (t.extract a k)) ∧ wr = w) (fun _ i _ => t.size - (RowKit.intOf i).toNat)
  case atStart => exact ⟨a, Nat.le_refl _, .inl rfl, rfl, congrArg Value.string (ext_none t a a (Nat.le_refl _)).symm, rfl⟩
  case round =>
    obtain ⟨k, hk, hk2, rfl, HC, rfl⟩ := hrel
    by_cases hlm : k < m
    · have hlmi : (k : Int) < (m : Int) := by omega
      by_cases hlt : k < t.size
      · have hlti : (k : Int) < (t.size : Int) := by omega
        have hcat := catB (t.extract a k) (t.extract k (k + 1)) (t.extract a (k + 1)) (ext_more t a k hk) (by rw [ByteArray.size_extract, ByteArray.size_extract]; omega)
        have hc1 : Hid (u19 = .string (t.extract a k)) := HC
        have hc2 := HC.out
        subst hc2
        obtain ⟨k1, hk1⟩ : ∃ k1, k1 = k + 1 := ⟨_, rfl⟩
        have ek1 : (k : Int) + 1 = (k1 : Int) := by omega
        have ek2 : IntKind.i64.wrap (k1 : Int) = (k1 : Int) := by rw [IntKind.wrap_i64]; omega
        have ek3 : k ≤ k1 := by omega
        have ek4 : (k1 : Int) ≤ (t.size : Int) := by omega
        have ek5 : k1 ≤ t.size := by omega
        have ek6 : (k : Int) ≤ (k1 : Int) := by omega
        rw [← hk1] at hcat
        have HK : Hid (k1 = k + 1 ∧ k < m ∧ k < t.size ∧ a ≤ k) := ⟨hk1, hlm, hlt, hk⟩
        clear hk1 hk2 hk HC hc1 hlm hlt
        generalize t.extract a k = x1 at *
        go_wp2_with fail
        refine HN.out.mono ?_
        rintro e w1 ⟨rfl, rfl⟩
        go_wp2
        refine ⟨⟨k1, by have := HK.out; omega, .inr (by have := HK.out; omega), rfl, (rfl : Value.string (t.extract a k1) = _), by first | trivial | rfl⟩, ?_⟩
        have := HK.out
        simp [RowKit.intOf]; omega
      · have hlti : ¬ (k : Int) < (t.size : Int) := by omega
        have hc2 := HC.out
        rw [cut_end t a k m hk hk2 (by omega)] at hc2
        subst hc2
        clear hk hk2 HC
        go_wp2_with fail
        refine HN.out.mono ?_
        rintro e w1 ⟨rfl, rfl⟩
        go_wp2
        apply HX.out
    · have hlmi : ¬ (k : Int) < (m : Int) := by omega
      have hc2 := HC.out
      rw [cut_end t a k m hk hk2 (by omega)] at hc2
      subst hc2
      clear hk hk2 HC
      go_wp2_with fail
      refine HN.out.mono ?_
      rintro e w1 ⟨rfl, rfl⟩
      go_wp2
      apply HX.out
end Go.Proofs.YtapiedeekbfpnaaGreatDoor

/- The document's RunCommand, behind its first switch: where a line has failed. -/
namespace Go.Proofs.YtapiedeekbfpnaaGreatDoor
open Go.RowKit Go.Shelf Go.Maps Go.WideMaps Go.Sort
variable {A0 A1 A2 A3 A4 A5 A6 A7 A8 A9 B0 B1 B2 B3 B4 B5 B6 B7 B8 B9 C0 C1 C2 C3 C4 C5 C6 C7 C8 C9 D0 D1 D2 D3 D4 D5 D6 D7 D8 D9 E0 E1 E2 E3 E4 E5 E6 E7 E8 E9 G0 G1 G2 G3 G4 G5 G6 G7 G8 G9 H0 H1 H2 H3 H4 H5 H6 H7 H8 H9 I0 I1 I2 I3 I4 I5 I6 I7 I8 I9 J0 J1 J2 J3 J4 J5 J6 J7 J8 J9 K0 K1 K2 K3 K4 K5 K6 K7 K8 K9 M0 M1 M2 M3 M4 M5 M6 M7 M8 M9 N0 N1 N2 N3 N4 N5 N6 N7 N8 N9 O0 O1 O2 O3 O4 O5 O6 O7 O8 O9 P0 P1 P2 P3 P4 P5 P6 P7 P8 P9 R0 R1 R2 R3 R4 R5 R6 R7 R8 R9 S0 S1 S2 S3 S4 S5 S6 S7 S8 S9 T0 T1 T2 T3 T4 T5 T6 T7 T8 T9 U0 U1 U2 U3 U4 U5 U6 U7 U8 U9 V0 V1 V2 V3 V4 V5 V6 V7 V8 V9 W0 W1 W2 W3 W4 W5 W6 W7 W8 W9 X0 X1 X2 X3 X4 X5 X6 X7 X8 X9 Y0 Y1 Y2 Y3 Y4 Y5 Y6 Y7 Y8 Y9 Z0 Z1 Z2 Z3 Z4 Z5 Z6 Z7 Z8 Z9 j0 j1 j2 j3 j4 j5 j6 j7 j8 j9 o0 o1 o2 o3 o4 o5 o6 o7 o8 o9 y0 y1 y2 y3 y4 y5 y6 y7 y8 y9 z0 z1 z2 z3 z4 z5 z6 z7 z8 z9 x0 x1 x2 x3 x4 x5 x6 x7 x8 x9 i0 i1 i2 i3 i4 i5 i6 i7 i8 i9 d0 d1 d2 d3 d4 d5 d6 d7 d8 d9 e0 e1 e2 e3 e4 e5 e6 e7 e8 e9 f0 f1 f2 f3 f4 f5 f6 f7 f8 f9 p0 p1 p2 p3 p4 p5 p6 p7 p8 p9 v0 v1 v2 v3 v4 v5 v6 v7 v8 : Value}

set_option maxHeartbeats 8000000 in
set_option maxRecDepth 100000 in
theorem failT (pw fu lf c sp : Nat) (w : World) (hf : fu ≤ 100000) (hl : lf ≤ fu) (hc : 0 < c) (hc2 : c ≤ 200) (hsp : 1 ≤ lf → sp = fu - (lf - 1)) (Q0 : Exit → Act → World → Prop)
    (HO : Hid (lf < 1 → ∀ (Aw Bc Bf Bv Bw Rj Rk Rm Rq Rt Rv Rw Rx Ry Rz Sb Sc Sf Sg Sh Sj Sk Sm Sq St Sv Sw Sx Sy Sz Tb Tc Tf Tg Th Tj Tk Tm Tq Tt Tv Tw Tx Ty Tz Ub Uc Uf Ug Uh Uj Uk Um Uq Ut Uv Uw Ux Uy Uz Vb Vc Vf Vg Vh Vj Vk Vm Vq Vt Vv Vw Vx Vy Vz Wb Wc Wf Wg Wh Wj Wk Wm Wq Wt Wv Ww Wx Wy Wz Xb Xc Xf Xg Xh Xj Xk Xm Xq Xt Xv Xw Xx Xy Xz Yb Yc Yf Yg Yh Yj Yk Ym Yq Yt Yv Yw Yx Yy Yz Zb Zc Zf Zg Zh : Value), Q0 .ret ⟨#[A0,A1,.int .i64 (fu : Int),A3,A4,A5,B0,.int .i64 104,.int .i64 (fu : Int),A9,B0,Aw,B2,B3,.pointer (some ⟨pw, 0, none⟩),B5,Bc,Bf,.int .i64 (-1),B9,C0,C1,C2,C3,C4,Bv,Bw,C7,C8,C9,D0,D1,D2,D3,D4,D5,D6,D7,D8,D9,E0,E1,E2,E3,E4,E5,E6,E7,E8,E9,G0,G1,G2,G3,G4,G5,G6,G7,G8,G9,H0,H1,H2,H3,H4,H5,H6,H7,H8,H9,I0,I1,I2,I3,I4,I5,I6,I7,I8,I9,J0,J1,J2,J3,J4,J5,J6,J7,J8,J9,K0,K1,K2,K3,K4,K5,K6,K7,K8,K9,M0,M1,M2,M3,M4,M5,M6,M7,M8,M9,N0,N1,N2,N3,N4,N5,N6,N7,N8,N9,O0,O1,O2,O3,O4,O5,O6,O7,O8,O9,P0,P1,P2,P3,P4,P5,P6,P7,P8,P9,R0,R1,R2,R3,R4,R5,R6,R7,R8,R9,S0,S1,S2,S3,S4,S5,S6,S7,S8,S9,T0,T1,T2,T3,T4,T5,T6,T7,T8,T9,U0,U1,U2,U3,U4,U5,U6,U7,U8,U9,V0,V1,V2,V3,V4,V5,V6,V7,V8,V9,W0,W1,W2,W3,W4,W5,W6,W7,W8,W9,X0,X1,X2,X3,X4,X5,X6,X7,X8,X9,Y0,Y1,Y2,Y3,Y4,Rj,Rk,Rm,Rq,Rt,Rv,Rw,Rx,Ry,Rz,Sb,Sc,Sf,Sg,Sh,Sj,Sk,Sm,Sq,St,Sv,Sw,Sx,Sy,Sz,Tb,Tc,Tf,Tg,Th,Tj,Tk,Tm,Tq,Tt,Tv,Tw,Tx,Ty,Tz,Ub,Uc,Uf,Ug,Uh,Uj,Uk,Um,Uq,Ut,Uv,Uw,Ux,Uy,Uz,Vb,Vc,Vf,Vg,Vh,Vj,Vk,Vm,Vq,Vt,Vv,Vw,Vx,Vy,Vz,Wb,Wc,Wf,Wg,Wh,Wj,Wk,Wm,Wq,Wt,Wv,Ww,Wx,Wy,Wz,Xb,Xc,Xf,Xg,Xh,Xj,Xk,Xm,Xq,Xt,Xv,Xw,Xx,Xy,Xz,Yb,Yc,Yf,Yg,Yh,Yj,Yk,Ym,Yq,Yt,Yv,Yw,Yx,Yy,Yz,Zb,Zc,Zf,Zg,Zh,v5,v6,v7,v8], []⟩ w)) (HG : Hid (¬ lf < 1 → ∀ (Aw Bc Bf Bv Bw Rj Rk Rm Rq Rt Rv Rw Rx Ry Rz Sb Sc Sf Sg Sh Sj Sk Sm Sq St Sv Sw Sx Sy Sz Tb Tc Tf Tg Th Tj Tk Tm Tq Tt Tv Tw Tx Ty Tz Ub Uc Uf Ug Uh Uj Uk Um Uq Ut Uv Uw Ux Uy Uz Vb Vc Vf Vg Vh Vj Vk Vm Vq Vt Vv Vw Vx Vy Vz Wb Wc Wf Wg Wh Wj Wk Wm Wq Wt Wv Ww Wx Wy Wz Xb Xc Xf Xg Xh Xj Xk Xm Xq Xt Xv Xw Xx Xy Xz Yb Yc Yf Yg Yh Yj Yk Ym Yq Yt Yv Yw Yx Yy Yz Zb Zc Zf Zg Zh : Value), Q0 .ret ⟨#[A0,A1,.int .i64 (fu : Int),A3,A4,A5,B0,.int .i64 (c : Int),.int .i64 (sp : Int),A9,B0,Aw,B2,B3,.pointer (some ⟨pw, 0, none⟩),B5,Bc,Bf,.int .i64 (-1),B9,C0,C1,C2,C3,C4,Bv,Bw,C7,C8,C9,D0,D1,D2,D3,D4,D5,D6,D7,D8,D9,E0,E1,E2,E3,E4,E5,E6,E7,E8,E9,G0,G1,G2,G3,G4,G5,G6,G7,G8,G9,H0,H1,H2,H3,H4,H5,H6,H7,H8,H9,I0,I1,I2,I3,I4,I5,I6,I7,I8,I9,J0,J1,J2,J3,J4,J5,J6,J7,J8,J9,K0,K1,K2,K3,K4,K5,K6,K7,K8,K9,M0,M1,M2,M3,M4,M5,M6,M7,M8,M9,N0,N1,N2,N3,N4,N5,N6,N7,N8,N9,O0,O1,O2,O3,O4,O5,O6,O7,O8,O9,P0,P1,P2,P3,P4,P5,P6,P7,P8,P9,R0,R1,R2,R3,R4,R5,R6,R7,R8,R9,S0,S1,S2,S3,S4,S5,S6,S7,S8,S9,T0,T1,T2,T3,T4,T5,T6,T7,T8,T9,U0,U1,U2,U3,U4,U5,U6,U7,U8,U9,V0,V1,V2,V3,V4,V5,V6,V7,V8,V9,W0,W1,W2,W3,W4,W5,W6,W7,W8,W9,X0,X1,X2,X3,X4,X5,X6,X7,X8,X9,Y0,Y1,Y2,Y3,Y4,Rj,Rk,Rm,Rq,Rt,Rv,Rw,Rx,Ry,Rz,Sb,Sc,Sf,Sg,Sh,Sj,Sk,Sm,Sq,St,Sv,Sw,Sx,Sy,Sz,Tb,Tc,Tf,Tg,Th,Tj,Tk,Tm,Tq,Tt,Tv,Tw,Tx,Ty,Tz,Ub,Uc,Uf,Ug,Uh,Uj,Uk,Um,Uq,Ut,Uv,Uw,Ux,Uy,Uz,Vb,Vc,Vf,Vg,Vh,Vj,Vk,Vm,Vq,Vt,Vv,Vw,Vx,Vy,Vz,Wb,Wc,Wf,Wg,Wh,Wj,Wk,Wm,Wq,Wt,Wv,Ww,Wx,Wy,Wz,Xb,Xc,Xf,Xg,Xh,Xj,Xk,Xm,Xq,Xt,Xv,Xw,Xx,Xy,Xz,Yb,Yc,Yf,Yg,Yh,Yj,Yk,Ym,Yq,Yt,Yv,Yw,Yx,Yy,Yz,Zb,Zc,Zf,Zg,Zh,v5,v6,v7,v8], []⟩ w)) :
    Code.wp Tryz.prog (subC [true, true, true, true, false, true, false, false, true, false, true, true, true, true, true, true, true, true] (Tryz.f25.body.getD .skip)) Q0 ⟨#[A0,A1,.int .i64 (fu : Int),A3,A4,A5,A6,A7,A8,A9,B0,.int .i64 (lf : Int),B2,B3,.pointer (some ⟨pw, 0, none⟩),B5,.int .i64 1,.int .i64 (c : Int),.int .i64 (-1),B9,C0,C1,C2,C3,C4,C5,C6,C7,C8,C9,D0,D1,D2,D3,D4,D5,D6,D7,D8,D9,E0,E1,E2,E3,E4,E5,E6,E7,E8,E9,G0,G1,G2,G3,G4,G5,G6,G7,G8,G9,H0,H1,H2,H3,H4,H5,H6,H7,H8,H9,I0,I1,I2,I3,I4,I5,I6,I7,I8,I9,J0,J1,J2,J3,J4,J5,J6,J7,J8,J9,K0,K1,K2,K3,K4,K5,K6,K7,K8,K9,M0,M1,M2,M3,M4,M5,M6,M7,M8,M9,N0,N1,N2,N3,N4,N5,N6,N7,N8,N9,O0,O1,O2,O3,O4,O5,O6,O7,O8,O9,P0,P1,P2,P3,P4,P5,P6,P7,P8,P9,R0,R1,R2,R3,R4,R5,R6,R7,R8,R9,S0,S1,S2,S3,S4,S5,S6,S7,S8,S9,T0,T1,T2,T3,T4,T5,T6,T7,T8,T9,U0,U1,U2,U3,U4,U5,U6,U7,U8,U9,V0,V1,V2,V3,V4,V5,V6,V7,V8,V9,W0,W1,W2,W3,W4,W5,W6,W7,W8,W9,X0,X1,X2,X3,X4,X5,X6,X7,X8,X9,Y0,Y1,Y2,Y3,Y4,Y5,Y6,Y7,Y8,Y9,Z0,Z1,Z2,Z3,Z4,Z5,Z6,Z7,Z8,Z9,j0,j1,j2,j3,j4,j5,j6,j7,j8,j9,o0,o1,o2,o3,o4,o5,o6,o7,o8,o9,y0,y1,y2,y3,y4,y5,y6,y7,y8,y9,z0,z1,z2,z3,z4,z5,z6,z7,z8,z9,x0,x1,x2,x3,x4,x5,x6,x7,x8,x9,i0,i1,i2,i3,i4,i5,i6,i7,i8,i9,d0,d1,d2,d3,d4,d5,d6,d7,d8,d9,e0,e1,e2,e3,e4,e5,e6,e7,e8,e9,f0,f1,f2,f3,f4,f5,f6,f7,f8,f9,p0,p1,p2,p3,p4,p5,p6,p7,p8,p9,v0,v1,v2,v3,v4,v5,v6,v7,v8], []⟩ w := by
  have k1 : ((c : Int) == 0) = false := by simp; omega
  have k2 : (0 : Int) < (c : Int) := by omega
  have k2' : ¬ (c : Int) ≤ 0 := by omega
  have k2'' : ¬ (c : Int) = 0 := by omega
  by_cases h : lf < 1
  · have HH : Hid _ := h
    have k3 : (lf : Int) < 1 := by omega
    clear HG hsp h hf hl hc hc2
    conv => arg 2; whnf
    dsimp only
    go_wp2
    apply HO.out HH.out
  · have HH : Hid _ := h
    have k3 : ¬ (lf : Int) < 1 := by omega
    obtain ⟨l1, e1⟩ : ∃ l1 : Nat, l1 = lf - 1 := ⟨_, rfl⟩
    have k4 : (lf : Int) - 1 = (l1 : Int) := by omega
    have k5 : IntKind.i64.wrap (l1 : Int) = (l1 : Int) := by rw [IntKind.wrap_i64]; omega
    have k6 : (fu : Int) - (l1 : Int) = (sp : Int) := by have := hsp (by omega); omega
    have k7 : IntKind.i64.wrap (sp : Int) = (sp : Int) := by rw [IntKind.wrap_i64]; omega
    clear HO hsp h hf hl hc hc2 e1
    conv => arg 2; whnf
    dsimp only
    go_wp2
    apply HG.out HH.out
end Go.Proofs.YtapiedeekbfpnaaGreatDoor

/- The document's RunCommand, behind its first switch: where a text is too long. -/
namespace Go.Proofs.YtapiedeekbfpnaaGreatDoor
open Go.RowKit Go.Shelf Go.Maps Go.WideMaps Go.Sort
variable {A0 A1 A2 A3 A4 A5 A6 A7 A8 A9 B0 B1 B2 B3 B4 B5 B6 B7 B8 B9 C0 C1 C2 C3 C4 C5 C6 C7 C8 C9 D0 D1 D2 D3 D4 D5 D6 D7 D8 D9 E0 E1 E2 E3 E4 E5 E6 E7 E8 E9 G0 G1 G2 G3 G4 G5 G6 G7 G8 G9 H0 H1 H2 H3 H4 H5 H6 H7 H8 H9 I0 I1 I2 I3 I4 I5 I6 I7 I8 I9 J0 J1 J2 J3 J4 J5 J6 J7 J8 J9 K0 K1 K2 K3 K4 K5 K6 K7 K8 K9 M0 M1 M2 M3 M4 M5 M6 M7 M8 M9 N0 N1 N2 N3 N4 N5 N6 N7 N8 N9 O0 O1 O2 O3 O4 O5 O6 O7 O8 O9 P0 P1 P2 P3 P4 P5 P6 P7 P8 P9 R0 R1 R2 R3 R4 R5 R6 R7 R8 R9 S0 S1 S2 S3 S4 S5 S6 S7 S8 S9 T0 T1 T2 T3 T4 T5 T6 T7 T8 T9 U0 U1 U2 U3 U4 U5 U6 U7 U8 U9 V0 V1 V2 V3 V4 V5 V6 V7 V8 V9 W0 W1 W2 W3 W4 W5 W6 W7 W8 W9 X0 X1 X2 X3 X4 X5 X6 X7 X8 X9 Y0 Y1 Y2 Y3 Y4 Y5 Y6 Y7 Y8 Y9 Z0 Z1 Z2 Z3 Z4 Z5 Z6 Z7 Z8 Z9 j0 j1 j2 j3 j4 j5 j6 j7 j8 j9 o0 o1 o2 o3 o4 o5 o6 o7 o8 o9 y0 y1 y2 y3 y4 y5 y6 y7 y8 y9 z0 z1 z2 z3 z4 z5 z6 z7 z8 z9 x0 x1 x2 x3 x4 x5 x6 x7 x8 x9 i0 i1 i2 i3 i4 i5 i6 i7 i8 i9 d0 d1 d2 d3 d4 d5 d6 d7 d8 d9 e0 e1 e2 e3 e4 e5 e6 e7 e8 e9 f0 f1 f2 f3 f4 f5 f6 f7 f8 f9 p0 p1 p2 p3 p4 p5 p6 p7 p8 p9 v0 v1 v2 v3 v4 v5 v6 v7 v8 : Value}

set_option maxHeartbeats 8000000 in
set_option maxRecDepth 100000 in
theorem bigT (pw fu lf r sp : Nat) (t : ByteArray) (w : World) (hf : fu ≤ 100000) (hl : lf ≤ fu) (ht : 100000 < t.size) (hsp : 1 ≤ lf → sp = fu - (lf - 1)) (Q0 : Exit → Act → World → Prop)
    (HO : Hid (lf < 1 → ∀ (Aw Bc Bf Bv Bw Rj Rk Rm Rq Rt Rv Rw Rx Ry Rz Sb Sc Sf Sg Sh Sj Sk Sm Sq St Sv Sw Sx Sy Sz Tb Tc Tf Tg Th Tj Tk Tm Tq Tt Tv Tw Tx Ty Tz Ub Uc Uf Ug Uh Uj Uk Um Uq Ut Uv Uw Ux Uy Uz Vb Vc Vf Vg Vh Vj Vk Vm Vq Vt Vv Vw Vx Vy Vz Wb Wc Wf Wg Wh Wj Wk Wm Wq Wt Wv Ww Wx Wy Wz Xb Xc Xf Xg Xh Xj Xk Xm Xq Xt Xv Xw Xx Xy Xz Yb Yc Yf Yg Yh Yj Yk Ym Yq Yt Yv Yw Yx Yy Yz Zb Zc Zf Zg Zh : Value), Q0 .ret ⟨#[A0,A1,.int .i64 (fu : Int),A3,A4,A5,B0,.int .i64 104,.int .i64 (fu : Int),A9,B0,Aw,B2,B3,.pointer (some ⟨pw, 0, none⟩),B5,Bc,Bf,.int .i64 (r : Int),.string t,C0,C1,C2,C3,C4,Bv,Bw,C7,C8,C9,D0,D1,D2,D3,D4,D5,D6,D7,D8,D9,E0,E1,E2,E3,E4,E5,E6,E7,E8,E9,G0,G1,G2,G3,G4,G5,G6,G7,G8,G9,H0,H1,H2,H3,H4,H5,H6,H7,H8,H9,I0,I1,I2,I3,I4,I5,I6,I7,I8,I9,J0,J1,J2,J3,J4,J5,J6,J7,J8,J9,K0,K1,K2,K3,K4,K5,K6,K7,K8,K9,M0,M1,M2,M3,M4,M5,M6,M7,M8,M9,N0,N1,N2,N3,N4,N5,N6,N7,N8,N9,O0,O1,O2,O3,O4,O5,O6,O7,O8,O9,P0,P1,P2,P3,P4,P5,P6,P7,P8,P9,R0,R1,R2,R3,R4,R5,R6,R7,R8,R9,S0,S1,S2,S3,S4,S5,S6,S7,S8,S9,T0,T1,T2,T3,T4,T5,T6,T7,T8,T9,U0,U1,U2,U3,U4,U5,U6,U7,U8,U9,V0,V1,V2,V3,V4,V5,V6,V7,V8,V9,W0,W1,W2,W3,W4,W5,W6,W7,W8,W9,X0,X1,X2,X3,X4,X5,X6,X7,X8,X9,Y0,Y1,Y2,Y3,Y4,Rj,Rk,Rm,Rq,Rt,Rv,Rw,Rx,Ry,Rz,Sb,Sc,Sf,Sg,Sh,Sj,Sk,Sm,Sq,St,Sv,Sw,Sx,Sy,Sz,Tb,Tc,Tf,Tg,Th,Tj,Tk,Tm,Tq,Tt,Tv,Tw,Tx,Ty,Tz,Ub,Uc,Uf,Ug,Uh,Uj,Uk,Um,Uq,Ut,Uv,Uw,Ux,Uy,Uz,Vb,Vc,Vf,Vg,Vh,Vj,Vk,Vm,Vq,Vt,Vv,Vw,Vx,Vy,Vz,Wb,Wc,Wf,Wg,Wh,Wj,Wk,Wm,Wq,Wt,Wv,Ww,Wx,Wy,Wz,Xb,Xc,Xf,Xg,Xh,Xj,Xk,Xm,Xq,Xt,Xv,Xw,Xx,Xy,Xz,Yb,Yc,Yf,Yg,Yh,Yj,Yk,Ym,Yq,Yt,Yv,Yw,Yx,Yy,Yz,Zb,Zc,Zf,Zg,Zh,v5,v6,v7,v8], []⟩ w)) (HG : Hid (¬ lf < 1 → ∀ (Aw Bc Bf Bv Bw Rj Rk Rm Rq Rt Rv Rw Rx Ry Rz Sb Sc Sf Sg Sh Sj Sk Sm Sq St Sv Sw Sx Sy Sz Tb Tc Tf Tg Th Tj Tk Tm Tq Tt Tv Tw Tx Ty Tz Ub Uc Uf Ug Uh Uj Uk Um Uq Ut Uv Uw Ux Uy Uz Vb Vc Vf Vg Vh Vj Vk Vm Vq Vt Vv Vw Vx Vy Vz Wb Wc Wf Wg Wh Wj Wk Wm Wq Wt Wv Ww Wx Wy Wz Xb Xc Xf Xg Xh Xj Xk Xm Xq Xt Xv Xw Xx Xy Xz Yb Yc Yf Yg Yh Yj Yk Ym Yq Yt Yv Yw Yx Yy Yz Zb Zc Zf Zg Zh : Value), Q0 .ret ⟨#[A0,A1,.int .i64 (fu : Int),A3,A4,A5,B0,.int .i64 102,.int .i64 (sp : Int),A9,B0,Aw,B2,B3,.pointer (some ⟨pw, 0, none⟩),B5,Bc,Bf,.int .i64 (r : Int),.string t,C0,C1,C2,C3,C4,Bv,Bw,C7,C8,C9,D0,D1,D2,D3,D4,D5,D6,D7,D8,D9,E0,E1,E2,E3,E4,E5,E6,E7,E8,E9,G0,G1,G2,G3,G4,G5,G6,G7,G8,G9,H0,H1,H2,H3,H4,H5,H6,H7,H8,H9,I0,I1,I2,I3,I4,I5,I6,I7,I8,I9,J0,J1,J2,J3,J4,J5,J6,J7,J8,J9,K0,K1,K2,K3,K4,K5,K6,K7,K8,K9,M0,M1,M2,M3,M4,M5,M6,M7,M8,M9,N0,N1,N2,N3,N4,N5,N6,N7,N8,N9,O0,O1,O2,O3,O4,O5,O6,O7,O8,O9,P0,P1,P2,P3,P4,P5,P6,P7,P8,P9,R0,R1,R2,R3,R4,R5,R6,R7,R8,R9,S0,S1,S2,S3,S4,S5,S6,S7,S8,S9,T0,T1,T2,T3,T4,T5,T6,T7,T8,T9,U0,U1,U2,U3,U4,U5,U6,U7,U8,U9,V0,V1,V2,V3,V4,V5,V6,V7,V8,V9,W0,W1,W2,W3,W4,W5,W6,W7,W8,W9,X0,X1,X2,X3,X4,X5,X6,X7,X8,X9,Y0,Y1,Y2,Y3,Y4,Rj,Rk,Rm,Rq,Rt,Rv,Rw,Rx,Ry,Rz,Sb,Sc,Sf,Sg,Sh,Sj,Sk,Sm,Sq,St,Sv,Sw,Sx,Sy,Sz,Tb,Tc,Tf,Tg,Th,Tj,Tk,Tm,Tq,Tt,Tv,Tw,Tx,Ty,Tz,Ub,Uc,Uf,Ug,Uh,Uj,Uk,Um,Uq,Ut,Uv,Uw,Ux,Uy,Uz,Vb,Vc,Vf,Vg,Vh,Vj,Vk,Vm,Vq,Vt,Vv,Vw,Vx,Vy,Vz,Wb,Wc,Wf,Wg,Wh,Wj,Wk,Wm,Wq,Wt,Wv,Ww,Wx,Wy,Wz,Xb,Xc,Xf,Xg,Xh,Xj,Xk,Xm,Xq,Xt,Xv,Xw,Xx,Xy,Xz,Yb,Yc,Yf,Yg,Yh,Yj,Yk,Ym,Yq,Yt,Yv,Yw,Yx,Yy,Yz,Zb,Zc,Zf,Zg,Zh,v5,v6,v7,v8], []⟩ w)) :
    Code.wp Tryz.prog (subC [true, true, true, true, false, true, false, false, true, false, true, true, true, true, true, true, true, true] (Tryz.f25.body.getD .skip)) Q0 ⟨#[A0,A1,.int .i64 (fu : Int),A3,A4,A5,A6,A7,A8,A9,B0,.int .i64 (lf : Int),B2,B3,.pointer (some ⟨pw, 0, none⟩),B5,.int .i64 1,.int .i64 0,.int .i64 (r : Int),.string t,C0,C1,C2,C3,C4,C5,C6,C7,C8,C9,D0,D1,D2,D3,D4,D5,D6,D7,D8,D9,E0,E1,E2,E3,E4,E5,E6,E7,E8,E9,G0,G1,G2,G3,G4,G5,G6,G7,G8,G9,H0,H1,H2,H3,H4,H5,H6,H7,H8,H9,I0,I1,I2,I3,I4,I5,I6,I7,I8,I9,J0,J1,J2,J3,J4,J5,J6,J7,J8,J9,K0,K1,K2,K3,K4,K5,K6,K7,K8,K9,M0,M1,M2,M3,M4,M5,M6,M7,M8,M9,N0,N1,N2,N3,N4,N5,N6,N7,N8,N9,O0,O1,O2,O3,O4,O5,O6,O7,O8,O9,P0,P1,P2,P3,P4,P5,P6,P7,P8,P9,R0,R1,R2,R3,R4,R5,R6,R7,R8,R9,S0,S1,S2,S3,S4,S5,S6,S7,S8,S9,T0,T1,T2,T3,T4,T5,T6,T7,T8,T9,U0,U1,U2,U3,U4,U5,U6,U7,U8,U9,V0,V1,V2,V3,V4,V5,V6,V7,V8,V9,W0,W1,W2,W3,W4,W5,W6,W7,W8,W9,X0,X1,X2,X3,X4,X5,X6,X7,X8,X9,Y0,Y1,Y2,Y3,Y4,Y5,Y6,Y7,Y8,Y9,Z0,Z1,Z2,Z3,Z4,Z5,Z6,Z7,Z8,Z9,j0,j1,j2,j3,j4,j5,j6,j7,j8,j9,o0,o1,o2,o3,o4,o5,o6,o7,o8,o9,y0,y1,y2,y3,y4,y5,y6,y7,y8,y9,z0,z1,z2,z3,z4,z5,z6,z7,z8,z9,x0,x1,x2,x3,x4,x5,x6,x7,x8,x9,i0,i1,i2,i3,i4,i5,i6,i7,i8,i9,d0,d1,d2,d3,d4,d5,d6,d7,d8,d9,e0,e1,e2,e3,e4,e5,e6,e7,e8,e9,f0,f1,f2,f3,f4,f5,f6,f7,f8,f9,p0,p1,p2,p3,p4,p5,p6,p7,p8,p9,v0,v1,v2,v3,v4,v5,v6,v7,v8], []⟩ w := by
  have k0 : (0 : Int) ≤ (r : Int) := by omega
  have k1 : (100000 : Int) < (t.size : Int) := by omega
  by_cases h : lf < 1
  · have HH : Hid _ := h
    have k3 : (lf : Int) < 1 := by omega
    clear HG hsp h hf hl ht
    conv => arg 2; whnf
    dsimp only
    go_wp2
    apply HO.out HH.out
  · have HH : Hid _ := h
    have k3 : ¬ (lf : Int) < 1 := by omega
    obtain ⟨l1, e1⟩ : ∃ l1 : Nat, l1 = lf - 1 := ⟨_, rfl⟩
    have k4 : (lf : Int) - 1 = (l1 : Int) := by omega
    have k5 : IntKind.i64.wrap (l1 : Int) = (l1 : Int) := by rw [IntKind.wrap_i64]; omega
    have k6 : (fu : Int) - (l1 : Int) = (sp : Int) := by have := hsp (by omega); omega
    have k7 : IntKind.i64.wrap (sp : Int) = (sp : Int) := by rw [IntKind.wrap_i64]; omega
    clear HO hsp h hf hl ht e1
    conv => arg 2; whnf
    dsimp only
    go_wp2
    apply HG.out HH.out
end Go.Proofs.YtapiedeekbfpnaaGreatDoor

/- The document's RunCommand, behind its first switch: a text is put. -/
namespace Go.Proofs.YtapiedeekbfpnaaGreatDoor
open Go.RowKit Go.Shelf Go.Maps Go.WideMaps Go.Sort
variable {A0 A1 A2 A3 A4 A5 A6 A7 A8 A9 B0 B1 B2 B3 B4 B5 B6 B7 B8 B9 C0 C1 C2 C3 C4 C5 C6 C7 C8 C9 D0 D1 D2 D3 D4 D5 D6 D7 D8 D9 E0 E1 E2 E3 E4 E5 E6 E7 E8 E9 G0 G1 G2 G3 G4 G5 G6 G7 G8 G9 H0 H1 H2 H3 H4 H5 H6 H7 H8 H9 I0 I1 I2 I3 I4 I5 I6 I7 I8 I9 J0 J1 J2 J3 J4 J5 J6 J7 J8 J9 K0 K1 K2 K3 K4 K5 K6 K7 K8 K9 M0 M1 M2 M3 M4 M5 M6 M7 M8 M9 N0 N1 N2 N3 N4 N5 N6 N7 N8 N9 O0 O1 O2 O3 O4 O5 O6 O7 O8 O9 P0 P1 P2 P3 P4 P5 P6 P7 P8 P9 R0 R1 R2 R3 R4 R5 R6 R7 R8 R9 S0 S1 S2 S3 S4 S5 S6 S7 S8 S9 T0 T1 T2 T3 T4 T5 T6 T7 T8 T9 U0 U1 U2 U3 U4 U5 U6 U7 U8 U9 V0 V1 V2 V3 V4 V5 V6 V7 V8 V9 W0 W1 W2 W3 W4 W5 W6 W7 W8 W9 X0 X1 X2 X3 X4 X5 X6 X7 X8 X9 Y0 Y1 Y2 Y3 Y4 Y5 Y6 Y7 Y8 Y9 Z0 Z1 Z2 Z3 Z4 Z5 Z6 Z7 Z8 Z9 j0 j1 j2 j3 j4 j5 j6 j7 j8 j9 o0 o1 o2 o3 o4 o5 o6 o7 o8 o9 y0 y1 y2 y3 y4 y5 y6 y7 y8 y9 z0 z1 z2 z3 z4 z5 z6 z7 z8 z9 x0 x1 x2 x3 x4 x5 x6 x7 x8 x9 i0 i1 i2 i3 i4 i5 i6 i7 i8 i9 d0 d1 d2 d3 d4 d5 d6 d7 d8 d9 e0 e1 e2 e3 e4 e5 e6 e7 e8 e9 f0 f1 f2 f3 f4 f5 f6 f7 f8 f9 p0 p1 p2 p3 p4 p5 p6 p7 p8 p9 v0 v1 v2 v3 v4 v5 v6 v7 v8 : Value}

set_option maxHeartbeats 8000000 in
set_option maxRecDepth 100000 in
theorem putT (pw g n cap rg fu lf r l1 q : Nat) (t wd old : ByteArray) (w : World) (hpw : w.cell? ⟨pw, 0, none⟩ = some (.slice (some ⟨g, 0, none⟩) n cap)) (hn : 0 < n) (h0 : w.cell? ⟨g, 0, none⟩ = some (.string wd)) (hne1 : pw ≠ rg) (hne2 : g ≠ rg) (hr : r < 8) (hrc : w.cell? ⟨rg, r, none⟩ = some (.string old)) (hrf : w.frozen? ⟨rg, r, none⟩ = false) (b1 : (wd.toList == [115, 97, 109, 101]) = false) (b2 : (wd.toList == [108, 101, 115, 115]) = false) (b3 : (wd.toList == [103, 111, 116, 111]) = false) (b4 : (wd.toList == [101, 120, 105, 116]) = false)
    (hf : fu ≤ 100000) (hl : lf ≤ fu) (ht : t.size ≤ 100000) (hq : q = t.size / 16) (hl1 : 1 + q ≤ lf → l1 = lf - (1 + q)) (Q0 : Exit → Act → World → Prop)
    (HO : Hid (lf < 1 + q → ∀ (Aw Bc Bf Bv Bw Rj Rk Rm Rq Rt Rv Rw Rx Ry Rz Sb Sc Sf Sg Sh Sj Sk Sm Sq St Sv Sw Sx Sy Sz Tb Tc Tf Tg Th Tj Tk Tm Tq Tt Tv Tw Tx Ty Tz Ub Uc Uf Ug Uh Uj Uk Um Uq Ut Uv Uw Ux Uy Uz Vb Vc Vf Vg Vh Vj Vk Vm Vq Vt Vv Vw Vx Vy Vz Wb Wc Wf Wg Wh Wj Wk Wm Wq Wt Wv Ww Wx Wy Wz Xb Xc Xf Xg Xh Xj Xk Xm Xq Xt Xv Xw Xx Xy Xz Yb Yc Yf Yg Yh Yj Yk Ym Yq Yt Yv Yw Yx Yy Yz Zb Zc Zf Zg Zh : Value), Q0 .ret ⟨#[A0,A1,.int .i64 (fu : Int),A3,A4,A5,B0,.int .i64 104,.int .i64 (fu : Int),.slice (some ⟨rg, 0, none⟩) 8 8,B0,Aw,B2,B3,.pointer (some ⟨pw, 0, none⟩),B5,Bc,Bf,.int .i64 (r : Int),.string t,.string ⟨#[]⟩,C1,C2,C3,C4,Bv,Bw,C7,C8,C9,D0,D1,D2,D3,D4,D5,D6,D7,D8,D9,E0,E1,E2,E3,E4,E5,E6,E7,E8,E9,G0,G1,G2,G3,G4,G5,G6,G7,G8,G9,H0,H1,H2,H3,H4,H5,H6,H7,H8,H9,I0,I1,I2,I3,I4,I5,I6,I7,I8,I9,J0,J1,J2,J3,J4,J5,J6,J7,J8,J9,K0,K1,K2,K3,K4,K5,K6,K7,K8,K9,M0,M1,M2,M3,M4,M5,M6,M7,M8,M9,N0,N1,N2,N3,N4,N5,N6,N7,N8,N9,O0,O1,O2,O3,O4,O5,O6,O7,O8,O9,P0,P1,P2,P3,P4,P5,P6,P7,P8,P9,R0,R1,R2,R3,R4,R5,R6,R7,R8,R9,S0,S1,S2,S3,S4,S5,S6,S7,S8,S9,T0,T1,T2,T3,T4,T5,T6,T7,T8,T9,U0,U1,U2,U3,U4,U5,U6,U7,U8,U9,V0,V1,V2,V3,V4,V5,V6,V7,V8,V9,W0,W1,W2,W3,W4,W5,W6,W7,W8,W9,X0,X1,X2,X3,X4,X5,X6,X7,X8,X9,Y0,Y1,Y2,Y3,Y4,Rj,Rk,Rm,Rq,Rt,Rv,Rw,Rx,Ry,Rz,Sb,Sc,Sf,Sg,Sh,Sj,Sk,Sm,Sq,St,Sv,Sw,Sx,Sy,Sz,Tb,Tc,Tf,Tg,Th,Tj,Tk,Tm,Tq,Tt,Tv,Tw,Tx,Ty,Tz,Ub,Uc,Uf,Ug,Uh,Uj,Uk,Um,Uq,Ut,Uv,Uw,Ux,Uy,Uz,Vb,Vc,Vf,Vg,Vh,Vj,Vk,Vm,Vq,Vt,Vv,Vw,Vx,Vy,Vz,Wb,Wc,Wf,Wg,Wh,Wj,Wk,Wm,Wq,Wt,Wv,Ww,Wx,Wy,Wz,Xb,Xc,Xf,Xg,Xh,Xj,Xk,Xm,Xq,Xt,Xv,Xw,Xx,Xy,Xz,Yb,Yc,Yf,Yg,Yh,Yj,Yk,Ym,Yq,Yt,Yv,Yw,Yx,Yy,Yz,Zb,Zc,Zf,Zg,Zh,v5,v6,v7,v8], []⟩ w)) (HG : Hid (¬ lf < 1 + q → ∀ (Bc Bf Bv Bw Rj Rk Rm Rq Rt Rv Rw Rx Ry Rz Sb Sc Sf Sg Sh Sj Sk Sm Sq St Sv Sw Sx Sy Sz Tb Tc Tf Tg Th Tj Tk Tm Tq Tt Tv Tw Tx Ty Tz Ub Uc Uf Ug Uh Uj Uk Um Uq Ut Uv Uw Ux Uy Uz Vb Vc Vf Vg Vh Vj Vk Vm Vq Vt Vv Vw Vx Vy Vz Wb Wc Wf Wg Wh Wj Wk Wm Wq Wt Wv Ww Wx Wy Wz Xb Xc Xf Xg Xh Xj Xk Xm Xq Xt Xv Xw Xx Xy Xz Yb Yc Yf Yg Yh Yj Yk Ym Yq Yt Yv Yw Yx Yy Yz Zb Zc Zf Zg Zh : Value), Q0 .normal ⟨#[A0,A1,.int .i64 (fu : Int),A3,A4,A5,A6,A7,A8,.slice (some ⟨rg, 0, none⟩) 8 8,B0,.int .i64 (l1 : Int),B2,B3,.pointer (some ⟨pw, 0, none⟩),B5,Bc,Bf,.int .i64 (r : Int),.string t,.string ⟨#[]⟩,C1,C2,C3,C4,Bv,Bw,C7,C8,C9,D0,D1,D2,D3,D4,D5,D6,D7,D8,D9,E0,E1,E2,E3,E4,E5,E6,E7,E8,E9,G0,G1,G2,G3,G4,G5,G6,G7,G8,G9,H0,H1,H2,H3,H4,H5,H6,H7,H8,H9,I0,I1,I2,I3,I4,I5,I6,I7,I8,I9,J0,J1,J2,J3,J4,J5,J6,J7,J8,J9,K0,K1,K2,K3,K4,K5,K6,K7,K8,K9,M0,M1,M2,M3,M4,M5,M6,M7,M8,M9,N0,N1,N2,N3,N4,N5,N6,N7,N8,N9,O0,O1,O2,O3,O4,O5,O6,O7,O8,O9,P0,P1,P2,P3,P4,P5,P6,P7,P8,P9,R0,R1,R2,R3,R4,R5,R6,R7,R8,R9,S0,S1,S2,S3,S4,S5,S6,S7,S8,S9,T0,T1,T2,T3,T4,T5,T6,T7,T8,T9,U0,U1,U2,U3,U4,U5,U6,U7,U8,U9,V0,V1,V2,V3,V4,V5,V6,V7,V8,V9,W0,W1,W2,W3,W4,W5,W6,W7,W8,W9,X0,X1,X2,X3,X4,X5,X6,X7,X8,X9,Y0,Y1,Y2,Y3,Y4,Rj,Rk,Rm,Rq,Rt,Rv,Rw,Rx,Ry,Rz,Sb,Sc,Sf,Sg,Sh,Sj,Sk,Sm,Sq,St,Sv,Sw,Sx,Sy,Sz,Tb,Tc,Tf,Tg,Th,Tj,Tk,Tm,Tq,Tt,Tv,Tw,Tx,Ty,Tz,Ub,Uc,Uf,Ug,Uh,Uj,Uk,Um,Uq,Ut,Uv,Uw,Ux,Uy,Uz,Vb,Vc,Vf,Vg,Vh,Vj,Vk,Vm,Vq,Vt,Vv,Vw,Vx,Vy,Vz,Wb,Wc,Wf,Wg,Wh,Wj,Wk,Wm,Wq,Wt,Wv,Ww,Wx,Wy,Wz,Xb,Xc,Xf,Xg,Xh,Xj,Xk,Xm,Xq,Xt,Xv,Xw,Xx,Xy,Xz,Yb,Yc,Yf,Yg,Yh,Yj,Yk,Ym,Yq,Yt,Yv,Yw,Yx,Yy,Yz,Zb,Zc,Zf,Zg,Zh,v5,v6,v7,v8], []⟩ (w.setCell ⟨rg, r, none⟩ (.string t)))) :
    Code.wp Tryz.prog (subC [true, true, true, true, false, true, false, false, true, false, true, true, true, true, true, true, true, true] (Tryz.f25.body.getD .skip)) Q0 ⟨#[A0,A1,.int .i64 (fu : Int),A3,A4,A5,A6,A7,A8,.slice (some ⟨rg, 0, none⟩) 8 8,B0,.int .i64 (lf : Int),B2,B3,.pointer (some ⟨pw, 0, none⟩),B5,.int .i64 1,.int .i64 0,.int .i64 (r : Int),.string t,.string ⟨#[]⟩,C1,C2,C3,C4,C5,C6,C7,C8,C9,D0,D1,D2,D3,D4,D5,D6,D7,D8,D9,E0,E1,E2,E3,E4,E5,E6,E7,E8,E9,G0,G1,G2,G3,G4,G5,G6,G7,G8,G9,H0,H1,H2,H3,H4,H5,H6,H7,H8,H9,I0,I1,I2,I3,I4,I5,I6,I7,I8,I9,J0,J1,J2,J3,J4,J5,J6,J7,J8,J9,K0,K1,K2,K3,K4,K5,K6,K7,K8,K9,M0,M1,M2,M3,M4,M5,M6,M7,M8,M9,N0,N1,N2,N3,N4,N5,N6,N7,N8,N9,O0,O1,O2,O3,O4,O5,O6,O7,O8,O9,P0,P1,P2,P3,P4,P5,P6,P7,P8,P9,R0,R1,R2,R3,R4,R5,R6,R7,R8,R9,S0,S1,S2,S3,S4,S5,S6,S7,S8,S9,T0,T1,T2,T3,T4,T5,T6,T7,T8,T9,U0,U1,U2,U3,U4,U5,U6,U7,U8,U9,V0,V1,V2,V3,V4,V5,V6,V7,V8,V9,W0,W1,W2,W3,W4,W5,W6,W7,W8,W9,X0,X1,X2,X3,X4,X5,X6,X7,X8,X9,Y0,Y1,Y2,Y3,Y4,Y5,Y6,Y7,Y8,Y9,Z0,Z1,Z2,Z3,Z4,Z5,Z6,Z7,Z8,Z9,j0,j1,j2,j3,j4,j5,j6,j7,j8,j9,o0,o1,o2,o3,o4,o5,o6,o7,o8,o9,y0,y1,y2,y3,y4,y5,y6,y7,y8,y9,z0,z1,z2,z3,z4,z5,z6,z7,z8,z9,x0,x1,x2,x3,x4,x5,x6,x7,x8,x9,i0,i1,i2,i3,i4,i5,i6,i7,i8,i9,d0,d1,d2,d3,d4,d5,d6,d7,d8,d9,e0,e1,e2,e3,e4,e5,e6,e7,e8,e9,f0,f1,f2,f3,f4,f5,f6,f7,f8,f9,p0,p1,p2,p3,p4,p5,p6,p7,p8,p9,v0,v1,v2,v3,v4,v5,v6,v7,v8], []⟩ w := by
  have k0 : (0 : Int) ≤ (r : Int) := by omega
  have k0' : (r : Int) < 8 := by omega
  have k1 : ¬ (100000 : Int) < (t.size : Int) := by omega
  have kn : (0 : Int) < (n : Int) := by omega
  have k8 : (t.size : Int).tdiv 16 = (q : Int) := by rw [Int.tdiv_eq_ediv_of_nonneg (by omega)]; omega
  have k8' : (t.size : Int) / 16 = (q : Int) := by omega
  have k9 : IntKind.i64.wrap (q : Int) = (q : Int) := by rw [IntKind.wrap_i64]; omega
  obtain ⟨ct, hct⟩ : ∃ ct : Nat, ct = 1 + q := ⟨_, rfl⟩
  have k10 : (1 : Int) + (q : Int) = (ct : Int) := by omega
  have k11 : IntKind.i64.wrap (ct : Int) = (ct : Int) := by rw [IntKind.wrap_i64]; omega
  have cp : (w.setCell ⟨rg, r, none⟩ (.string t)).cell? ⟨pw, 0, none⟩ = some (.slice (some ⟨g, 0, none⟩) n cap) := by rw [World.cell?_setCell_far _ _ _ _ (fun e => hne1 e.symm)]; exact hpw
  have cg : (w.setCell ⟨rg, r, none⟩ (.string t)).cell? ⟨g, 0, none⟩ = some (.string wd) := by rw [World.cell?_setCell_far _ _ _ _ (fun e => hne2 e.symm)]; exact h0
  by_cases h : lf < 1 + q
  · have HH : Hid _ := h
    have k3 : (lf : Int) < (ct : Int) := by omega
    clear HG h hf hl ht hq hl1 hct hr hn hne1 hne2
    conv => arg 2; whnf
    dsimp only
    go_wp2
    apply HO.out HH.out
  · have HH : Hid _ := h
    have k3 : ¬ (lf : Int) < (ct : Int) := by omega
    have k4 : (lf : Int) - (ct : Int) = (l1 : Int) := by have := hl1 (by omega); omega
    have k5 : IntKind.i64.wrap (l1 : Int) = (l1 : Int) := by rw [IntKind.wrap_i64]; have := hl1 (by omega); omega
    clear HO h hf hl ht hq hl1 hct hr hn hne1 hne2
    conv => arg 2; whnf
    dsimp only
    go_wp2
    apply HG.out HH.out
end Go.Proofs.YtapiedeekbfpnaaGreatDoor

/- The document's FileAt; a file among others that came in, as the document adds it. -/
namespace Go.Proofs.YtapiedeekbfpnaaGreatDoor
open Go.RowKit Go.Shelf Go.Maps Go.WideMaps Go.Sort
attribute [local go_sem ↓] appS_eq

theorem eqL (a b : ByteArray) : (a.toList == b.toList) = decide (a.data.toList = b.data.toList) := by
  rw [Lib.toList_data, Lib.toList_data, Bool.eq_iff_iff]
  simp
def FaR (L : List Fl) (s : List UInt8) (i : Int) : Prop := (i = -1 ∧ ∀ f ∈ L, pth f ≠ s) ∨ ∃ (j : Nat) (hj : j < L.length), i = j ∧ pth L[j] = s ∧ ∀ j' (hj' : j' < L.length), j' < j → pth L[j'] ≠ s

set_option maxHeartbeats 4000000 in
set_option maxRecDepth 100000 in
theorem FileAt_any (ao : Option Addr) (ac : Nat) (L : List Fl) (s : ByteArray) (w : World) (hl : IsFl w ao L) (hn : L.length ≤ 4611686018427387904) :
    Calls Tryz.prog 16 #[.slice ao L.length ac, .string s] w fun e w' => ∃ i, e = .returned (.int .i64 i) ∧ FaR L s.data.toList i ∧ w' = w := by
  have HL : Hid (IsFl w ao L) := hl
  have hn1 : (L.length : Int) ≤ 4611686018427387904 := by omega
  clear hl
  go_enter Tryz.func16, Tryz.ntmps16
  go_wp2
  go_loopw [5] (fun i wr => ∃ k : Nat, k ≤ L.length ∧ i = .int .i64 k ∧ (∀ j (hj : j < L.length), j < k → pth L[j] ≠ s.data.toList) ∧ wr = w) (fun i _ => L.length - (intOf i).toNat)
  case atStart => exact ⟨0, by omega, rfl, fun j _ h => absurd h (Nat.not_lt_zero _), rfl⟩
  case round =>
    obtain ⟨k, hk, rfl, hq, rfl⟩ := hrel
    have HQ : Hid (∀ j (hj : j < L.length), j < k → pth L[j] ≠ s.data.toList) := hq
    clear hq
    by_cases hlt : k < L.length
    · rcases HL.out with h | ⟨g, o, rfl, hg, hc⟩
      · exfalso; rw [h] at hlt; exact absurd hlt (by simp)
      obtain ⟨c0, _, _⟩ := hc k hlt
      have hki : (k : Int) < (L.length : Int) := by omega
      have hpe : (L[k].pa.toList == s.toList) = decide (pth L[k] = s.data.toList) := eqL _ _
      clear hc
      by_cases hp : pth L[k] = s.data.toList
      · have HZ : Hid (FaR L s.data.toList k) := .inr ⟨k, hlt, rfl, hp, HQ.out⟩
        rw [decide_eq_true hp] at hpe
        clear hp
        go_wp2
        go_ret
        exact ⟨_, rfl, HZ.out, rfl⟩
      · have HZ : Hid (∀ j (hj : j < L.length), j < k + 1 → pth L[j] ≠ s.data.toList) := fun j hj h => by
          by_cases e : j < k
          · exact HQ.out j hj e
          · have e2 : j = k := by omega
            subst e2
            exact hp
        rw [decide_eq_false hp] at hpe
        clear hp
        go_wp2
        exact ⟨⟨k + 1, by omega, by go_num, HZ.out, trivial⟩, by simp [intOf]; omega⟩
    · obtain rfl : k = L.length := by omega
      have hki : ¬ (L.length : Int) < (L.length : Int) := by omega
      have HZ : Hid (FaR L s.data.toList (-1)) := .inl ⟨rfl, fun f hf => by
        obtain ⟨j, hj, rfl⟩ := List.mem_iff_getElem.1 hf
        exact HQ.out j hj hj⟩
      go_wp2
      go_ret
      exact ⟨_, rfl, HZ.out, rfl⟩

theorem insF_take (f : Fl) : ∀ (L : List Fl) (k : Nat), k ≤ L.length → (∀ (j : Nat) (hj : j < L.length), j < k → pth L[j] < pth f) → (∀ hk : k < L.length, ¬ pth L[k] < pth f) → insF f L = L.take k ++ f :: L.drop k
  | [], k, hk, _, _ => by simp [insF]
  | g :: l, 0, _, _, h2 => by
    have h3 : ¬ pth g < pth f := h2 (by simp)
    unfold insF
    rw [if_neg h3]
    rfl
  | g :: l, k + 1, hk, h1, h2 => by
    have h3 : pth g < pth f := h1 0 (by simp) (by omega)
    have ih := insF_take f l k (by simpa using hk) (fun j hj hjk => h1 (j + 1) (by simp; omega) (by omega)) (fun hk2 => h2 (by simp; omega))
    unfold insF
    rw [if_pos h3, ih]
    rfl
theorem flCells_app (A C : List Fl) : flCells (A ++ C) = flCells A ++ flCells C := by simp [flCells]
theorem flCells_len (A : List Fl) : (flCells A).length = A.length * 3 := by
  induction A with
  | nil => rfl
  | cons f l ih =>
    have e : flCells (f :: l) = [.string f.pa, .string f.tx, .bool f.rn] ++ flCells l := rfl
    rw [e, List.length_append, ih, List.length_cons]
    simp
    omega
theorem flCells_one (A : List Fl) : ∀ u ∈ flCells A, u.oneCell' = true := fun u hu => by
  obtain ⟨f, _, hf⟩ := List.mem_flatMap.1 hu
  simp at hf
  rcases hf with rfl | rfl | rfl <;> rfl
/-- Cell by cell. -/
theorem flAt_cells {w : World} {g o : Nat} {F : List Fl} (h : FlAt g o F w) : ∀ j u, (flCells F)[j]? = some u → w.cell? ⟨g, o + j, none⟩ = some u := fun j u hu => by
  have hj : j < (flCells F).length := (List.getElem?_eq_some_iff.1 hu).1
  rw [flCells_len] at hj
  have hq : j / 3 < F.length := by omega
  obtain ⟨h0, h1, h2⟩ := h (j / 3) hq
  obtain ⟨k0, k1, k2⟩ := flCells_get F (j / 3) hq
  have hm : j % 3 = 0 ∨ j % 3 = 1 ∨ j % 3 = 2 := by omega
  rcases hm with e | e | e
  · have e2 : j = j / 3 * 3 := by omega
    rw [e2] at hu ⊢
    rw [k0] at hu
    rw [← hu]
    exact h0
  · have e2 : j = j / 3 * 3 + 1 := by omega
    rw [e2] at hu ⊢
    rw [k1] at hu
    rw [← hu]
    exact h1
  · have e2 : j = j / 3 * 3 + 2 := by omega
    rw [e2] at hu ⊢
    rw [k2] at hu
    rw [← hu]
    exact h2
theorem flAt_drop {w : World} {g o : Nat} {F : List Fl} (h : FlAt g o F w) (k : Nat) : FlAt g (o + k * 3) (F.drop k) w := fun j hj => by
  have hj2 : k + j < F.length := by rw [List.length_drop] at hj; omega
  obtain ⟨h0, h1, h2⟩ := h (k + j) hj2
  have e : o + k * 3 + j * 3 = o + (k + j) * 3 := by omega
  rw [e, List.getElem_drop]
  exact ⟨h0, h1, h2⟩
theorem flAt_take {w : World} {g o : Nat} {F : List Fl} (h : FlAt g o F w) (k : Nat) : FlAt g o (F.take k) w := fun j hj => by
  have hj2 : j < F.length := by rw [List.length_take] at hj; omega
  rw [List.getElem_take]
  exact h j hj2
theorem flAt_heap {w w' : World} {g o : Nat} {F : List Fl} (h : FlAt g o F w) (hb : w'.heap[g]? = w.heap[g]?) : FlAt g o F w' := fun j hj =>
  ⟨(World.cell?_of_block (w := w) hb).trans (h j hj).1, (World.cell?_of_block (w := w) hb).trans (h j hj).2.1, (World.cell?_of_block (w := w) hb).trans (h j hj).2.2⟩

/-- How adding ends. -/
def AfP (B : Nat) (F : List Fl) (w : World) (e : Ending) (w' : World) : Prop := ∃ g c, e = .returned (.slice (some ⟨g, 0, none⟩) F.length c) ∧ w'.ownsRow B 35 3 (.slice (some ⟨g, 0, none⟩) F.length c) F.length (flCells F) ∧ Below w.heap.size w w' ∧ w.heap.size ≤ g

/-- Both appends, wherever the file stands. -/
theorem addO_ap {B g o cap : Nat} {F : List Fl} {X : World} (hF : FlAt g o F X) (hg : g < X.heap.size) (hB : B ≤ X.heap.size) (f : Fl) (hn : F.length ≤ 1000) (hcap : F.length ≤ cap) (k : Nat) (hk : k ≤ F.length) (n : Nat) :
    ∃ (A : Addr) (v1 : Value) (g2 c2 : Nat) (w1 w2 : World), (if cap = k then some (⟨g, o, none⟩ : Addr) else some ⟨g, o + k * 3, none⟩) = some A ∧
      (appS #[22, 22] 22 #[.slice (some ⟨X.heap.size, 0, none⟩) 1 1, .slice (some A) (F.length - k) (cap - k)]).run Tryz.prog ((X.alloc (.cells #[.string f.pa, .string f.tx, .bool f.rn] 35)).drewN n) = .ok v1 w1 ∧
      (appS #[22, 22] 22 #[.slice (some ⟨g, o, none⟩) k k, v1]).run Tryz.prog w1 = .ok (.slice (some ⟨g2, 0, none⟩) (F.length + 1) c2) w2 ∧
      w2.ownsRow B 35 3 (.slice (some ⟨g2, 0, none⟩) (F.length + 1) c2) (F.length + 1) (flCells (F.take k ++ f :: F.drop k)) ∧ Below X.heap.size X w2 ∧ X.heap.size ≤ g2 := by
  obtain ⟨i0, hi, hz0, hz1, hz2⟩ := info_p infF
  obtain ⟨Y, hY⟩ : ∃ Y, Y = (X.alloc (.cells #[.string f.pa, .string f.tx, .bool f.rn] 35)).drewN n := ⟨_, rfl⟩
  rw [← hY]
  have hzY : Y.heap.size = X.heap.size + 1 := by rw [hY]; exact World.size_alloc _ _
  have hoY : ∀ x : Nat, x < X.heap.size → Y.heap[x]? = X.heap[x]? := fun x hx => by rw [hY]; exact ((Below.refl X.heap.size X).alloc (Nat.le_refl _) _).block x hx
  have hnY : Y.heap[X.heap.size]? = some (.cells #[.string f.pa, .string f.tx, .bool f.rn] 35 (0, 0)) := by rw [hY]; exact heap_alloc_new X _
  have hbY : Below X.heap.size X Y := by rw [hY]; exact (⟨rfl, rfl, rfl, ((Below.refl _ X).alloc (Nat.le_refl _) (.cells #[.string f.pa, .string f.tx, .bool f.rn] 35)).size, ((Below.refl _ X).alloc (Nat.le_refl _) (.cells #[.string f.pa, .string f.tx, .bool f.rn] 35)).block⟩ : Below X.heap.size X ((X.alloc (.cells #[.string f.pa, .string f.tx, .bool f.rn] 35)).drewN n))
  have hFY : FlAt g o F Y := flAt_heap hF (hoY g hg)
  obtain ⟨A, hA, hsrc⟩ : ∃ A : Addr, (if cap = k then some (⟨g, o, none⟩ : Addr) else some ⟨g, o + k * 3, none⟩) = some A ∧ ∀ j u, (flCells (F.drop k))[j]? = some u → Y.cell? (A.add j) = some u := by
    by_cases hck : cap = k
    · refine ⟨⟨g, o, none⟩, by simp [hck], fun j u hu => ?_⟩
      have : F.drop k = [] := List.drop_eq_nil_iff.2 (by omega)
      rw [this] at hu
      cases hu
    · refine ⟨⟨g, o + k * 3, none⟩, by simp [hck], fun j u hu => ?_⟩
      rw [addr_add]
      exact flAt_cells (flAt_drop hFY k) j u hu
  have hown0 : Y.ownsRow X.heap.size 35 3 (.slice (some ⟨X.heap.size, 0, none⟩) 1 1) 1 [.string f.pa, .string f.tx, .bool f.rn] :=
    ⟨rfl, .inr ⟨X.heap.size, 1, #[.string f.pa, .string f.tx, .bool f.rn], rfl, Nat.le_refl _, hnY, Nat.le_refl _, by decide, rfl, rfl⟩⟩
  obtain ⟨v1, w1, hr1, ho1, hg1', _⟩ := run_append_own (P := Tryz.prog) Y X.heap.size 22 22 35 i0 (.agg #[.string ⟨#[]⟩, .string ⟨#[]⟩, .bool false]) 3 40 Tryz.underlying22 hi hz0 hz1 hz2 rfl (by decide) (.slice (some ⟨X.heap.size, 0, none⟩) 1 1) 1 [.string f.pa, .string f.tx, .bool f.rn] hown0 A (F.length - k) (cap - k) (flCells (F.drop k)) (by rw [flCells_len, List.length_drop]) hsrc (flCells_one _) (by unfold maxLen; omega) (by omega) (by omega)
  obtain ⟨g1, c1, hv1, hg3, hg4⟩ := ho1.form (by omega)
  have hw1 : ∀ x : Nat, x < X.heap.size → w1.heap[x]? = X.heap[x]? := fun x hx => (hg1'.block x (by omega) (fun e => by simp [Value.ownBlock] at e; omega)).trans (hoY x hx)
  have hcells1 : ∀ j u, ([.string f.pa, .string f.tx, .bool f.rn] ++ flCells (F.drop k))[j]? = some u → w1.cell? ((⟨g1, 0, none⟩ : Addr).add j) = some u := by
    have := ho1
    rw [hv1] at this
    exact this.cells rfl
  have hFt : ∀ j u, (flCells (F.take k))[j]? = some u → w1.cell? ((⟨g, o, none⟩ : Addr).add j) = some u := fun j u hu => by
    rw [addr_add]
    exact flAt_cells (flAt_take (flAt_heap hF (hw1 g hg)) k) j u hu
  obtain ⟨v2, w2, hr2, ho2, hg2'⟩ := run_append_arg_grows (P := Tryz.prog) w1 22 22 35 i0 (.agg #[.string ⟨#[]⟩, .string ⟨#[]⟩, .bool false]) 3 40 Tryz.underlying22 hi hz0 hz1 hz2 rfl (by decide) ⟨g, o, none⟩ k k (flCells (F.take k)) (by rw [flCells_len, List.length_take]; omega) hFt ⟨g1, 0, none⟩ (1 + (F.length - k)) c1 ([.string f.pa, .string f.tx, .bool f.rn] ++ flCells (F.drop k)) (by rw [List.length_append, flCells_len, List.length_drop]; simp; omega) hcells1 (by omega) (by unfold maxLen; omega) (by omega)
  have hsz1 : X.heap.size ≤ w1.heap.size := by have := hg1'.size; omega
  have el : k + (1 + (F.length - k)) = F.length + 1 := by omega
  have ec : flCells (F.take k) ++ ([.string f.pa, .string f.tx, .bool f.rn] ++ flCells (F.drop k)) = flCells (F.take k ++ f :: F.drop k) := by
    rw [flCells_app]
    rfl
  rw [el, ec] at ho2
  obtain ⟨g2, c2, hv2, hg5, _⟩ := ho2.form (by omega)
  subst hv2
  rw [hv1] at hr1
  refine ⟨A, _, g2, c2, w1, w2, hA, hr1, hr2, row_low ho2 (by omega), ⟨hg2'.os.trans (hg1'.os.trans hbY.os), hg2'.tape.trans (hg1'.tape.trans hbY.tape), hg2'.output.trans (hg1'.output.trans hbY.output), by have := hg2'.size; omega, fun x hx => (hg2'.block x (by omega) (fun e => by cases e)).trans (hw1 x hx)⟩, by omega⟩

set_option maxHeartbeats 8000000 in
set_option maxRecDepth 100000 in
theorem AddFile_o (B g o cap : Nat) (F : List Fl) (f : Fl) (w : World) (h : FlAt g o F w) (hcap : F.length ≤ cap) (hg : g < w.heap.size) (hn : F.length ≤ 1000) (hB : B ≤ w.heap.size) :
    Calls Tryz.prog 18 #[.slice (some ⟨g, o, none⟩) F.length cap, encF f] w (AfP B (insF f F) w) := by
  obtain ⟨fp, ft, fr⟩ := f
  obtain ⟨X, hX⟩ : ∃ X, X = w.alloc (.cells #[.string fp, .string ft, .bool fr] 35) := ⟨_, rfl⟩
  have hbX : Below w.heap.size w X := by rw [hX]; exact (Below.refl _ w).alloc (Nat.le_refl _) _
  have hzX : X.heap.size = w.heap.size + 1 := by rw [hX]; exact World.size_alloc _ _
  have hFX : FlAt g o F X := flAt_heap h (hbX.block g hg)
  have HC : Hid (∀ (k : Nat) (hk : k < F.length), X.cell? ⟨g, o + k * 3, none⟩ = some (.string F[k].pa)) := fun k hk => (hFX k hk).1
  have x0 : X.cell? ⟨w.heap.size, 0, none⟩ = some (.string fp) := by rw [hX]; exact (Lib.cell_of_heap (heap_alloc_new w _) 0)
  have x1 : X.cell? ⟨w.heap.size, 1, none⟩ = some (.string ft) := by rw [hX]; exact (Lib.cell_of_heap (heap_alloc_new w _) 1)
  have x2 : X.cell? ⟨w.heap.size, 2, none⟩ = some (.bool fr) := by rw [hX]; exact (Lib.cell_of_heap (heap_alloc_new w _) 2)
  have HAp : Hid (∀ (k : Nat) (n : Nat), k ≤ F.length → ∃ (A : Addr) (v1 : Value) (g2 c2 : Nat) (w1 w2 : World), (if cap = k then some (⟨g, o, none⟩ : Addr) else some ⟨g, o + k * 3, none⟩) = some A ∧
      (appS #[22, 22] 22 #[.slice (some ⟨X.heap.size, 0, none⟩) 1 1, .slice (some A) (F.length - k) (cap - k)]).run Tryz.prog ((X.drewN n).alloc (.cells #[.string fp, .string ft, .bool fr] 35)) = .ok v1 w1 ∧
      (appS #[22, 22] 22 #[.slice (some ⟨g, o, none⟩) k k, v1]).run Tryz.prog w1 = .ok (.slice (some ⟨g2, 0, none⟩) (F.length + 1) c2) w2 ∧
      Hid (w2.ownsRow B 35 3 (.slice (some ⟨g2, 0, none⟩) (F.length + 1) c2) (F.length + 1) (flCells (F.take k ++ ⟨fp, ft, fr⟩ :: F.drop k)) ∧ Below w.heap.size w w2 ∧ w.heap.size ≤ g2)) := fun k n hk => by
    obtain ⟨A, v1, g2, c2, w1, w2, h1, h2, h3, h4, h5, h6⟩ := addO_ap (B := B) (cap := cap) hFX (by omega) (by omega) ⟨fp, ft, fr⟩ hn hcap k hk n
    exact ⟨A, v1, g2, c2, w1, w2, h1, h2, h3, h4, hbX.trans (h5.mono hbX.size), by omega⟩
  have hn1 : (F.length : Int) ≤ 1000 := by omega
  unfold encF
  simp only
  clear h hbX hFX hg hzX
  go_enter Tryz.func18, Tryz.ntmps18
  go_wp2
  rw [← hX]
  clear hX
  go_loopw [5] (fun v wr => ∃ k m : Nat, k ≤ F.length ∧ v = .int .i64 (k : Int) ∧ wr = X.drewN m ∧ Hid (∀ (j : Nat) (hj : j < F.length), j < k → pth F[j] < fp.data.toList)) (fun v _ => F.length - (RowKit.intOf v).toNat)
  case atStart => exact ⟨0, 0, Nat.zero_le _, rfl, rfl, fun j hj h => absurd h (by omega)⟩
  case round =>
    obtain ⟨k, m, hk, rfl, rfl, HLo⟩ := hrel
    obtain ⟨k1, hk1⟩ : ∃ k1, k1 = k + 1 := ⟨_, rfl⟩
    have hk2 : (k : Int) + 1 = (k1 : Int) := by omega
    have hw2 : IntKind.i64.wrap (k1 : Int) = (k1 : Int) := by rw [IntKind.wrap_i64]; omega
    have HK1 : Hid (k1 = k + 1) := hk1
    have hk4 : k ≤ cap := by omega
    clear hk1
    by_cases hlt : k < F.length
    · have hki : (k : Int) < (F.length : Int) := by omega
      have c1 := HC.out k hlt
      have hbl : Op.bytesLess (F[k].pa).toList fp.toList = decide (pth F[k] < fp.data.toList) := by rw [Lib.toList_data, Lib.toList_data, tlt]; rfl
      by_cases hb : pth F[k] < fp.data.toList
      · rw [decide_eq_true hb] at hbl
        have HLo2 : Hid (∀ (j : Nat) (hj : j < F.length), j < k1 → pth F[j] < fp.data.toList) := fun j hj hj2 => by
          by_cases e : j < k
          · exact HLo.out j hj e
          · have e2 : j = k := by have := HK1.out; omega
            subst e2
            exact hb
        clear hb
        generalize F[k].pa = x at c1 hbl
        go_wp2
        go_quiet (fail)
        go_wp2
        refine ⟨⟨k1, m + nq, by rw [HK1.out]; exact hlt, rfl, by simp, HLo2⟩, ?_⟩
        have := HK1.out
        simp [RowKit.intOf]; omega
      · rw [decide_eq_false hb] at hbl
        have HZ : Hid (insF ⟨fp, ft, fr⟩ F = F.take k ++ ⟨fp, ft, fr⟩ :: F.drop k ∧ (F.take k ++ ⟨fp, ft, fr⟩ :: F.drop k).length = F.length + 1) := ⟨insF_take _ F k hk HLo.out fun _ => hb, by simp; omega⟩
        clear hb
        generalize F[k].pa = x at c1 hbl
        go_wp2
        go_quiet (fail)
        obtain ⟨A, v1, g2, c2, w1, w2, hA, ha1, ha2, HE⟩ := HAp.out k (m + nq + 1) hk
        have HF : Hid (AfP B (insF ⟨fp, ft, fr⟩ F) w (.returned (.slice (some ⟨g2, 0, none⟩) (F.length + 1) c2)) w2) := ⟨g2, c2, by rw [HZ.out.1, HZ.out.2], by rw [HZ.out.1, HZ.out.2]; exact HE.out.1, HE.out.2⟩
        clear hlt
        go_wp2
        go_region
        all_goals
          go_wp2
          go_ret
          exact HF.out
    · have hki : ¬ (k : Int) < (F.length : Int) := by omega
      have HZ : Hid (insF ⟨fp, ft, fr⟩ F = F.take k ++ ⟨fp, ft, fr⟩ :: F.drop k ∧ (F.take k ++ ⟨fp, ft, fr⟩ :: F.drop k).length = F.length + 1) := ⟨insF_take _ F k hk HLo.out fun h => absurd h hlt, by simp; omega⟩
      go_wp2
      go_quiet (fail)
      obtain ⟨A, v1, g2, c2, w1, w2, hA, ha1, ha2, HE⟩ := HAp.out k (m + nq + 1) hk
      have HF : Hid (AfP B (insF ⟨fp, ft, fr⟩ F) w (.returned (.slice (some ⟨g2, 0, none⟩) (F.length + 1) c2)) w2) := ⟨g2, c2, by rw [HZ.out.1, HZ.out.2], by rw [HZ.out.1, HZ.out.2]; exact HE.out.1, HE.out.2⟩
      go_wp2
      go_region
      all_goals
        go_wp2
        go_ret
        exact HF.out
end Go.Proofs.YtapiedeekbfpnaaGreatDoor

/- A law whose row lists variables of the program: its wrap, the world's shape kept. -/
namespace Go.Proofs.YtapiedeekbfpnaaGreatDoor
open Go.ChangeShapes Go.WideShapes Go.ChangeAt Go.RowKit Go.Shelf

/-- What is asked of a call in a world that can be met. -/
def Meets {H : Type} (enc : TypeId × Value → H) (f : FuncId) (fn : Func) (s : ChangeSpec) (laid : List (String × DataW Unit)) : Prop :=
  ∀ (W : World) (base : Nat) (args : Array Value) (ds gs : List (DataW H)) (before : List MemPlace),
    (∀ (j : Nat) t v, fn.params[j]? = some t → args[j]? = some v → Value.okWide Tryz.prog W .any base t v) →
    DataW.Whole enc Tryz.prog fn.params.toList s.vars false W args.toList ds gs before →
    (DataW.weightsEach Tryz.prog (fn.params.toList ++ s.plain.varTypes Tryz.prog) (ds ++ gs)).all (· ≤ reachBytes) = true →
    laidMetH Tryz.prog laid W → W.ShapedOpen Tryz.prog →
    Calls Tryz.prog f args W fun e W' => ∃ v, e = .returned v ∧ s.post enc Tryz.prog fn false true false false W args v W'

set_option maxRecDepth 100000 in
theorem returns_laid {H : Type} {enc : TypeId × Value → H} {os : Os} {f : FuncId} {fn : Func} {s : ChangeSpec} {conds : List PathCond} {laid : List (String × DataW Unit)}
    (own : ownKnob Tryz.prog.godebug = none) (started : os.Started) (noInit : Tryz.checked.prog.inits.idxOf? f = none) (hfn : Tryz.checked.prog.funcs[f]? = some fn)
    (start : ∃ (w : World) (tape : Tape) (i : Input), w.os = os ∧ (w.forCall tape i).Shaped Tryz.checked.prog ∧ i.vars = [] ∧ Input.okWide Tryz.checked.prog (w.forCall tape i) .any w.heap.size f i ∧
      ((s.pre enc Tryz.checked.prog fn conds false (w.forCall tape i).memory i.args ∧ laidMetH Tryz.prog laid (w.forCall tape i).memory) ∧ sizedMet enc Tryz.checked.prog fn (OpenSpec.ofChange s) false (w.forCall tape i).memory i.args) ∧ Assume.holds {} Tryz.checked.prog (lone (Frame.enter Tryz.checked.prog f i.args .normal) [] (w.forCall tape i)))
    (meets : Meets enc f fn s laid) :
    ReturnsInHanded {} Tryz.checked os f .any (fun w args => (s.pre enc Tryz.prog fn conds false w args ∧ laidMetH Tryz.prog laid w) ∧ sizedMet enc Tryz.prog fn (OpenSpec.ofChange s) false w args) (s.post enc Tryz.prog fn false true false false) := by
  refine returnsInHanded_of_calls own started noInit start fun w tape i _ shape _ wide met _ => ?_
  obtain ⟨_, _, _, fn', h, _, _, _, _, vals⟩ := wide
  cases Option.some.inj (h.symm.trans hfn)
  obtain ⟨⟨⟨ds, gs, before, whole, _⟩, lies⟩, sized⟩ := met
  refine (meets (w.forCall tape i) w.heap.size i.args ds gs before vals (DataW.Whole.of_heap (w' := w.forCall tape i) (by rfl) whole) (sized.weights whole) (laidMetH.of_heap (by rfl) lies) shape).mono ?_
  rintro e W' ⟨v, rfl, post⟩
  exact ChangeSpec.post_blind post

set_option maxRecDepth 100000 in
theorem max_of_shaped {W : World} (h : W.ShapedOpen Tryz.prog) : MaxIs W :=
  cell_of_shapedOpen_int (t := 3) (zero := #[.int .i64 0]) h (by decide +kernel) (by kernel_rfl) rfl (by kernel_rfl) (by kernel_rfl) Tryz.underlying3
end Go.Proofs.YtapiedeekbfpnaaGreatDoor
