/- Plain functions on lists of bytes: how a number is packed and read, with their laws: no program is named here. -/
import Derived.WalkKit
import Derived.Lib.Strings
import Derived.Lib.Builder
import Derived.Lib.UnsafeStr
import Derived.Laws.BitsLemmas
import Derived.ProofKit
import Derived.Below
import Derived.WalkSmall
import Derived.Lib.SmallJoins
import Derived.Lib.Slices
import Derived.Lib.Walk
import Derived.Lib.OthersKept
import Derived.Lib.AppendStr
import Derived.Laws.Externs
import Derived.WalkSpells
import Derived.WalkLawsBesides
import Derived.Deep.RegionHeld3
import Derived.Deep.AppendLies
import Derived.Deep.QuietTactic
import Derived.BigQuiet
import Derived.BigRegion
import Derived.Shelf.Abstract
import Derived.Maps.OwnSet
import Derived.Maps.Views
import Derived.Maps.RangeWalk
import Derived.Lib.Hide
import Derived.Test.YtapiedeekbfpnaaGreatDoorRows
import Derived.Test.YtapiedeekbfpnaaGreatDoorChecked
import Derived.Shelf.Strings.Split
import Derived.Laws.RangeAny
namespace Go.Proofs.YtapiedeekbfpnaaGreatDoor
open Go.RowKit

def pkF : Nat → Nat → List UInt8
  | 0, n => [UInt8.ofNat n]
  | f + 1, n => if n < 128 then [UInt8.ofNat n] else UInt8.ofNat (n % 128 + 128) :: pkF f (n / 128)
def pk (n : Nat) : List UInt8 := pkF n n

theorem pkF_eq : ∀ f g m : Nat, m ≤ f → m ≤ g → pkF f m = pkF g m := by
  intro f
  induction f with
  | zero =>
    intro g m h1 _
    obtain rfl : m = 0 := by omega
    cases g <;> simp [pkF]
  | succ f ih =>
    intro g m h1 h2
    cases g with
    | zero =>
      obtain rfl : m = 0 := by omega
      simp [pkF]
    | succ g =>
      by_cases h : m < 128
      · simp [pkF, h]
      · simp only [pkF, if_neg h]
        rw [ih g (m / 128) (by omega) (by omega)]
theorem pk_small (m : Nat) (h : m < 128) : pk m = [UInt8.ofNat m] := by
  unfold pk
  cases m with
  | zero => rfl
  | succ k => simp only [pkF, if_pos h]
theorem pk_more (m : Nat) (h : 128 ≤ m) : pk m = UInt8.ofNat (m % 128 + 128) :: pk (m / 128) := by
  unfold pk
  obtain ⟨k, rfl⟩ : ∃ k, m = k + 1 := ⟨m - 1, by omega⟩
  rw [show pkF (k + 1) (k + 1) = UInt8.ofNat ((k + 1) % 128 + 128) :: pkF k ((k + 1) / 128) from by simp only [pkF, if_neg (show ¬ k + 1 < 128 by omega)]]
  rw [pkF_eq k ((k + 1) / 128) _ (by omega) (by omega)]
theorem pk_pos (m : Nat) : 0 < (pk m).length := by
  by_cases h : m < 128
  · rw [pk_small m h]; simp
  · rw [pk_more m (by omega)]; simp

theorem pk_len : ∀ k n : Nat, n < 128 ^ (k + 1) → (pk n).length ≤ k + 1 := by
  intro k
  induction k with
  | zero => intro n h; rw [pk_small n (by simpa using h)]; simp
  | succ k ih =>
    intro n h
    by_cases hs : n < 128
    · rw [pk_small n hs]; simp
    · rw [pk_more n (by omega)]
      have := ih (n / 128) (by rw [Nat.div_lt_iff_lt_mul (by decide)]; rw [Nat.pow_succ] at h; exact h)
      simp; omega
theorem pk_len8 (n : Nat) (h : n ≤ 9007199254740991) : (pk n).length ≤ 8 := pk_len 7 n (by omega)

/-- The number that bytes with seven bits each say, the lowest first. -/
def val : List UInt8 → Nat
  | [] => 0
  | c :: r => c.toNat % 128 + 128 * val r
theorem val_snoc (l : List UInt8) (c : UInt8) : val (l ++ [c]) = val l + 128 ^ l.length * (c.toNat % 128) := by
  induction l with
  | nil => simp [val]
  | cons d r ih => simp only [List.cons_append, val, ih, List.length_cons, Nat.pow_succ, Nat.mul_add]; rw [Nat.mul_comm (128 ^ r.length) 128, Nat.mul_assoc]; omega
theorem val_lt (l : List UInt8) : val l < 128 ^ l.length := by
  induction l with
  | nil => simp [val]
  | cons d r ih =>
    simp only [val, List.length_cons, Nat.pow_succ]
    have : d.toNat % 128 < 128 := Nat.mod_lt _ (by decide)
    omega
theorem take_snoc (s : ByteArray) (k : Nat) (h : k < s.size) : s.data.toList.take (k + 1) = s.data.toList.take k ++ [s[k]] := by
  rw [List.take_succ_eq_append_getElem (by simpa using h)]; rfl
theorem wraps_i64 (n : Int) (h0 : 0 ≤ n) (h1 : n < 2 ^ 63) : IntKind.i64.wrap n = n := by rw [IntKind.wrap_i64]; omega
theorem or_step (m N c : Nat) (hm : m < 8) (hN : N < 128 ^ m) : bits .or .i64 (N : Int) (wrap64 ((c : Int) % 128 * 2 ^ (7 * m))) = ((N + 128 ^ m * (c % 128) : Nat) : Int) := by
  have hp : 128 ^ m = 2 ^ (7 * m) := by rw [Nat.pow_mul]
  have h7 : 2 ^ (7 * m) ≤ 2 ^ 49 := Nat.pow_le_pow_right (by decide) (by omega)
  have hc : c % 128 < 128 := Nat.mod_lt _ (by decide)
  rw [hp] at hN ⊢
  have hy : c % 128 * 2 ^ (7 * m) ≤ 127 * 2 ^ 49 := Nat.mul_le_mul (by omega) h7
  have e1 : (c : Int) % 128 * 2 ^ (7 * m) = ((c % 128 * 2 ^ (7 * m) : Nat) : Int) := by push_cast; rfl
  have e2 : wrap64 ((c : Int) % 128 * 2 ^ (7 * m)) = ((2 ^ (7 * m) * (c % 128) : Nat) : Int) := by
    rw [e1, Nat.mul_comm (2 ^ (7 * m))]
    generalize c % 128 * 2 ^ (7 * m) = y at hy ⊢
    unfold wrap64
    omega
  rw [e2]
  have hy2 : 2 ^ (7 * m) * (c % 128) < 2 ^ 63 := by rw [Nat.mul_comm]; omega
  rw [(bits_nat .i64 63 (by decide) wraps_i64 N _ (by omega) hy2).2, Nat.or_comm, ← Nat.two_pow_add_eq_or_of_lt hN, Nat.add_comm]

theorem pk_form : ∀ f n : Nat, n ≤ f → ∃ d c, pk n = d ++ [c] ∧ (∀ x ∈ d, 128 ≤ x.toNat) ∧ c.toNat < 128 ∧ (d = [] ∨ c.toNat ≠ 0) ∧ (128 ≤ n → d ≠ []) ∧ (0 < n → c.toNat ≠ 0) := by
  intro f
  induction f with
  | zero =>
    intro n h
    obtain rfl : n = 0 := by omega
    exact ⟨[], 0, rfl, by simp, by decide, Or.inl rfl, by omega, by omega⟩
  | succ f ih =>
    intro n h
    by_cases hs : n < 128
    · refine ⟨[], UInt8.ofNat n, by rw [pk_small n hs]; rfl, by simp, ?_, Or.inl rfl, by omega, ?_⟩
      · simp [UInt8.toNat_ofNat']; omega
      · simp [UInt8.toNat_ofNat']; omega
    · obtain ⟨d, c, e, hd, hc, _, _, h0⟩ := ih (n / 128) (by omega)
      have hc0 := h0 (by omega)
      refine ⟨UInt8.ofNat (n % 128 + 128) :: d, c, by rw [pk_more n (by omega), e]; rfl, ?_, hc, Or.inr hc0, by simp, fun _ => hc0⟩
      intro x hx
      rcases List.mem_cons.1 hx with rfl | hx
      · simp [UInt8.toNat_ofNat']; omega
      · exact hd x hx
theorem val_pk : ∀ f n : Nat, n ≤ f → val (pk n) = n := by
  intro f
  induction f with
  | zero =>
    intro n h
    obtain rfl : n = 0 := by omega
    rfl
  | succ f ih =>
    intro n h
    by_cases hs : n < 128
    · rw [pk_small n hs]; simp [val, UInt8.toNat_ofNat']; omega
    · rw [pk_more n (by omega)]
      simp only [val, ih (n / 128) (by omega), UInt8.toNat_ofNat']
      omega
theorem bytes_eq {s : ByteArray} {l : List UInt8} (h : s.data.toList = l) : s = ⟨l.toArray⟩ := by
  subst h
  cases s
  simp
theorem size_of {s : ByteArray} {l : List UInt8} (h : s.data.toList = l) : s.size = l.length := by rw [← h]; exact Array.length_toList.symm
theorem extract_end (s : ByteArray) (a r : List UInt8) (h : s.data.toList = a ++ r) : s.extract a.length s.size = ⟨r.toArray⟩ := by
  apply bytes_eq
  rw [Lib.extract_data]
  have : s.size = (a ++ r).length := size_of h
  rw [h, this]
  simp
theorem extract_mid (s : ByteArray) (a r : List UInt8) (h : s.data.toList = a ++ r) : s.extract 0 a.length = ⟨a.toArray⟩ := by
  apply bytes_eq
  rw [Lib.extract_data, h]
  simp

theorem byteCells_snoc (l : List UInt8) (n : Nat) (h : n < 256) : Lib.byteCells (l ++ [UInt8.ofNat n]) = Lib.byteCells l ++ [Value.int .u8 (n : Int)] := by
  have : (UInt8.ofNat n).toNat = n := by simp [UInt8.toNat_ofNat']; omega
  simp [Lib.byteCells, this]
end Go.Proofs.YtapiedeekbfpnaaGreatDoor

/- What the texts lean on where a seat has no packing. -/
namespace Go.Proofs.YtapiedeekbfpnaaGreatDoor
open Go.RowKit Go.Shelf

theorem infS : (Tryz.prog.info? 9).map (fun i => (i.zero, i.size, i.bytes)) = some (some (.string ⟨#[]⟩), 1, 16) := by kernel_rfl
/-- A value that is a slice of these texts. -/
def IsTexts (w : World) (v : Value) (ss : List ByteArray) : Prop :=
  ss.length ≤ 4611686018427387904 ∧ ∃ a cap, v = .slice a ss.length cap ∧ (ss = [] ∨ ∃ g o, a = some ⟨g, o, none⟩ ∧ ∀ j (hj : j < ss.length), w.cell? ⟨g, o + j, none⟩ = some (.string ss[j]))
def strs (l : List (List UInt8)) : List Value := l.map fun t => .string ⟨t.toArray⟩
theorem addr_add (g o j : Nat) : (⟨g, o, none⟩ : Addr).add j = ⟨g, o + j, none⟩ := by
  unfold Addr.add
  split <;> simp_all
end Go.Proofs.YtapiedeekbfpnaaGreatDoor

/- What IsName answers, the program's and the document's own. -/
namespace Go.Proofs.YtapiedeekbfpnaaGreatDoor
open Go.RowKit Go.Shelf

def nmB (c : Int) : Bool := decide (97 ≤ c ∧ c ≤ 122) || decide (48 ≤ c ∧ c ≤ 57) || (c == 95) || (c == 45) || (c == 46)

set_option maxHeartbeats 2000000 in
theorem isNameByte_any (c : Int) (w : World) (h0 : 0 ≤ c) (h1 : c < 256) :
    Calls Tryz.prog 130 #[.int .u8 c] w fun e w' => e = .returned (.bool (nmB c)) ∧ w' = w := by
  by_cases a1 : 97 ≤ c
  · by_cases a2 : c ≤ 122
    · go_enter Tryz.func130, Tryz.ntmps130
      go_wp2
      go_ret
      exact ⟨by simp [nmB, a1, a2], rfl⟩
    · have e1 : (c == 95) = false := by simp; omega
      have e2 : (c == 45) = false := by simp; omega
      have e3 : (c == 46) = false := by simp; omega
      have d1 : decide (c ≤ 57) = false := by simp; omega
      have d2 : decide (c ≤ 122) = false := by simp; omega
      have HF : Hid (nmB c = false) := by show _ = _; simp [nmB, e1, e2, e3]; omega
      clear a2
      go_enter Tryz.func130, Tryz.ntmps130
      go_wp2
      go_ret
      exact ⟨by rw [HF.out]; rfl, rfl⟩
  · by_cases a2 : 48 ≤ c ∧ c ≤ 57
    · obtain ⟨a2, a3⟩ := a2
      go_enter Tryz.func130, Tryz.ntmps130
      go_wp2
      go_ret
      exact ⟨by simp [nmB, a2, a3], rfl⟩
    · by_cases b1 : c = 95
      · subst b1
        go_enter Tryz.func130, Tryz.ntmps130
        go_wp2
        go_ret
        exact ⟨by rw [show nmB 95 = true from by decide]; rfl, rfl⟩
      · by_cases b2 : c = 45
        · subst b2
          go_enter Tryz.func130, Tryz.ntmps130
          go_wp2
          go_ret
          exact ⟨by rw [show nmB 45 = true from by decide]; rfl, rfl⟩
        · by_cases b3 : c = 46
          · subst b3
            go_enter Tryz.func130, Tryz.ntmps130
            go_wp2
            go_ret
            exact ⟨by rw [show nmB 46 = true from by decide]; rfl, rfl⟩
          · have e1 : (c == 95) = false := by simpa using b1
            have e2 : (c == 45) = false := by simpa using b2
            have e3 : (c == 46) = false := by simpa using b3
            have hf : nmB c = false := by simp [nmB, e1, e2, e3]; omega
            have HF : Hid _ := hf
            clear hf b1 b2 b3
            rcases Int.lt_or_le c 48 with a3 | a3
            · clear a2
              go_enter Tryz.func130, Tryz.ntmps130
              go_wp2
              go_ret
              exact ⟨by rw [HF.out]; rfl, rfl⟩
            · have a4 : decide (c ≤ 57) = false := by simp; omega
              clear a2
              go_enter Tryz.func130, Tryz.ntmps130
              go_wp2
              go_ret
              exact ⟨by rw [HF.out]; rfl, rfl⟩

def nameOk (s : ByteArray) : Bool := !(s.toList == []) && decide (s.size ≤ 20) && !(s.toList == [46]) && !(s.toList == [46, 46]) && (s.toList.all fun c => nmB c.toNat)

theorem toList_get (s : ByteArray) (k : Nat) (h : k < s.size) : s.toList[k]? = some s[k] := by
  rw [Lib.toList_data]
  have : k < s.data.toList.length := by rw [← size_of (s := s) rfl]; exact h
  rw [List.getElem?_eq_getElem this]
  rfl
theorem all_false (s : ByteArray) (k : Nat) (h : k < s.size) (f : UInt8 → Bool) (hf : f s[k] = false) : s.toList.all f = false := by
  rw [List.all_eq_false]
  exact ⟨s[k], List.mem_of_getElem? (toList_get s k h), by simp [hf]⟩
theorem all_true (s : ByteArray) (f : UInt8 → Bool) (hf : ∀ j (hj : j < s.size), f s[j] = true) : s.toList.all f = true := by
  rw [List.all_eq_true]
  intro c hc
  obtain ⟨j, hj, rfl⟩ := List.getElem_of_mem hc
  have hj' : j < s.size := by rw [Lib.toList_data] at hj; rw [size_of (s := s) rfl]; exact hj
  have := toList_get s j hj'
  rw [List.getElem?_eq_getElem hj] at this
  rw [Option.some.inj this]
  exact hf j hj'

set_option maxHeartbeats 1000000 in
set_option maxRecDepth 100000 in
theorem IsName_any (s : ByteArray) (w : World) (hs : s.size ≤ maxLen) :
    Calls Tryz.prog 107 #[.string s] w fun e w' => e = .returned (.bool (nameOk s)) ∧ w' = w := by
  have hsz : (s.size : Int) ≤ 9223372036854775807 := by unfold maxLen at hs; omega
  clear hs
  by_cases h1 : s.toList.isEmpty = true
  · have HF : Hid (nameOk s = false) := by show _ = _; rw [List.isEmpty_iff] at h1; simp [nameOk, h1]
    go_enter Tryz.func107, Tryz.ntmps107
    go_wp2
    go_ret
    exact ⟨by rw [HF.out]; rfl, rfl⟩
  have h1' : s.toList.isEmpty = false := by simpa using h1
  have h1n : (s.toList == []) = false := by cases h : s.toList <;> simp_all
  have H1 : Hid _ := h1n
  clear h1 h1n
  by_cases h2 : 20 < s.size
  · have h2' : (20 : Int) < s.size := by omega
    have HF : Hid (nameOk s = false) := by show _ = _; simp [nameOk, Nat.not_le.2 h2]
    clear h2
    go_enter Tryz.func107, Tryz.ntmps107
    go_wp2
    go_ret
    exact ⟨by rw [HF.out]; rfl, rfl⟩
  have h2' : (s.size : Int) ≤ 20 := by omega
  have H2 : Hid (s.size ≤ 20) := Nat.le_of_not_lt h2
  clear h2
  by_cases h3 : (s.toList == [46]) = true
  · have HF : Hid (nameOk s = false) := by show _ = _; simp [nameOk, h3]
    go_enter Tryz.func107, Tryz.ntmps107
    go_wp2
    go_ret
    exact ⟨by rw [HF.out]; rfl, rfl⟩
  have h3' : (s.toList == [46]) = false := by simpa using h3
  clear h3
  by_cases h4 : (s.toList == [46, 46]) = true
  · have HF : Hid (nameOk s = false) := by show _ = _; simp [nameOk, h4]
    go_enter Tryz.func107, Tryz.ntmps107
    go_wp2
    go_ret
    exact ⟨by rw [HF.out]; rfl, rfl⟩
  have h4' : (s.toList == [46, 46]) = false := by simpa using h4
  clear h4
  have HN : Hid (nameOk s = s.toList.all fun c => nmB c.toNat) := by show _ = _; simp only [nameOk, H1.out, h3', h4', H2.out]; simp
  go_enter Tryz.func107, Tryz.ntmps107
  go_wp2
  go_loop [21] (fun i => ∃ k : Nat, k ≤ s.size ∧ i = .int .i64 k ∧ ∀ j (hj : j < s.size), j < k → nmB s[j].toNat = true) (fun i => s.size - (intOf i).toNat)
  case atStart => exact ⟨0, Nat.zero_le _, rfl, by omega⟩
  case round =>
    obtain ⟨k, hk, rfl, hlo⟩ := hrel
    have HL : Hid _ := hlo
    clear hlo
    by_cases hlt : k < s.size
    · by_cases hb : nmB s[k].toNat = true
      · go_wp2_with (go_at_call 130; refine (isNameByte_any _ _ (by omega) (by have := s[k].toNat_lt; omega)).mono ?_; rintro e w' ⟨rfl, rfl⟩; rw [hb])
        refine ⟨⟨k + 1, by omega, by go_num, fun j hj hjk => ?_⟩, by simp [intOf]; omega⟩
        by_cases h : j < k
        · exact HL.out j hj h
        · obtain rfl : j = k := by omega
          exact hb
      · have hb' : nmB s[k].toNat = false := by simpa using hb
        clear hb
        have HF : Hid (nameOk s = false) := by show _ = _; rw [HN.out]; exact all_false s k hlt _ hb'
        go_wp2_with (go_at_call 130; refine (isNameByte_any _ _ (by omega) (by have := s[k].toNat_lt; omega)).mono ?_; rintro e w' ⟨rfl, rfl⟩; rw [hb'])
        go_ret
        exact ⟨by rw [HF.out]; rfl, rfl⟩
    · have HF : Hid (nameOk s = true) := by show _ = _; rw [HN.out]; exact all_true s _ (fun j hj => HL.out j hj (by omega))
      go_wp2
      go_ret
      exact ⟨by rw [HF.out]; rfl, rfl⟩
end Go.Proofs.YtapiedeekbfpnaaGreatDoor

/- Parts between slashes: as the library splits a text, and as one reads byte by byte. -/
namespace Go.Proofs.YtapiedeekbfpnaaGreatDoor
open Go.RowKit Go.Shelf

/-- The parts of a text between slashes, behind cur. -/
def parts : List UInt8 → List UInt8 → List (List UInt8)
  | cur, [] => [cur]
  | cur, c :: l => if c = 47 then cur :: parts [] l else parts (cur ++ [c]) l

theorem parts_ne (l : List UInt8) : ∀ cur, parts cur l ≠ [] := by
  induction l with
  | nil => intro cur h; cases h
  | cons c l ih =>
    intro cur
    unfold parts
    by_cases h : c = 47
    · rw [if_pos h]; intro h'; cases h'
    · rw [if_neg h]; exact ih _
theorem parts_slash (l : List UInt8) : ∀ cur, parts cur (l ++ [47]) = parts cur l ++ [[]] := by
  induction l with
  | nil => intro cur; rfl
  | cons c l ih =>
    intro cur
    rw [List.cons_append]
    unfold parts
    by_cases h : c = 47
    · rw [if_pos h, if_pos h, ih]; rfl
    · rw [if_neg h, if_neg h, ih]
theorem parts_snoc (l : List UInt8) (c : UInt8) (hc : c ≠ 47) : ∀ cur, ∃ ps p, parts cur l = ps ++ [p] ∧ parts cur (l ++ [c]) = ps ++ [p ++ [c]] := by
  induction l with
  | nil => intro cur; exact ⟨[], cur, rfl, by show (if c = 47 then _ else _) = _; rw [if_neg hc]; rfl⟩
  | cons b l ih =>
    intro cur
    rw [List.cons_append]
    unfold parts
    by_cases h : b = 47
    · rw [if_pos h, if_pos h]
      obtain ⟨ps, p, e1, e2⟩ := ih []
      exact ⟨cur :: ps, p, by rw [e1]; rfl, by rw [e2]; rfl⟩
    · rw [if_neg h, if_neg h]
      exact ih _
theorem parts_len (l : List UInt8) : ∀ cur, (parts cur l).length ≤ l.length + 1 := by
  induction l with
  | nil => intro cur; exact Nat.le_refl _
  | cons c l ih =>
    intro cur
    unfold parts
    by_cases h : c = 47
    · rw [if_pos h]; have := ih []; simp only [List.length_cons]; omega
    · rw [if_neg h]; have := ih (cur ++ [c]); simp only [List.length_cons]; omega
theorem parts_mem (l : List UInt8) : ∀ cur, ∀ p ∈ parts cur l, p.length ≤ cur.length + l.length := by
  induction l with
  | nil => intro cur p hp; obtain rfl := List.mem_singleton.1 hp; simp
  | cons c l ih =>
    intro cur p hp
    unfold parts at hp
    by_cases h : c = 47
    · rw [if_pos h] at hp
      rcases List.mem_cons.1 hp with rfl | hp
      · simp
      · have := ih [] p hp; simp only [List.length_cons, List.length_nil] at *; omega
    · rw [if_neg h] at hp
      have := ih _ p hp
      simp only [List.length_append, List.length_cons, List.length_nil] at *
      omega

theorem parts_miss (s : List UInt8) : ∀ cur, Lib.indexByte s 47 = -1 → parts cur s = [cur ++ s] := by
  induction s with
  | nil => intro cur _; simp [parts]
  | cons b l ih =>
    intro cur h
    unfold Lib.indexByte at h
    by_cases hb : b = 47
    · rw [hb] at h; simp at h
    · have hb' : (b == 47) = false := beq_eq_false_iff_ne.2 hb
      rw [hb'] at h
      unfold parts
      rw [if_neg hb]
      have hl : Lib.indexByte l 47 = -1 := by
        by_cases h1 : Lib.indexByte l 47 = -1
        · exact h1
        · have := Lib.indexByte_ge l 47
          simp [h1] at h
          omega
      rw [ih _ hl]
      simp
theorem parts_hit (s : List UInt8) : ∀ cur (i : Nat), Lib.indexByte s 47 = i → parts cur s = (cur ++ s.take i) :: parts [] (s.drop (i + 1)) := by
  induction s with
  | nil => intro cur i h; simp [Lib.indexByte] at h
  | cons b l ih =>
    intro cur i h
    unfold Lib.indexByte at h
    by_cases hb : b = 47
    · subst hb
      simp at h
      obtain rfl : i = 0 := by omega
      simp [parts]
    · have hb' : (b == 47) = false := beq_eq_false_iff_ne.2 hb
      rw [hb'] at h
      show (if b = 47 then cur :: parts [] l else parts (cur ++ [b]) l) = _
      rw [if_neg hb]
      have hge := Lib.indexByte_ge l 47
      by_cases h1 : Lib.indexByte l 47 = -1
      · simp [h1] at h
      · simp [h1] at h
        obtain ⟨k, rfl⟩ : ∃ k, i = k + 1 := ⟨i - 1, by omega⟩
        rw [ih (cur ++ [b]) k (by omega)]
        simp

theorem split_parts : ∀ (n : Nat) (s : List UInt8), s.length ≤ n → Lib.splitK [47] 0 (Lib.count s [47]) s = parts [] s := by
  intro n
  induction n with
  | zero =>
    intro s hs
    obtain rfl : s = [] := List.length_eq_zero_iff.1 (by omega)
    rfl
  | succ n ih =>
    intro s hs
    by_cases h : Lib.index s [47] = -1
    · rw [Lib.count_miss h, parts_miss s [] (by rw [← Lib.index_one]; exact h)]
      rfl
    · have hge := Lib.index_ge s [47]
      obtain ⟨i, hi⟩ : ∃ i : Nat, Lib.index s [47] = i := ⟨(Lib.index s [47]).toNat, by omega⟩
      have hm : ¬ (Lib.index s [47] == -1) = true := fun e => h (beq_iff_eq.1 e)
      have hr := Lib.index_room s [47] (by omega)
      rw [Lib.count_hit (by simp) hi, Nat.add_comm, Lib.splitK, if_neg hm, hi]
      have e : ((i : Int)).toNat = i := by omega
      rw [e, parts_hit s [] i (by rw [← Lib.index_one]; exact hi)]
      rw [hi] at hr
      have hd : (s.drop (i + 1)).length ≤ n := by rw [List.length_drop]; simp at hr; omega
      rw [show ([47] : List UInt8).length = 1 from rfl, ih _ hd]
      simp

abbrev slash : ByteArray := ⟨#[47]⟩
def piecesB (s : ByteArray) : List ByteArray := (parts [] s.data.toList).map fun p => ⟨p.toArray⟩
theorem splitB_pieces (s : ByteArray) : Lib.splitB slash 0 (Lib.countB s slash) s = piecesB s := by
  have h := Lib.splitB_data slash 0 (Lib.countB s slash) s
  have h2 : Lib.splitK slash.data.toList 0 (Lib.countB s slash) s.data.toList = parts [] s.data.toList := split_parts _ _ (Nat.le_refl _)
  rw [h2] at h
  unfold piecesB
  rw [← h, List.map_map]
  conv => lhs; rw [← List.map_id (Lib.splitB slash 0 (Lib.countB s slash) s)]
  exact List.map_congr_left fun x _ => rfl
def pathOk (s : ByteArray) : Bool := decide (s.size ≤ 100) && (piecesB s).all nameOk
end Go.Proofs.YtapiedeekbfpnaaGreatDoor

/- The lines of a command, plain: words, registers, numbers, what each line takes, and what the document asks of it. -/
namespace Go.Proofs.YtapiedeekbfpnaaGreatDoor
open Go.RowKit Go.Shelf

/-- The words of a text between blanks, behind cur. -/
def wdL : List UInt8 → List UInt8 → List (List UInt8)
  | cur, [] => [cur]
  | cur, c :: l => if c = 32 then cur :: wdL [] l else wdL (cur ++ [c]) l

theorem wdL_ne (l : List UInt8) : ∀ cur, wdL cur l ≠ [] := by
  induction l with
  | nil => intro cur h; cases h
  | cons c l ih =>
    intro cur
    unfold wdL
    by_cases h : c = 32
    · rw [if_pos h]; intro h'; cases h'
    · rw [if_neg h]; exact ih _
theorem wdL_blank (l : List UInt8) : ∀ cur, wdL cur (l ++ [32]) = wdL cur l ++ [[]] := by
  induction l with
  | nil => intro cur; rfl
  | cons c l ih =>
    intro cur
    rw [List.cons_append]
    unfold wdL
    by_cases h : c = 32
    · rw [if_pos h, if_pos h, ih]; rfl
    · rw [if_neg h, if_neg h, ih]
theorem wdL_snoc (l : List UInt8) (c : UInt8) (hc : c ≠ 32) : ∀ cur, ∃ ps p, wdL cur l = ps ++ [p] ∧ wdL cur (l ++ [c]) = ps ++ [p ++ [c]] := by
  induction l with
  | nil => intro cur; exact ⟨[], cur, rfl, by show (if c = 32 then _ else _) = _; rw [if_neg hc]; rfl⟩
  | cons b l ih =>
    intro cur
    rw [List.cons_append]
    unfold wdL
    by_cases h : b = 32
    · rw [if_pos h, if_pos h]
      obtain ⟨ps, p, e1, e2⟩ := ih []
      exact ⟨cur :: ps, p, by rw [e1]; rfl, by rw [e2]; rfl⟩
    · rw [if_neg h, if_neg h]
      exact ih _
theorem wdL_len (l : List UInt8) : ∀ cur, (wdL cur l).length ≤ l.length + 1 := by
  induction l with
  | nil => intro cur; exact Nat.le_refl _
  | cons c l ih =>
    intro cur
    unfold wdL
    by_cases h : c = 32
    · rw [if_pos h]; have := ih []; simp only [List.length_cons]; omega
    · rw [if_neg h]; have := ih (cur ++ [c]); simp only [List.length_cons]; omega
theorem wdL_mem (l : List UInt8) : ∀ cur, ∀ p ∈ wdL cur l, p.length ≤ cur.length + l.length := by
  induction l with
  | nil => intro cur p hp; obtain rfl := List.mem_singleton.1 hp; simp
  | cons c l ih =>
    intro cur p hp
    unfold wdL at hp
    by_cases h : c = 32
    · rw [if_pos h] at hp
      rcases List.mem_cons.1 hp with rfl | hp
      · simp
      · have := ih [] p hp; simp only [List.length_cons, List.length_nil] at *; omega
    · rw [if_neg h] at hp
      have := ih _ p hp
      simp only [List.length_append, List.length_cons, List.length_nil] at *
      omega

theorem wdL_miss (s : List UInt8) : ∀ cur, Lib.indexByte s 32 = -1 → wdL cur s = [cur ++ s] := by
  induction s with
  | nil => intro cur _; simp [wdL]
  | cons b l ih =>
    intro cur h
    unfold Lib.indexByte at h
    by_cases hb : b = 32
    · rw [hb] at h; simp at h
    · have hb' : (b == 32) = false := beq_eq_false_iff_ne.2 hb
      rw [hb'] at h
      unfold wdL
      rw [if_neg hb]
      have hl : Lib.indexByte l 32 = -1 := by
        by_cases h1 : Lib.indexByte l 32 = -1
        · exact h1
        · have := Lib.indexByte_ge l 32
          simp [h1] at h
          omega
      rw [ih _ hl]
      simp
theorem wdL_hit (s : List UInt8) : ∀ cur (i : Nat), Lib.indexByte s 32 = i → wdL cur s = (cur ++ s.take i) :: wdL [] (s.drop (i + 1)) := by
  induction s with
  | nil => intro cur i h; simp [Lib.indexByte] at h
  | cons b l ih =>
    intro cur i h
    unfold Lib.indexByte at h
    by_cases hb : b = 32
    · subst hb
      simp at h
      obtain rfl : i = 0 := by omega
      simp [wdL]
    · have hb' : (b == 32) = false := beq_eq_false_iff_ne.2 hb
      rw [hb'] at h
      show (if b = 32 then cur :: wdL [] l else wdL (cur ++ [b]) l) = _
      rw [if_neg hb]
      have hge := Lib.indexByte_ge l 32
      by_cases h1 : Lib.indexByte l 32 = -1
      · simp [h1] at h
      · simp [h1] at h
        obtain ⟨k, rfl⟩ : ∃ k, i = k + 1 := ⟨i - 1, by omega⟩
        rw [ih (cur ++ [b]) k (by omega)]
        simp

abbrev blank : ByteArray := ⟨#[32]⟩
theorem wdL_cut (s : List UInt8) : ∃ r, wdL [] s = (Lib.cut s [32]).1 :: r := by
  unfold Lib.cut
  rw [Lib.index_one]
  by_cases h : Lib.indexByte s 32 = -1
  · rw [h, if_neg (by decide), wdL_miss s [] h]
    exact ⟨[], rfl⟩
  · have hge := Lib.indexByte_ge s 32
    obtain ⟨i, hi⟩ : ∃ i : Nat, Lib.indexByte s 32 = i := ⟨(Lib.indexByte s 32).toNat, by omega⟩
    rw [hi, if_pos (by omega), wdL_hit s [] i hi]
    exact ⟨wdL [] (s.drop (i + 1)), by simp⟩
/-- What SplitN answers. -/
def wdN (k : Nat) (s : List UInt8) : List (List UInt8) := Lib.splitK [32] 0 k s
theorem wdN_le : ∀ (k : Nat) (s : List UInt8), (wdL [] s).length ≤ k + 1 → wdN k s = wdL [] s := by
  intro k
  induction k with
  | zero =>
    intro s h
    show [s] = _
    by_cases h1 : Lib.indexByte s 32 = -1
    · rw [wdL_miss s [] h1]; rfl
    · have hge := Lib.indexByte_ge s 32
      obtain ⟨i, hi⟩ : ∃ i : Nat, Lib.indexByte s 32 = i := ⟨(Lib.indexByte s 32).toNat, by omega⟩
      rw [wdL_hit s [] i hi] at h
      have := wdL_ne (s.drop (i + 1)) []
      cases h2 : wdL [] (s.drop (i + 1)) with
      | nil => exact absurd h2 this
      | cons a b => rw [h2] at h; simp at h
  | succ k ih =>
    intro s h
    unfold wdN Lib.splitK
    by_cases h1 : Lib.index s [32] = -1
    · rw [if_pos (beq_iff_eq.2 h1), wdL_miss s [] (by rw [← Lib.index_one]; exact h1)]
      rfl
    · have hge := Lib.index_ge s [32]
      obtain ⟨i, hi⟩ : ∃ i : Nat, Lib.index s [32] = i := ⟨(Lib.index s [32]).toNat, by omega⟩
      rw [if_neg (fun e => h1 (beq_iff_eq.1 e)), hi]
      have e : ((i : Int)).toNat = i := by omega
      rw [wdL_hit s [] i (by rw [← Lib.index_one]; exact hi)] at h ⊢
      rw [e]
      have hi2 := ih (s.drop (i + 1)) (by simp at h; omega)
      unfold wdN at hi2
      rw [show ([32] : List UInt8).length = 1 from rfl, hi2]
      simp
theorem wdN_gt : ∀ (k : Nat) (s : List UInt8), k + 1 < (wdL [] s).length → ∃ r, (32 : UInt8) ∈ r ∧ wdN k s = (wdL [] s).take k ++ [r] := by
  intro k
  induction k with
  | zero =>
    intro s h
    refine ⟨s, ?_, rfl⟩
    by_cases h1 : Lib.indexByte s 32 = -1
    · rw [wdL_miss s [] h1] at h; simp at h
    · have hge := Lib.indexByte_ge s 32
      obtain ⟨i, hi⟩ : ∃ i : Nat, Lib.indexByte s 32 = i := ⟨(Lib.indexByte s 32).toNat, by omega⟩
      have hI : ∀ (l : List UInt8), Lib.indexByte l 32 ≠ -1 → (32 : UInt8) ∈ l := by
        intro l
        induction l with
        | nil => intro h; exact absurd rfl h
        | cons a b ihl =>
          intro h
          unfold Lib.indexByte at h
          by_cases ha : a = 32
          · rw [ha]; exact List.mem_cons_self
          · have hb' : (a == 32) = false := beq_eq_false_iff_ne.2 ha
            rw [hb'] at h
            refine List.mem_cons_of_mem _ (ihl fun hh => ?_)
            rw [hh] at h
            exact h rfl
      exact hI s h1
  | succ k ih =>
    intro s h
    unfold wdN Lib.splitK
    by_cases h1 : Lib.index s [32] = -1
    · rw [wdL_miss s [] (by rw [← Lib.index_one]; exact h1)] at h
      simp at h
    · have hge := Lib.index_ge s [32]
      obtain ⟨i, hi⟩ : ∃ i : Nat, Lib.index s [32] = i := ⟨(Lib.index s [32]).toNat, by omega⟩
      rw [if_neg (fun e => h1 (beq_iff_eq.1 e)), hi]
      have e : ((i : Int)).toNat = i := by omega
      rw [wdL_hit s [] i (by rw [← Lib.index_one]; exact hi)] at h ⊢
      rw [e]
      obtain ⟨r, hr, hi2⟩ := ih (s.drop (i + 1)) (by simp at h; omega)
      unfold wdN at hi2
      rw [show ([32] : List UInt8).length = 1 from rfl, hi2]
      exact ⟨r, hr, by simp⟩
theorem wdN_ne (k : Nat) (s : List UInt8) : wdN k s ≠ [] := by
  unfold wdN
  cases k with
  | zero => intro h; cases h
  | succ k => unfold Lib.splitK; split <;> intro h <;> cases h

/-- A register. -/
def regF (s : List UInt8) : Option Nat := match s with
  | [c] => if 97 ≤ c.toNat ∧ c.toNat < 105 then some (c.toNat - 97) else none
  | _ => none
def digF (c : UInt8) : Bool := decide (48 ≤ c.toNat) && decide (c.toNat ≤ 57)
def valF (n : Nat) (s : List UInt8) : Nat := s.foldl (fun n c => 10 * n + (c.toNat - 48)) n
/-- A number. -/
def numF (s : List UInt8) : Option Nat :=
  if s.length = 0 ∨ 6 < s.length ∨ (1 < s.length ∧ s.head? = some 48) then none else if s.all digF = true then some (valF 0 s) else none

theorem regF_blank {s : List UInt8} (h : (32 : UInt8) ∈ s) : regF s = none := by
  unfold regF
  split
  · rename_i c
    obtain rfl := List.mem_singleton.1 h
    rfl
  · rfl
theorem numF_blank {s : List UInt8} (h : (32 : UInt8) ∈ s) : numF s = none := by
  unfold numF
  have h2 : s.all digF = false := by
    rw [List.all_eq_false]
    exact ⟨32, h, by decide⟩
  rw [h2]
  simp
theorem valF_le (s : List UInt8) : ∀ n, s.all digF = true → valF n s < (n + 1) * 10 ^ s.length := by
  induction s with
  | nil => intro n _; show n < _; simp
  | cons c l ih =>
    intro n h
    rw [List.all_cons, Bool.and_eq_true] at h
    have h1 := h.1
    unfold digF at h1
    simp only [Bool.and_eq_true, decide_eq_true_eq] at h1
    have := ih (10 * n + (c.toNat - 48)) h.2
    show valF (10 * n + (c.toNat - 48)) l < _
    have h3 : (10 * n + (c.toNat - 48) + 1) * 10 ^ l.length ≤ (10 * (n + 1)) * 10 ^ l.length := Nat.mul_le_mul_right _ (by omega)
    have h4 : (n + 1) * 10 ^ (l.length + 1) = 10 * (n + 1) * 10 ^ l.length := by rw [Nat.pow_succ, Nat.mul_comm (10 ^ l.length) 10, ← Nat.mul_assoc, Nat.mul_comm (n + 1) 10]
    rw [List.length_cons, h4]
    omega
theorem numF_le {s : List UInt8} {v : Nat} (h : numF s = some v) : v ≤ 999999 := by
  unfold numF at h
  split at h
  · cases h
  · split at h
    · rename_i h1 h2
      injection h with h
      have h3 := valF_le s 0 h2
      rw [h] at h3
      have h4 : s.length ≤ 6 := by omega
      have h5 : (10 : Nat) ^ s.length ≤ 10 ^ 6 := Nat.pow_le_pow_right (by decide) h4
      have h6 : (10 : Nat) ^ 6 = 1000000 := by decide
      omega
    · cases h
theorem regF_lt {s : List UInt8} {v : Nat} (h : regF s = some v) : v < 8 := by
  unfold regF at h
  split at h
  · split at h
    · injection h with h; omega
    · cases h
  · cases h

/-- A line that was taken apart. -/
structure Ln where
  wd : ByteArray
  r : Nat
  s : Nat
  pa : ByteArray
  tx : ByteArray
  n : Nat
  m : Nat
def Ln.none : Ln := ⟨⟨#[]⟩, 0, 0, ⟨#[]⟩, ⟨#[]⟩, 0, 0⟩
def bA (l : List UInt8) : ByteArray := ⟨l.toArray⟩
/-- A part: 0 register, 1 the other register, 2 number, 3 the other number, 4 a line's number, 5 an end, 6 a text, 7 a path, 8 a directory. -/
def takP (lines k : Nat) (l : Ln) (g : List UInt8) : Option Ln :=
  if k = 0 then (regF g).map fun v => { l with r := v }
  else if k = 1 then (regF g).map fun v => { l with s := v }
  else if k = 2 then (numF g).map fun v => { l with n := v }
  else if k = 3 then (numF g).map fun v => { l with m := v }
  else if k = 4 then (numF g).bind fun v => if v ≤ lines then some { l with n := v } else Option.none
  else if k = 5 then (numF g).bind fun v => if v ≤ 99 then some { l with n := v } else Option.none
  else if k = 6 then some { l with tx := bA g }
  else if k = 7 then (if pathOk (bA g) = true then some { l with pa := bA g } else Option.none)
  else (if pathOk (bA g) = true ∨ g = [46] then some { l with pa := bA g } else Option.none)
def okP (lines k : Nat) (g : List UInt8) : Bool :=
  if k = 0 then (regF g).isSome
  else if k = 1 then (regF g).isSome
  else if k = 2 then (numF g).isSome
  else if k = 3 then (numF g).isSome
  else if k = 4 then (numF g).any fun v => decide (v ≤ lines)
  else if k = 5 then (numF g).any fun v => decide (v ≤ 99)
  else if k = 6 then true
  else if k = 7 then pathOk (bA g)
  else pathOk (bA g) || decide (g = [46])
theorem takP_ok (lines k : Nat) (l : Ln) (g : List UInt8) : (takP lines k l g).isSome = okP lines k g := by
  unfold takP okP
  by_cases h0 : k = 0
  · simp [h0]
  by_cases h1 : k = 1
  · simp [h1]
  by_cases h2 : k = 2
  · simp [h2]
  by_cases h3 : k = 3
  · simp [h3]
  simp only [h0, h1, h2, h3, if_false]
  by_cases h4 : k = 4
  · simp only [h4, if_true]
    cases h : numF g with
    | none => rfl
    | some v => simp only [Option.bind_some, Option.any_some]; split <;> simp_all
  by_cases h5 : k = 5
  · simp only [h5]
    cases h : numF g with
    | none => rfl
    | some v => simp; split <;> simp_all
  simp only [h4, h5, if_false]
  by_cases h6 : k = 6
  · simp [h6]
  by_cases h7 : k = 7
  · simp only [h7]
    cases pathOk (bA g) <;> rfl
  simp only [h6, h7, if_false]
  by_cases h8 : pathOk (bA g) = true
  · simp [h8]
  · simp only [h8]
    by_cases h9 : g = [46]
    · rw [h9]; simp
    · simp [h9]
def foldP (lines : Nat) : List Nat → List (List UInt8) → Ln → Option Ln
  | k :: ks, g :: gs, l => (takP lines k l g).bind fun l' => foldP lines ks gs l'
  | _, _, l => some l
def allP (lines : Nat) : List Nat → List (List UInt8) → Bool
  | k :: ks, g :: gs => okP lines k g && allP lines ks gs
  | _, _ => true
theorem foldP_ok (lines : Nat) : ∀ (ks : List Nat) (gs : List (List UInt8)) (l : Ln), (foldP lines ks gs l).isSome = allP lines ks gs := by
  intro ks
  induction ks with
  | nil => intro gs l; rfl
  | cons k ks ih =>
    intro gs l
    cases gs with
    | nil => rfl
    | cons g gs =>
      show ((takP lines k l g).bind fun l' => foldP lines ks gs l').isSome = (okP lines k g && allP lines ks gs)
      rw [← takP_ok lines k l g]
      cases h : takP lines k l g with
      | none => rfl
      | some l' => simp [ih gs l']
/-- What stands behind each first word. -/
def frmL : List (List UInt8 × List Nat) := [([115, 101, 116], [0, 6]), ([114, 101, 97, 100], [0, 7]), ([108, 105, 115, 116], [0, 8]), ([106, 111, 105, 110], [0, 1]), ([99, 117, 116], [0, 2, 3]), ([115, 105, 122, 101], [0, 1]), ([115, 117, 109], [0]), ([109, 97, 107, 101], [7, 0]), ([114, 117, 110], [7, 0]), ([115, 97, 109, 101], [0, 1, 4]), ([108, 101, 115, 115], [0, 1, 4]), ([103, 111, 116, 111], [4]), ([101, 120, 105, 116], [5])]
def frmF (w : List UInt8) : Option (List Nat) := frmL.lookup w
/-- A line, taken apart. -/
def linF (lines : Nat) (s : List UInt8) : Option Ln := match frmF (Lib.cut s [32]).1 with
  | none => none
  | some f => if (wdN f.length s).length ≤ f.length then none else foldP lines f (wdN f.length s).tail { Ln.none with wd := bA (Lib.cut s [32]).1 }
/-- May a line stand there? -/
def rigF (lines : Nat) (s : List UInt8) : Bool := match frmF (Lib.cut s [32]).1 with
  | none => false
  | some f => if f = [0, 6] then decide (3 ≤ (wdL [] s).length) && allP lines [0] (wdL [] s).tail else decide ((wdL [] s).length = f.length + 1) && allP lines f (wdL [] s).tail

theorem nmOk_blank {s : List UInt8} (h : (32 : UInt8) ∈ s) : nameOk (bA s) = false := by
  unfold nameOk
  have : (bA s).toList.all (fun c => nmB c.toNat) = false := by
    rw [Lib.toList_data, List.all_eq_false]
    exact ⟨32, h, by decide⟩
  rw [this, Bool.and_false]
theorem parts_has (c : UInt8) (hc : c ≠ 47) (l : List UInt8) : ∀ cur, (c ∈ l ∨ c ∈ cur) → ∃ p ∈ parts cur l, c ∈ p := by
  induction l with
  | nil => intro cur h; exact ⟨cur, List.mem_singleton.2 rfl, h.resolve_left (by simp)⟩
  | cons b l ih =>
    intro cur h
    unfold parts
    by_cases hb : b = 47
    · rw [if_pos hb]
      rcases h with h | h
      · rcases List.mem_cons.1 h with h | h
        · exact absurd (h.trans hb) hc
        · obtain ⟨p, hp, hq⟩ := ih [] (.inl h)
          exact ⟨p, List.mem_cons_of_mem _ hp, hq⟩
      · exact ⟨cur, List.mem_cons_self, h⟩
    · rw [if_neg hb]
      refine ih _ ?_
      rcases h with h | h
      · rcases List.mem_cons.1 h with h | h
        · exact .inr (by rw [h]; simp)
        · exact .inl h
      · exact .inr (by simp [h])
theorem pathOk_blank {s : List UInt8} (h : (32 : UInt8) ∈ s) : pathOk (bA s) = false := by
  unfold pathOk
  obtain ⟨p, hp, hq⟩ := parts_has 32 (by decide) s [] (.inl h)
  have : (piecesB (bA s)).all nameOk = false := by
    rw [List.all_eq_false]
    refine ⟨bA p, ?_, by rw [nmOk_blank hq]; simp⟩
    unfold piecesB
    exact List.mem_map.2 ⟨p, hp, rfl⟩
  rw [this, Bool.and_false]
theorem okP_blank {lines k : Nat} {g : List UInt8} (hk : k ≠ 6) (h : (32 : UInt8) ∈ g) : okP lines k g = false := by
  have h1 := regF_blank h
  have h2 := numF_blank h
  have h3 := pathOk_blank h
  have h4 : g ≠ [46] := by intro e; rw [e] at h; simp at h
  unfold okP
  simp [h1, h2, h3, h4, hk]
theorem allP_app (lines : Nat) : ∀ (ks : List Nat) (gs : List (List UInt8)) (k : Nat) (g : List UInt8), ks.length = gs.length → allP lines (ks ++ [k]) (gs ++ [g]) = (allP lines ks gs && okP lines k g) := by
  intro ks
  induction ks with
  | nil =>
    intro gs k g h
    obtain rfl := List.length_eq_zero_iff.1 h.symm
    show (okP lines k g && true) = (true && okP lines k g)
    rw [Bool.and_true, Bool.true_and]
  | cons a ks ih =>
    intro gs k g h
    cases gs with
    | nil => cases h
    | cons b gs =>
      show (okP lines a b && allP lines (ks ++ [k]) (gs ++ [g])) = ((okP lines a b && allP lines ks gs) && okP lines k g)
      rw [ih gs k g (by simpa using h), Bool.and_assoc]
theorem lookup_mem {f : List Nat} (w : List UInt8) : ∀ (L : List (List UInt8 × List Nat)), L.lookup w = some f → (w, f) ∈ L := by
  intro L
  induction L with
  | nil => intro h; cases h
  | cons a L ih =>
    intro h
    obtain ⟨a1, a2⟩ := a
    rw [List.lookup_cons] at h
    split at h
    · rename_i he
      injection h with h
      rw [h, eq_of_beq he]
      exact List.mem_cons_self
    · exact List.mem_cons_of_mem _ (ih h)
theorem frmF_mem {w : List UInt8} {f : List Nat} (h : frmF w = some f) : f ∈ frmL.map (·.2) := List.mem_map.2 ⟨(w, f), lookup_mem w _ h, rfl⟩
theorem frm_last : ∀ f ∈ frmL.map (·.2), f ≠ [0, 6] → ∃ ks k, f = ks ++ [k] ∧ k ≠ 6 := by
  intro f hf hn
  simp only [frmL, List.map_cons, List.map_nil, List.mem_cons, List.not_mem_nil, or_false] at hf
  rcases hf with rfl | rfl | rfl | rfl | rfl | rfl | rfl | rfl | rfl | rfl | rfl | rfl | rfl
  · exact absurd rfl hn
  · exact ⟨[0], 7, rfl, by decide⟩
  · exact ⟨[0], 8, rfl, by decide⟩
  · exact ⟨[0], 1, rfl, by decide⟩
  · exact ⟨[0, 2], 3, rfl, by decide⟩
  · exact ⟨[0], 1, rfl, by decide⟩
  · exact ⟨[], 0, rfl, by decide⟩
  · exact ⟨[7], 0, rfl, by decide⟩
  · exact ⟨[7], 0, rfl, by decide⟩
  · exact ⟨[0, 1], 4, rfl, by decide⟩
  · exact ⟨[0, 1], 4, rfl, by decide⟩
  · exact ⟨[], 4, rfl, by decide⟩
  · exact ⟨[], 5, rfl, by decide⟩
/-- The program and the document take the same lines. -/
theorem linF_rig (lines : Nat) (s : List UInt8) : (linF lines s).isSome = rigF lines s := by
  unfold linF rigF
  cases hf : frmF (Lib.cut s [32]).1 with
  | none => rfl
  | some f =>
    have hm := frmF_mem hf
    simp only
    rcases Nat.lt_trichotomy (wdL [] s).length (f.length + 1) with h | h | h
    · rw [wdN_le f.length s (by omega), if_pos (by omega)]
      by_cases h6 : f = [0, 6]
      · rw [if_pos h6]
        subst h6
        rw [show decide (3 ≤ (wdL [] s).length) = false from by simp; simp at h; omega]
        rfl
      · rw [if_neg h6, show decide ((wdL [] s).length = f.length + 1) = false from by simp; omega]
        rfl
    · rw [wdN_le f.length s (by omega), if_neg (by omega), foldP_ok]
      by_cases h6 : f = [0, 6]
      · rw [if_pos h6]
        subst h6
        rw [show decide (3 ≤ (wdL [] s).length) = true from by simp; simp at h; omega]
        cases hw : wdL [] s with
        | nil => rw [hw] at h; cases h
        | cons a l =>
          cases l with
          | nil => rw [hw] at h; cases h
          | cons b l => cases l with
            | nil => rw [hw] at h; cases h
            | cons c l => simp [allP, okP]
      · rw [if_neg h6, decide_eq_true h, Bool.true_and]
    · obtain ⟨r, hr, he⟩ := wdN_gt f.length s h
      have hl : (wdN f.length s).length = f.length + 1 := by rw [he, List.length_append, List.length_take]; simp; omega
      rw [if_neg (by omega), foldP_ok, he]
      by_cases h6 : f = [0, 6]
      · rw [if_pos h6]
        subst h6
        rw [show decide (3 ≤ (wdL [] s).length) = true from by simp; simp at h; omega]
        cases hw : wdL [] s with
        | nil => rw [hw] at h; cases h
        | cons a l =>
          cases l with
          | nil => rw [hw] at h; simp at h
          | cons b l => simp [allP, okP]
      · rw [if_neg h6, show decide ((wdL [] s).length = f.length + 1) = false from by simp; omega, Bool.false_and]
        obtain ⟨ks, k, hfk, hk⟩ := frm_last f hm h6
        cases hw : wdL [] s with
        | nil => rw [hw] at h; cases h
        | cons a l =>
          have hfl : f.length = ks.length + 1 := by rw [hfk]; simp
          rw [hfl, List.take_succ_cons, List.cons_append, List.tail_cons, hfk, allP_app, okP_blank hk hr, Bool.and_false]
          rw [List.length_take]
          rw [hw] at h
          simp at h
          omega
end Go.Proofs.YtapiedeekbfpnaaGreatDoor

/- Registers and numbers, as the program reads them. -/
namespace Go.Proofs.YtapiedeekbfpnaaGreatDoor
open Go.RowKit Go.Shelf

def regV (s : List UInt8) : Array Value := match regF s with | some v => #[.int .i64 (v : Int), .bool true] | none => #[.int .i64 0, .bool false]
def numV (s : List UInt8) : Array Value := match numF s with | some v => #[.int .i64 (v : Int), .bool true] | none => #[.int .i64 0, .bool false]

set_option maxHeartbeats 1000000 in
set_option maxRecDepth 100000 in
theorem register_any (s : ByteArray) (w : World) (hs : s.size ≤ 1000000) :
    Calls Tryz.prog 55 #[.string s] w fun e w' => e = .returned (.tuple (regV s.data.toList)) ∧ w' = w := by
  have hsz9 : (s.size : Int) ≤ 9223372036854775807 := by omega
  clear hs
  by_cases h1 : s.size = 1
  · obtain ⟨c, hc⟩ : ∃ c, s.data.toList = [c] := by
      have : s.data.toList.length = 1 := by rw [← h1]; rfl
      exact List.length_eq_one_iff.1 this
    obtain ⟨c0, hc0⟩ : ∃ c0 : Nat, c0 = c.toNat := ⟨_, rfl⟩
    have hlt : c0 < 256 := by rw [hc0]; exact c.toNat_lt
    have hg : s[0]'(by omega) = c := by
      have : s.data.toList[0]? = some c := by rw [hc]; rfl
      rw [List.getElem?_eq_getElem (by rw [hc]; simp)] at this
      exact Option.some.inj this
    have hsz : (s.size : Int) = 1 := by omega
    have hg' : (s[0]'(by omega)).toNat = c0 := by rw [hg, hc0]
    unfold regV regF
    rw [hc]
    simp only
    rw [← hc0]
    clear hg hc0 hc
    by_cases h2 : 97 ≤ c0
    · by_cases h3 : c0 < 105
      · rw [if_pos ⟨h2, h3⟩]
        have e1 : ¬ (c0 : Int) < 97 := by omega
        have e2 : ¬ (105 : Int) ≤ (c0 : Int) := by omega
        obtain ⟨v, hv⟩ : ∃ v : Nat, c0 - 97 = v := ⟨_, rfl⟩
        rw [hv]
        have e3 : IntKind.u8.wrap ((c0 : Int) - 97) = (v : Int) := by rw [IntKind.wrap_u8]; omega
        have e4 : IntKind.i64.wrap (v : Int) = (v : Int) := by rw [IntKind.wrap_i64]; omega
        clear hv
        go_enter Tryz.func55, Tryz.ntmps55
        go_wp2
        go_ret2
        exact ⟨rfl, rfl⟩
      · rw [if_neg (by omega)]
        have e1 : ¬ (c0 : Int) < 97 := by omega
        have e2 : (105 : Int) ≤ (c0 : Int) := by omega
        go_enter Tryz.func55, Tryz.ntmps55
        go_wp2
        go_ret2
        exact ⟨rfl, rfl⟩
    · rw [if_neg (by omega)]
      have e1 : (c0 : Int) < 97 := by omega
      go_enter Tryz.func55, Tryz.ntmps55
      go_wp2
      go_ret2
      exact ⟨rfl, rfl⟩
  · have hr : regV s.data.toList = #[.int .i64 0, .bool false] := by
      unfold regV regF
      cases h : s.data.toList with
      | nil => rfl
      | cons a l => cases l with
        | nil =>
          exfalso
          apply h1
          show s.data.size = 1
          rw [← Array.length_toList, h]
          rfl
        | cons b l => rfl
    rw [hr]
    have hsz : ¬ (s.size : Int) = 1 := by omega
    go_enter Tryz.func55, Tryz.ntmps55
    go_wp2
    go_ret2
    exact ⟨rfl, rfl⟩

theorem numV_no {s : List UInt8} (h : s.all digF = false) : numV s = #[.int .i64 0, .bool false] := by
  unfold numV numF
  rw [h]
  simp
theorem digF_iff (c : UInt8) : digF c = true ↔ 48 ≤ c.toNat ∧ c.toNat ≤ 57 := by unfold digF; simp

set_option maxHeartbeats 2000000 in
set_option maxRecDepth 100000 in
theorem numb_any (s : ByteArray) (w : World) (hs : s.size ≤ 1000000) :
    Calls Tryz.prog 58 #[.string s] w fun e w' => e = .returned (.tuple (numV s.data.toList)) ∧ Below w.heap.size w w' := by
  have hsl : s.size = s.data.toList.length := size_of rfl
  have hsz9 : (s.size : Int) ≤ 9223372036854775807 := by omega
  clear hs
  by_cases h0 : s.size = 0
  · have he : s = ⟨#[]⟩ := by
      apply ByteArray.ext
      exact Array.eq_empty_of_size_eq_zero h0
    subst he
    have hv : numV (⟨#[]⟩ : ByteArray).data.toList = #[.int .i64 0, .bool false] := rfl
    rw [hv]
    go_enter Tryz.func58, Tryz.ntmps58
    go_wp2
    go_ret2
    exact ⟨rfl, Below.refl _ _⟩
  have hne : s.toList.isEmpty = false := by
    rw [Lib.toList_data, List.isEmpty_eq_false_iff]
    intro e
    rw [e] at hsl
    exact h0 hsl
  by_cases h1 : 6 < s.size
  · have hv : numV s.data.toList = #[.int .i64 0, .bool false] := by
      unfold numV numF
      rw [if_pos (by omega)]
    rw [hv]
    have h1i : (6 : Int) < (s.size : Int) := by omega
    clear hv hsl
    go_enter Tryz.func58, Tryz.ntmps58
    go_wp2
    go_ret2
    exact ⟨rfl, Below.refl _ _⟩
  have h1i : ¬ (6 : Int) < (s.size : Int) := by omega
  have hz : 0 < s.size := by omega
  obtain ⟨c, hc⟩ : ∃ c, s[0]'(by omega) = c := ⟨_, rfl⟩
  have hhd : s.data.toList.head? = some c := by
    rw [List.head?_eq_getElem?, List.getElem?_eq_getElem (by omega)]
    exact congrArg some hc
  obtain ⟨c0, hc0⟩ : ∃ c0 : Nat, c0 = c.toNat := ⟨_, rfl⟩
  have hg' : (s[0]'(by omega)).toNat = c0 := by rw [hc, hc0]
  by_cases h2 : 1 < s.size ∧ c0 = 48
  · have hv : numV s.data.toList = #[.int .i64 0, .bool false] := by
      unfold numV numF
      rw [if_pos (.inr (.inr ⟨by omega, by rw [hhd]; exact congrArg some (UInt8.toNat_inj.1 (by rw [← hc0, h2.2]; rfl))⟩))]
    rw [hv]
    have h2i : (1 : Int) < (s.size : Int) := by omega
    have h3i : ((c0 : Int) == 48) = true := by simp; omega
    clear hc hc0 hhd hv hsl
    go_enter Tryz.func58, Tryz.ntmps58
    go_wp2
    go_ret2
    exact ⟨rfl, Below.refl _ _⟩
  have hnum : numF s.data.toList = if s.data.toList.all digF = true then some (valF 0 s.data.toList) else none := by
    unfold numF
    rw [if_neg]
    rintro (h | h | h)
    · omega
    · omega
    · refine h2 ⟨by omega, ?_⟩
      rw [hhd] at h
      rw [hc0, Option.some.inj h.2]
      rfl
  have HN : Hid (numF s.data.toList = if s.data.toList.all digF = true then some (valF 0 s.data.toList) else none) := hnum
  have hlead : ((1 : Int) < (s.size : Int)) = false ∨ (((1 : Int) < (s.size : Int)) = true ∧ ((c0 : Int) == 48) = false) := by
    by_cases h : 1 < s.size
    · exact .inr ⟨by simp; omega, by simp; omega⟩
    · exact .inl (by simp; omega)
  have HL : Hid (s.size = s.data.toList.length) := hsl
  have HG : Hid (∀ k (hk : k < s.size), s.data.toList[k]? = some (s[k]'hk)) := fun k hk => List.getElem?_eq_getElem (by omega)
  have H6 : Hid (s.size ≤ 6) := by show s.size ≤ 6; omega
  clear hsl hnum hhd hc hc0 h2 h1 h0
  rcases hlead with hl | ⟨hl, hl'⟩
  all_goals
    go_enter Tryz.func58, Tryz.ntmps58
    go_wp2
    go_loopg [4] s.size (fun g v wx => ∃ i : Nat, i + g = s.size ∧ v = .int .i64 (valF 0 (s.data.toList.take i) : Nat) ∧ wx = w.iter s i ∧ (s.data.toList.take i).all digF = true)
    case atStart => exact ⟨0, by omega, rfl, rfl, rfl⟩
    case round =>
      obtain ⟨i, hig, rfl, rfl, hall⟩ := hrel
      have HA : Hid ((s.data.toList.take i).all digF = true) := hall
      clear hall
      cases gk with
      | zero =>
        obtain rfl : i = s.size := by omega
        have hnx := fun ty => run_next_end (P := Tryz.prog) w s s.size ty (Nat.lt_irrefl _)
        have he : s.data.toList.take s.size = s.data.toList := by rw [HL.out]; exact List.take_length
        have HV : Hid (numV s.data.toList = #[.int .i64 (valF 0 (s.data.toList.take s.size) : Nat), .bool true]) := by
          show _ = _
          unfold numV
          have h1 := HA.out
          rw [he] at h1 ⊢
          rw [HN.out, if_pos h1]
        clear he
        generalize valF 0 (s.data.toList.take s.size) = vv at *
        go_wp2
        go_ret2
        exact ⟨by rw [HV.out]; rfl, (Below.refl _ w).alloc (Nat.le_refl _) _⟩
      | succ g =>
        have hi : i < s.size := by omega
        obtain ⟨x, hx⟩ : ∃ x : UInt8, s[i]'hi = x := ⟨_, rfl⟩
        have hxl : s.data.toList[i]? = some x := by rw [← hx]; exact HG.out i hi
        have htk : s.data.toList.take (i + 1) = s.data.toList.take i ++ [x] := by
          rw [List.take_add_one, hxl]
          rfl
        obtain ⟨c1, hc1⟩ : ∃ c1 : Nat, x.toNat = c1 := ⟨_, rfl⟩
        by_cases h128 : c1 < 128
        · have hnx := fun ty => run_next_ascii (P := Tryz.prog) w s i ty hi (by rw [hx, hc1]; exact h128)
          rw [hx, hc1] at hnx
          by_cases hd : digF x = true
          · have hd' := (digF_iff x).1 hd
            rw [hc1] at hd'
            have hvv : valF 0 (s.data.toList.take i) < 1000000 := by
              have h1 := valF_le _ 0 HA.out
              have h2 : (s.data.toList.take i).length ≤ 5 := by
                rw [List.length_take]
                have := H6.out
                omega
              have h3 : (10 : Nat) ^ (s.data.toList.take i).length ≤ 10 ^ 5 := Nat.pow_le_pow_right (by decide) h2
              have h4 : (10 : Nat) ^ 5 = 100000 := by decide
              omega
            have hst : valF 0 (s.data.toList.take (i + 1)) = 10 * valF 0 (s.data.toList.take i) + (c1 - 48) := by
              rw [htk]
              unfold valF
              rw [List.foldl_append, ← hc1]
              rfl
            have hal : (s.data.toList.take (i + 1)).all digF = true := by
              rw [htk, List.all_append, HA.out]
              simp [hd]
            have HE : Hid (valF 0 (s.data.toList.take (i + 1)) = 10 * valF 0 (s.data.toList.take i) + (c1 - 48) ∧ (s.data.toList.take (i + 1)).all digF = true) := ⟨hst, hal⟩
            clear hst hal htk hxl hx hd
            generalize valF 0 (s.data.toList.take i) = vv at *
            obtain ⟨dd, hdd⟩ : ∃ dd : Nat, c1 = dd + 48 := ⟨c1 - 48, by omega⟩
            obtain ⟨v1, hv1⟩ : ∃ v1 : Nat, v1 = 10 * vv := ⟨_, rfl⟩
            obtain ⟨v2, hv2⟩ : ∃ v2 : Nat, v2 = v1 + dd := ⟨_, rfl⟩
            have e1 : ¬ (c1 : Int) < 48 := by omega
            have e2 : ¬ (57 : Int) < (c1 : Int) := by omega
            have e3 : (10 : Int) * (vv : Int) = (v1 : Int) := by omega
            have e4 : IntKind.i64.wrap (v1 : Int) = (v1 : Int) := by rw [IntKind.wrap_i64]; omega
            have e5 : (c1 : Int) - 48 = (dd : Int) := by omega
            have e6 : IntKind.i32.wrap (dd : Int) = (dd : Int) := by rw [IntKind.wrap_i32]; omega
            have e7 : IntKind.i64.wrap (dd : Int) = (dd : Int) := by rw [IntKind.wrap_i64]; omega
            have e8 : (v1 : Int) + (dd : Int) = (v2 : Int) := by omega
            have e9 : IntKind.i64.wrap (v2 : Int) = (v2 : Int) := by rw [IntKind.wrap_i64]; omega
            have HV : Hid (v2 = 10 * vv + (c1 - 48)) := by show v2 = _; omega
            clear hdd hv1 hv2 hvv hd' hc1
            go_wp2
            go_roundg g
            case measure => omega
            case rel => exact ⟨i + 1, by omega, by rw [HE.out.1, ← HV.out], rfl, HE.out.2⟩
          · have hd' : c1 < 48 ∨ 57 < c1 := by
              have h3 : ¬ (48 ≤ x.toNat ∧ x.toNat ≤ 57) := fun h => hd ((digF_iff x).2 h)
              rw [hc1] at h3
              omega
            have HV : Hid (numV s.data.toList = #[.int .i64 0, .bool false]) := numV_no (List.all_eq_false.2 ⟨x, List.mem_of_getElem? hxl, hd⟩)
            clear htk hxl hx hd hc1
            rcases hd' with hd' | hd'
            · have e1 : (c1 : Int) < 48 := by omega
              go_wp2
              go_ret2
              exact ⟨by rw [HV.out]; rfl, (Below.refl _ w).alloc (Nat.le_refl _) _⟩
            · have e1 : ¬ (c1 : Int) < 48 := by omega
              have e2 : (57 : Int) < (c1 : Int) := by omega
              go_wp2
              go_ret2
              exact ⟨by rw [HV.out]; rfl, (Below.refl _ w).alloc (Nat.le_refl _) _⟩
        · have hnx := fun ty => run_next_any (P := Tryz.prog) w s i ty hi
          have hh := (decode_high s i hi (by rw [hx, hc1]; omega)).1
          have HV : Hid (numV s.data.toList = #[.int .i64 0, .bool false]) := by
            refine numV_no (List.all_eq_false.2 ⟨x, List.mem_of_getElem? hxl, fun hd => ?_⟩)
            have := (digF_iff x).1 hd
            omega
          obtain ⟨r, hr⟩ : ∃ r, (Utf8.decode s i).1 = r := ⟨_, rfl⟩
          obtain ⟨r2, hr2⟩ : ∃ r2, (Utf8.decode s i).2 = r2 := ⟨_, rfl⟩
          rw [hr, hr2] at hnx
          rw [hr] at hh
          clear htk hxl hx hc1 hr hr2
          have e1 : ¬ (r : Int) < 48 := by omega
          have e2 : (57 : Int) < (r : Int) := by omega
          go_wp2
          go_ret2
          exact ⟨by rw [HV.out]; rfl, (Below.refl _ w).alloc (Nat.le_refl _) _⟩
end Go.Proofs.YtapiedeekbfpnaaGreatDoor

/- What the document's own IsName answers. -/
namespace Go.Proofs.YtapiedeekbfpnaaGreatDoor
open Go.RowKit Go.Shelf

theorem nm_cls (c : Int) (h : nmB c = true) : (97 ≤ c ∧ c ≤ 122) ∨ (c < 97 ∧ 48 ≤ c ∧ c ≤ 57) ∨ c = 95 ∨ c = 45 ∨ c = 46 := by
  simp [nmB] at h
  omega
theorem nm_cls_no (c : Int) (h : nmB c = false) : ((c == 95) = false ∧ (c == 45) = false ∧ (c == 46) = false) ∧ (c < 48 ∨ (48 ≤ c ∧ decide (c ≤ 57) = false ∧ c < 97) ∨ (97 ≤ c ∧ decide (c ≤ 122) = false ∧ decide (c ≤ 57) = false)) := by
  simp [nmB] at h ⊢
  omega

theorem name_cls (s : ByteArray) : (s.size = 0 ∧ (s.toList.all (fun c => nmB c.toNat) = true → nameOk s = false)) ∨
    (1 ≤ (s.size : Int) ∧ decide ((s.size : Int) ≤ 20) = false ∧ (s.toList.all (fun c => nmB c.toNat) = true → nameOk s = false)) ∨
    (1 ≤ (s.size : Int) ∧ (s.size : Int) ≤ 20 ∧ (s.toList == [46]) = true ∧ (s.toList.all (fun c => nmB c.toNat) = true → nameOk s = false)) ∨
    (1 ≤ (s.size : Int) ∧ (s.size : Int) ≤ 20 ∧ (s.toList == [46]) = false ∧ (s.toList == [46, 46]) = true ∧ (s.toList.all (fun c => nmB c.toNat) = true → nameOk s = false)) ∨
    (1 ≤ (s.size : Int) ∧ (s.size : Int) ≤ 20 ∧ (s.toList == [46]) = false ∧ (s.toList == [46, 46]) = false ∧ (s.toList.all (fun c => nmB c.toNat) = true → nameOk s = true)) := by
  have hl : s.toList.length = s.size := by rw [Lib.toList_data]; exact (size_of (s := s) rfl).symm
  by_cases h0 : s.size = 0
  · refine Or.inl ⟨h0, fun _ => ?_⟩
    have : s.toList = [] := List.length_eq_zero_iff.1 (by omega)
    simp [nameOk, this]
  have h1 : (s.toList == []) = false := by
    rw [beq_eq_false_iff_ne]
    intro h
    rw [h] at hl
    simp at hl
    omega
  refine Or.inr ?_
  by_cases h2 : s.size ≤ 20
  · refine Or.inr ?_
    by_cases h3 : (s.toList == [46]) = true
    · exact Or.inl ⟨by omega, by omega, h3, fun _ => by simp [nameOk, h3]⟩
    have h3' : (s.toList == [46]) = false := by simpa using h3
    refine Or.inr ?_
    by_cases h4 : (s.toList == [46, 46]) = true
    · exact Or.inl ⟨by omega, by omega, h3', h4, fun _ => by simp [nameOk, h4]⟩
    have h4' : (s.toList == [46, 46]) = false := by simpa using h4
    exact Or.inr ⟨by omega, by omega, h3', h4', fun h => by simp only [nameOk, h1, h3', h4', h, h2]; simp⟩
  · exact Or.inl ⟨by omega, by simp; omega, fun _ => by simp [nameOk, h2]⟩

set_option maxHeartbeats 4000000 in
set_option maxRecDepth 100000 in
theorem RIsName_any (s : ByteArray) (w : World) (hs : s.size ≤ maxLen) :
    Calls Tryz.prog 94 #[.string s] w fun e w' => e = .returned (.bool (nameOk s)) ∧ w' = w := by
  have hsz : (s.size : Int) ≤ 9223372036854775807 := by unfold maxLen at hs; omega
  clear hs
  have HA : Hid (s.toList.all (fun c => nmB c.toNat) = false → nameOk s = false) := fun h => by simp [nameOk, h]
  rcases name_cls s with ⟨g1, g5⟩ | ⟨g1, g2, g5⟩ | ⟨g1, g2, g3, g5⟩ | ⟨g1, g2, g3, g4, g5⟩ | ⟨g1, g2, g3, g4, g5⟩
  all_goals
    have HB : Hid _ := g5
    clear g5
    go_enter Tryz.func94, Tryz.ntmps94
    go_wp2
    go_loop [3] (fun i => ∃ k : Nat, k ≤ s.size ∧ i = .int .i64 k ∧ ∀ j (hj : j < s.size), j < k → nmB s[j].toNat = true) (fun i => s.size - (intOf i).toNat)
    case atStart => exact ⟨0, Nat.zero_le _, rfl, by omega⟩
    case round =>
      obtain ⟨k, hk, rfl, hlo⟩ := hrel
      have HL : Hid _ := hlo
      clear hlo
      by_cases hlt : k < s.size
      · try (exfalso; omega)
        all_goals
         by_cases hb : nmB s[k].toNat = true
         · have HN : Hid _ := hb
           rcases nm_cls _ hb with ⟨c1, c2⟩ | ⟨c1, c2, c3⟩ | c1 | c1 | c1
           all_goals
             clear hb
             go_wp2
             refine ⟨⟨k + 1, by omega, by go_num, fun j hj hjk => ?_⟩, by simp [intOf]; omega⟩
             by_cases h : j < k
             · exact HL.out j hj h
             · obtain rfl : j = k := by omega
               exact HN.out
         · have hb' : nmB s[k].toNat = false := by simpa using hb
           clear hb
           have HF : Hid (nameOk s = false) := HA.out (all_false s k hlt _ hb')
           obtain ⟨⟨e1, e2, e3⟩, c1 | ⟨c1, c2, c3⟩ | ⟨c1, c2, c3⟩⟩ := nm_cls_no _ hb'
           all_goals
             clear hb'
             go_wp2
             go_ret
             exact ⟨by rw [HF.out]; rfl, rfl⟩
      · have HF : Hid _ := HB.out (all_true s _ (fun j hj => HL.out j hj (by omega)))
        go_wp2
        go_ret
        exact ⟨by rw [HF.out]; rfl, rfl⟩
end Go.Proofs.YtapiedeekbfpnaaGreatDoor

/- What the document's own CheckList, PackText and PackTexts answer. -/
namespace Go.Proofs.YtapiedeekbfpnaaGreatDoor
open Go.RowKit Go.Shelf

def longIn (ss : List ByteArray) : Prop := ∃ s ∈ ss, 100000 < s.size
def shortAll (ss : List ByteArray) : Prop := ∀ s ∈ ss, s.size ≤ 100000
def okList (m : Nat) (ss : List ByteArray) : Prop := ss.length ≤ m ∧ ∀ s ∈ ss, s.size ≤ 100000

set_option maxHeartbeats 1000000 in
theorem cl_many (m : Nat) (a : Option Addr) (n cap : Nat) (w : World) (hn : m < n) :
    Calls Tryz.prog 43 #[.slice a n cap, .int .i64 m] w fun e w' => e = .returned (.int .i64 2) ∧ w' = w := by
  have hn1 : (m : Int) < (n : Int) := by omega
  go_enter Tryz.func43, Tryz.ntmps43
  go_wp2
  go_ret
  exact ⟨rfl, rfl⟩
set_option maxHeartbeats 1000000 in
set_option maxRecDepth 100000 in
theorem cl_zero (m : Nat) (a : Option Addr) (cap : Nat) (w : World) :
    Calls Tryz.prog 43 #[.slice a 0 cap, .int .i64 m] w fun e w' => e = .returned (.int .i64 0) ∧ w' = w := by
  have hm : ¬ (m : Int) < 0 := by omega
  go_enter Tryz.func43, Tryz.ntmps43
  go_wp2
  refine wp_loop_rounds 1 ?_
  rw [rounds_succ]
  go_wp2
  go_ret
  exact ⟨rfl, rfl⟩
set_option maxHeartbeats 1000000 in
set_option maxRecDepth 100000 in
theorem cl_some (m g o cap : Nat) (ss : List ByteArray) (w : World) (hm : ss.length ≤ m) (hn : ss.length ≤ 4611686018427387904) (hcell : ∀ j (hj : j < ss.length), w.cell? ⟨g, o + j, none⟩ = some (.string ss[j])) :
    Calls Tryz.prog 43 #[.slice (some ⟨g, o, none⟩) ss.length cap, .int .i64 m] w fun e w' => (shortAll ss → e = .returned (.int .i64 0)) ∧ (longIn ss → e = .returned (.int .i64 2)) ∧ w' = w := by
  have HC : Hid _ := hcell
  have hn1 : (ss.length : Int) ≤ 4611686018427387904 := by omega
  have hm1 : (ss.length : Int) ≤ (m : Int) := by omega
  clear hcell
  go_enter Tryz.func43, Tryz.ntmps43
  go_wp2
  go_loop [5] (fun i => ∃ k : Nat, k ≤ ss.length ∧ i = .int .i64 k ∧ ∀ j (hj : j < ss.length), j < k → ss[j].size ≤ 100000) (fun i => ss.length - (intOf i).toNat)
  case atStart => exact ⟨0, Nat.zero_le _, rfl, by omega⟩
  case round =>
    obtain ⟨k, hk, rfl, hlo⟩ := hrel
    have HL : Hid _ := hlo
    clear hlo
    by_cases hlt : k < ss.length
    · have hc := HC.out k hlt
      by_cases hb : 100000 < (ss[k]).size
      · have hb' : (100000 : Int) < ((ss[k]).size : Int) := by omega
        have HB : Hid _ := hb
        clear hb
        go_wp2
        go_ret
        exact ⟨fun h => absurd HB.out (Nat.not_lt.2 (h _ (List.getElem_mem hlt))), fun _ => rfl, rfl⟩
      · have hb' : ((ss[k]).size : Int) ≤ 100000 := by omega
        have HB : Hid ((ss[k]).size ≤ 100000) := Nat.le_of_not_lt hb
        clear hb
        go_wp2
        refine ⟨⟨k + 1, by omega, by go_num, fun j hj hjk => ?_⟩, by simp [intOf]; omega⟩
        by_cases h : j < k
        · exact HL.out j hj h
        · obtain rfl : j = k := by omega
          exact HB.out
    · go_wp2
      go_ret
      refine ⟨fun _ => rfl, fun h => ?_, rfl⟩
      obtain ⟨s, hs, hlong⟩ := h
      obtain ⟨j, hj, rfl⟩ := List.getElem_of_mem hs
      have := HL.out j hj (by omega)
      omega
theorem cl_any (m : Nat) (v : Value) (ss : List ByteArray) (w : World) (h : IsTexts w v ss) :
    (okList m ss → Calls Tryz.prog 43 #[v, .int .i64 m] w fun e w' => e = .returned (.int .i64 0) ∧ w' = w) ∧
    (¬ okList m ss → Calls Tryz.prog 43 #[v, .int .i64 m] w fun e w' => e = .returned (.int .i64 2) ∧ w' = w) := by
  obtain ⟨hn, a, cap, rfl, hs⟩ := h
  refine ⟨fun hok => ?_, fun hno => ?_⟩
  · rcases hs with rfl | ⟨g, o, rfl, hc⟩
    · exact cl_zero m a cap w
    · refine (cl_some m g o cap ss w hok.1 hn hc).mono ?_
      rintro e w' ⟨h1, _, rfl⟩
      exact ⟨h1 hok.2, rfl⟩
  · by_cases hl : ss.length ≤ m
    · have hex : ∃ s ∈ ss, 100000 < s.size := Classical.byContradiction fun hne => hno ⟨hl, fun s hs => Nat.le_of_not_lt fun h => hne ⟨s, hs, h⟩⟩
      rcases hs with rfl | ⟨g, o, rfl, hc⟩
      · obtain ⟨s, hs, _⟩ := hex
        cases hs
      · refine (cl_some m g o cap ss w hl hn hc).mono ?_
        rintro e w' ⟨_, h2, rfl⟩
        exact ⟨h2 hex, rfl⟩
    · exact cl_many m a ss.length cap w (by omega)

theorem addl (l : List UInt8) (b : ByteArray) (h : l.length + b.size ≤ 9223372036854775807) (W : World) : (Op.stringOp .add ⟨l.toArray⟩ b).run Tryz.prog W = .ok (.string ⟨(l ++ b.data.toList).toArray⟩) W := by
  refine (run_string_add_sum (w := W) _ _ (by rw [show (⟨l.toArray⟩ : ByteArray).size = l.length from size_of rfl]; exact h)).trans ?_
  have hb : b = ⟨b.data.toList.toArray⟩ := bytes_eq rfl
  rw [hb, ByteArray.mk_append_mk]
theorem addll (l m : List UInt8) (h : l.length + m.length ≤ 9223372036854775807) (W : World) : (Op.stringOp .add ⟨l.toArray⟩ ⟨m.toArray⟩).run Tryz.prog W = .ok (.string ⟨(l ++ m).toArray⟩) W := by
  have := addl l ⟨m.toArray⟩ (by rw [show (⟨m.toArray⟩ : ByteArray).size = m.length from size_of rfl]; exact h) W
  simpa using this
end Go.Proofs.YtapiedeekbfpnaaGreatDoor

/- What strings.Split, IsPath, and the document's own Parts and IsPath answer. -/
namespace Go.Proofs.YtapiedeekbfpnaaGreatDoor
open Go.RowKit Go.Shelf

def laysS_ren : Ren := ⟨fun | 138 => 133 | 143 => 134 | 146 => 106 | 195 => 155 | 197 => 156 | 217 => 151 | 218 => 157 | 219 => 131 | 221 => 110 | 224 => 153 | 225 => 152 | 260 => 172 | 266 => 170 | 267 => 154 | 268 => 132 | 314 => 171 | n => n, fun | 0 => 0 | 3 => 3 | 4 => 4 | 5 => 5 | 9 => 9 | 21 => 21 | 31 => 23 | 46 => 134 | 51 => 126 | 105 => 154 | 119 => 176 | 138 => 178 | 139 => 179 | 146 => 168 | n => n, fun | 1 => 2 | 3 => 4 | 4 => 5 | n => n⟩
theorem laysS : Go.Proofs.Lays.n146 Tryz.prog laysS_ren := {
  mixed := by kernel_rfl
  f138 := Tryz.func133.trans (congrArg some (by kernel_rfl))
  f143 := Tryz.func134.trans (congrArg some (by kernel_rfl))
  f146 := Tryz.func106.trans (congrArg some (by kernel_rfl))
  f195 := Tryz.func155.trans (congrArg some (by kernel_rfl))
  f197 := Tryz.func156.trans (congrArg some (by kernel_rfl))
  f217 := Tryz.func151.trans (congrArg some (by kernel_rfl))
  f218 := Tryz.func157.trans (congrArg some (by kernel_rfl))
  f219 := Tryz.func131.trans (congrArg some (by kernel_rfl))
  f221 := Tryz.func110.trans (congrArg some (by kernel_rfl))
  f224 := Tryz.func153.trans (congrArg some (by kernel_rfl))
  f225 := Tryz.func152.trans (congrArg some (by kernel_rfl))
  f260 := Tryz.func172.trans (congrArg some (by kernel_rfl))
  f266 := Tryz.func170.trans (congrArg some (by kernel_rfl))
  f267 := Tryz.func154.trans (congrArg some (by kernel_rfl))
  f268 := Tryz.func132.trans (congrArg some (by kernel_rfl))
  f314 := Tryz.func171.trans (congrArg some (by kernel_rfl))
  t0 := Tryz.underlying0
  a0 := Tryz.isAgg0
  z0 := Tryz.sizeOf0
  v0 := Tryz.zeroValue0
  t3 := Tryz.underlying3
  a3 := Tryz.isAgg3
  z3 := Tryz.sizeOf3
  v3 := Tryz.zeroValue3
  t4 := Tryz.underlying4
  a4 := Tryz.isAgg4
  z4 := Tryz.sizeOf4
  v4 := Tryz.zeroValue4
  t5 := Tryz.underlying5
  a5 := Tryz.isAgg5
  z5 := Tryz.sizeOf5
  v5 := Tryz.zeroValue5
  t9 := Tryz.underlying9
  a9 := Tryz.isAgg9
  z9 := Tryz.sizeOf9
  v9 := Tryz.zeroValue9
  t21 := Tryz.underlying21
  a21 := Tryz.isAgg21
  z21 := Tryz.sizeOf21
  v21 := Tryz.zeroValue21
  t31 := Tryz.underlying23
  a31 := Tryz.isAgg23
  z31 := Tryz.sizeOf23
  v31 := Tryz.zeroValue23
  t46 := Tryz.underlying134
  a46 := Tryz.isAgg134
  z46 := Tryz.sizeOf134
  v46 := Tryz.zeroValue134
  t51 := Tryz.underlying126
  a51 := Tryz.isAgg126
  z51 := Tryz.sizeOf126
  v51 := Tryz.zeroValue126
  t105 := Tryz.underlying154
  a105 := Tryz.isAgg154
  z105 := Tryz.sizeOf154
  v105 := Tryz.zeroValue154
  t119 := Tryz.underlying176
  a119 := Tryz.isAgg176
  z119 := Tryz.sizeOf176
  t138 := Tryz.underlying178
  a138 := Tryz.isAgg178
  z138 := Tryz.sizeOf178
  v138 := Tryz.zeroValue178
  t139 := Tryz.underlying179
  a139 := Tryz.isAgg179
  z139 := Tryz.sizeOf179
  v139 := Tryz.zeroValue179
  t146 := Tryz.underlying168
  a146 := Tryz.isAgg168
  z146 := Tryz.sizeOf168
  v146 := Tryz.zeroValue168
  g1 := by kernel_rfl
  g3 := by kernel_rfl
  g4 := by kernel_rfl }

/-- The library's own variable holds some number. -/
def MaxIs (w : World) : Prop := ∃ m, w.cell? ⟨2, 0, none⟩ = some (.int .i64 m)
theorem MaxIs.below {B : Nat} {w w' : World} (h : MaxIs w) (hb : Below B w w') (hB : 2 < B) : MaxIs w' := by
  obtain ⟨m, hm⟩ := h
  exact ⟨m, (hb.cell (p := ⟨2, 0, none⟩) hB).trans hm⟩
theorem MaxIs.lt {w : World} (h : MaxIs w) : 2 < w.heap.size := by
  obtain ⟨m, hm⟩ := h
  exact World.block_lt_of_cell? w ⟨2, 0, none⟩ hm
theorem MaxIs.up {w w' : World} (h : MaxIs w) (hb : Below w.heap.size w w') : MaxIs w' := h.below hb h.lt

theorem split_any (s : ByteArray) (w : World) (hs : s.size < 4294967281) (hm : MaxIs w) :
    Calls Tryz.prog 106 #[.string s, .string slash] w fun e w' => e = .returned (.slice (some ⟨w.heap.size, 0, none⟩) (piecesB s).length (piecesB s).length) ∧ w' = w.alloc (.cells ((piecesB s).map Value.string).toArray 9) := by
  obtain ⟨m, hm⟩ := hm
  have h := Any.strings_Split laysS (by kernel_rfl) s slash m w hs hm (by decide)
  have e1 := Lib.splitB_all slash (by decide) 0 (Lib.countB s slash) s rfl
  rw [splitB_pieces] at e1
  rw [splitB_pieces, ← e1] at h
  exact h

theorem pieces_len (s : ByteArray) : (piecesB s).length ≤ s.size + 1 := by
  have := parts_len s.data.toList []
  rw [show s.size = s.data.toList.length from size_of rfl]
  simpa [piecesB] using this
theorem pieces_size (s : ByteArray) : ∀ p ∈ piecesB s, p.size ≤ s.size := by
  intro p hp
  obtain ⟨q, hq, rfl⟩ := List.mem_map.1 hp
  have := parts_mem s.data.toList [] q hq
  rw [show (⟨q.toArray⟩ : ByteArray).size = q.length from size_of rfl, show s.size = s.data.toList.length from size_of rfl]
  simpa using this

theorem all_no (l : List ByteArray) (k : Nat) (hk : k < l.length) (h : nameOk l[k] = false) : l.all nameOk = false := by
  rw [List.all_eq_false]
  exact ⟨l[k], List.getElem_mem hk, by simp [h]⟩
theorem all_yes (l : List ByteArray) (h : ∀ j (hj : j < l.length), nameOk l[j] = true) : l.all nameOk = true := by
  rw [List.all_eq_true]
  intro x hx
  obtain ⟨j, hj, rfl⟩ := List.getElem_of_mem hx
  exact h j hj

set_option maxHeartbeats 2000000 in
set_option maxRecDepth 100000 in
theorem IsPath_any (s : ByteArray) (w : World) (hm : MaxIs w) :
    Calls Tryz.prog 49 #[.string s] w fun e w' => e = .returned (.bool (pathOk s)) ∧ Below w.heap.size w w' := by
  by_cases hsz : 100 < s.size
  · have hz : (100 : Int) < (s.size : Int) := by omega
    have HP : Hid (pathOk s = false) := by show _ = _; unfold pathOk; rw [decide_eq_false (by omega), Bool.false_and]
    go_enter Tryz.func49, Tryz.ntmps49
    go_wp2
    go_ret
    exact ⟨by rw [HP.out]; rfl, Below.refl _ _⟩
  have hz : (s.size : Int) ≤ 100 := by omega
  have hs : s.size ≤ 100 := by omega
  have HM : Hid (MaxIs w) := hm
  have HP : Hid (pathOk s = (piecesB s).all nameOk) := by show _ = _; unfold pathOk; rw [decide_eq_true hs, Bool.true_and]
  have HL : Hid (∀ p ∈ piecesB s, p.size ≤ maxLen) := fun p hp => by
    have := pieces_size s p hp
    unfold maxLen
    omega
  have hpl := pieces_len s
  have HC : Hid (∀ j (hj : j < (piecesB s).length), (w.alloc (.cells ((piecesB s).map Value.string).toArray 9)).cell? ⟨w.heap.size, 0 + j, none⟩ = some (.string (piecesB s)[j])) := fun j hj => by
    rw [Lib.cell_of_heap (heap_alloc_new w _)]
    simp [hj]
  have HB : Hid (Below w.heap.size w (w.alloc (.cells ((piecesB s).map Value.string).toArray 9))) := (Below.refl _ _).alloc (Nat.le_refl _) _
  have hpl1 : ((piecesB s).length : Int) ≤ 101 := by omega
  go_enter Tryz.func49, Tryz.ntmps49
  go_wp2_with fail
  refine (split_any s w (by omega) HM.out).mono ?_
  rintro e w1 ⟨rfl, rfl⟩
  generalize hps : piecesB s = ps at HP HL hpl HC HB hpl1
  clear hps
  generalize hw1 : w.alloc (.cells (ps.map Value.string).toArray 9) = w1 at HC HB
  clear hw1
  go_wp2_with fail
  go_loopw [11] (fun i wr => ∃ k : Nat, k ≤ ps.length ∧ i = .int .i64 k ∧ (∀ j, (hj : j < ps.length) → j < k → nameOk ps[j] = true) ∧ wr = w1) (fun i _ => ps.length - (intOf i).toNat)
  case atStart => exact ⟨0, by omega, rfl, by omega, rfl⟩
  case round =>
    obtain ⟨k, hk, rfl, hlo, rfl⟩ := hrel
    have HLO : Hid _ := hlo
    clear hlo
    by_cases hlt : k < ps.length
    · have c0 := HC.out k hlt
      rw [Nat.zero_add] at c0
      have i2 : (k : Int) < ps.length := by omega
      by_cases h1 : nameOk ps[k] = true
      · go_wp2_with fail
        refine (IsName_any ps[k] _ (HL.out _ (List.getElem_mem hlt))).mono ?_
        rintro e w2 ⟨rfl, rfl⟩
        rw [h1]
        go_wp2
        refine ⟨⟨k + 1, by omega, by go_num, fun j hj hjk => ?_, by simp⟩, by simp [intOf]; omega⟩
        by_cases h : j < k
        · exact HLO.out j hj h
        · obtain rfl : j = k := by omega
          assumption
      · have h1' : nameOk ps[k] = false := by simpa using h1
        have H1 : Hid _ := h1'
        clear h1
        go_wp2_with fail
        refine (IsName_any ps[k] _ (HL.out _ (List.getElem_mem hlt))).mono ?_
        rintro e w2 ⟨rfl, rfl⟩
        rw [h1']
        go_wp2
        go_ret
        exact ⟨by rw [HP.out, all_no ps k hlt H1.out]; rfl, HB.out⟩
    · go_wp2
      go_ret
      exact ⟨by rw [HP.out, all_yes ps (fun j hj => HLO.out j hj (by omega))]; rfl, HB.out⟩

theorem extract_one (s : ByteArray) (k : Nat) (hk : k < s.size) : (s.extract k (k + 1)).data.toList = [s[k]] := by
  have h : k < s.data.toList.length := by rw [← size_of (s := s) rfl]; exact hk
  rw [Lib.extract_data, show k + 1 - k = 1 by omega, List.drop_eq_getElem_cons h]
  rfl
theorem own_cells {w : World} {base : Nat} {e : TypeId} {v : Value} {ps : List ByteArray} (h : w.ownsRow base e 1 v ps.length (ps.map Value.string)) (hne : 0 < ps.length) : ∃ g cap, v = .slice (some ⟨g, 0, none⟩) ps.length cap ∧ ∀ j (hj : j < ps.length), w.cell? ⟨g, j, none⟩ = some (.string ps[j]) := by
  have hcells := fun (g : Nat) (hg : v.ownBlock = some g) => h.cells hg
  rcases h.2 with ⟨_, h2⟩ | ⟨g, cap, cur, hv, _⟩
  · omega
  · refine ⟨g, cap, hv, fun j hj => ?_⟩
    have := hcells g (by rw [hv]; rfl) j (.string ps[j]) (by simp [hj])
    rwa [addr_add, Nat.zero_add] at this
theorem own_block {w : World} {base : Nat} {e : TypeId} {size : Nat} {v : Value} {k : Nat} {xs : List Value} (h : w.ownsRow base e size v (k + 1) xs) : ∃ g cap, v = .slice (some ⟨g, 0, none⟩) (k + 1) cap := by
  rcases h.2 with ⟨_, h2⟩ | ⟨g, cap, cur, hv, _⟩
  · omega
  · exact ⟨g, cap, hv⟩

set_option maxHeartbeats 2000000 in
set_option maxRecDepth 100000 in
theorem Parts_any (s : ByteArray) (w : World) (hs : s.size ≤ 100) :
    Calls Tryz.prog 93 #[.string s] w fun e w' => ∃ v, e = .returned v ∧ w'.ownsRow w.heap.size 9 1 v (parts [] s.data.toList).length (strs (parts [] s.data.toList)) ∧ Below w.heap.size w w' := by
  obtain ⟨i0, hi, hz0, hz1, hz2⟩ := info_parts infS
  have hz : (s.size : Int) ≤ 100 := by omega
  go_enter Tryz.func93, Tryz.ntmps93
  go_wp2
  go_loopw [3, 4] (fun v i wr => ∃ k : Nat, k ≤ s.size ∧ i = .int .i64 k ∧ wr.ownsRow w.heap.size 9 1 v (parts [] (s.data.toList.take k)).length (strs (parts [] (s.data.toList.take k))) ∧ Below w.heap.size w wr) (fun _ i _ => s.size - (intOf i).toNat)
  case atStart =>
    refine ⟨0, by omega, rfl, ?_, (Below.refl _ _).alloc (Nat.le_refl _) _⟩
    exact ⟨rfl, Or.inr ⟨w.heap.size, 1, #[.string ⟨#[]⟩], rfl, Nat.le_refl _, heap_alloc_new w _, Nat.le_refl _, by decide, rfl, rfl⟩⟩
  case round =>
    obtain ⟨k, hk, rfl, hown, hb⟩ := hrel
    have HB : Hid (Below w.heap.size w wr) := hb
    have HO : Hid (wr.ownsRow w.heap.size 9 1 u3 (parts [] (s.data.toList.take k)).length (strs (parts [] (s.data.toList.take k)))) := hown
    have hsz := hb.size
    have hpl := parts_len (s.data.toList.take k) []
    rw [List.length_take] at hpl
    clear hb hown
    by_cases hlt : k < s.size
    · have hts := take_snoc s k hlt
      by_cases hc : s[k] = 47
      · have hc1 : (s[k].toNat : Int) = 47 := by rw [hc]; rfl
        have HT : Hid (parts [] (s.data.toList.take (k + 1)) = parts [] (s.data.toList.take k) ++ [[]]) := by
          show _ = _
          rw [hts, hc, parts_slash]
        clear hts hc
        go_wp2_with (at_builtin; refine wpList_append_own _ rfl _ _ 23 rfl w.heap.size 9 i0 (.string ⟨#[]⟩) 1 16 Tryz.underlying23 hi hz0 hz1 hz2 rfl (by decide) _ _ _ rfl (HO.out.alloc _) ⟨wr.heap.size, 0, none⟩ 1 1 [.string ⟨#[]⟩] rfl rfl ?c1 ?c2 ?c3 ?c4 ?c5 ?_)
        case c1 =>
          intro j u hj
          match j, hj with
          | 0, hj => simp at hj; subst hj; simp [Addr.add]
        case c2 => intro u hu; simp at hu; subst hu; rfl
        case c3 => unfold maxLen; omega
        case c4 => omega
        case c5 => simp; omega
        intro v' w4 hown4 hg4 _
        have hrow : ∀ j, u3.ownBlock = some j → w.heap.size ≤ j := fun j hj => (HO.out.lt j hj).1
        have HB4 : Hid (Below w.heap.size w w4) := (HB.out.alloc hsz _).grown hg4 (by simp; omega) hrow
        have HO4 : Hid (w4.ownsRow w.heap.size 9 1 v' ((parts [] (s.data.toList.take k)).length + 1) (strs (parts [] (s.data.toList.take k)) ++ [.string ⟨#[]⟩])) := hown4
        clear hown4 hg4 hrow
        go_wp2
        refine ⟨⟨k + 1, by omega, by go_num, ?_, HB4.out⟩, by simp [intOf]; omega⟩
        rw [HT.out, List.length_append, show strs (parts [] (s.data.toList.take k) ++ [[]]) = strs (parts [] (s.data.toList.take k)) ++ [.string ⟨#[]⟩] from by simp [strs]]
        exact HO4.out
      · have hc1 : ((s[k].toNat : Int) == 47) = false := by
          rw [beq_eq_false_iff_ne]
          intro h
          exact hc (UInt8.toNat_inj.1 (by show s[k].toNat = 47; omega))
        obtain ⟨ps, p, e1, e2⟩ := parts_snoc (s.data.toList.take k) s[k] hc []
        rw [← hts] at e2
        have E2 : Hid _ := e2
        clear e2 hts hc
        rw [e1] at HO
        have hlen : (ps ++ [p]).length = ps.length + 1 := by simp
        rw [hlen] at HO
        obtain ⟨g, cap, rfl⟩ := own_block HO.out
        have q0 : wr.cell? ⟨g, ps.length, none⟩ = some (.string ⟨p.toArray⟩) := by
          have := HO.out.cells rfl ps.length (.string ⟨p.toArray⟩) (by simp [strs])
          rwa [addr_add, Nat.zero_add] at this
        have q1 : wr.frozen? ⟨g, ps.length, none⟩ = false := HO.out.frozenAt _
        have hpl2 : ps.length ≤ k := by rw [e1, hlen] at hpl; omega
        have i1 : (ps.length : Int) < (ps.length : Int) + 1 := by omega
        have i2 : (0 : Int) ≤ (ps.length : Int) := by omega
        have i5 : IntKind.i64.wrap ((ps.length : Int) + 1 - 1) = ps.length := by rw [wraps_i64 _ (by omega) (by omega)]; omega
        have i6 : IntKind.i64.wrap (ps.length : Int) = ps.length := wraps_i64 _ (by omega) (by omega)
        have hp := parts_mem (s.data.toList.take k) [] p (by rw [e1]; simp)
        rw [List.length_take] at hp
        have hadd : ∀ W : World, (Op.stringOp .add ⟨p.toArray⟩ (s.extract k (k + 1))).run Tryz.prog W = .ok (.string ⟨(p ++ [s[k]]).toArray⟩) W := fun W => by
          have h1 := addl p (s.extract k (k + 1)) (by simp at hp ⊢; omega) W
          rwa [extract_one s k hlt] at h1
        clear hp
        have HO5 : Hid ((wr.setCell ⟨g, ps.length, none⟩ (.string ⟨(p ++ [s[k]]).toArray⟩)).ownsRow w.heap.size 9 1 (.slice (some ⟨g, 0, none⟩) (ps.length + 1) cap) (ps.length + 1) (strs (ps ++ [p ++ [s[k]]]))) := by
          have h1 := (HO.out.stored ps.length (.string ⟨(p ++ [s[k]]).toArray⟩)).1
          rwa [show (strs (ps ++ [p])).set ps.length (.string ⟨(p ++ [s[k]]).toArray⟩) = strs (ps ++ [p ++ [s[k]]]) from by simp [strs]] at h1
        have HB5 : Hid (Below w.heap.size w (wr.setCell ⟨g, ps.length, none⟩ (.string ⟨(p ++ [s[k]]).toArray⟩)).drew) := (HB.out.setCell (p := ⟨g, ps.length, none⟩) (HO.out.lt g rfl).1 _).drew
        go_wp2
        go_region
        go_wp2
        refine ⟨⟨k + 1, by omega, by go_num, ?_, HB5.out⟩, by simp [intOf]; omega⟩
        rw [E2.out, show (ps ++ [p ++ [s[k]]]).length = ps.length + 1 from by simp]
        exact HO5.out
    · obtain rfl : k = s.size := by omega
      rw [size_of (s := s) rfl, List.take_length] at HO
      go_wp2
      go_ret
      exact ⟨_, rfl, HO.out, HB.out⟩

set_option maxHeartbeats 2000000 in
set_option maxRecDepth 100000 in
theorem RIsPath_any (s : ByteArray) (w : World) :
    Calls Tryz.prog 41 #[.string s] w fun e w' => e = .returned (.bool (pathOk s)) ∧ Below w.heap.size w w' := by
  by_cases hsz : 100 < s.size
  · have hz : (100 : Int) < (s.size : Int) := by omega
    have HP : Hid (pathOk s = false) := by show _ = _; unfold pathOk; rw [decide_eq_false (by omega), Bool.false_and]
    go_enter Tryz.func41, Tryz.ntmps41
    go_wp2
    go_ret
    exact ⟨by rw [HP.out]; rfl, Below.refl _ _⟩
  have hz : (s.size : Int) ≤ 100 := by omega
  have hs : s.size ≤ 100 := by omega
  have HP : Hid (pathOk s = (piecesB s).all nameOk) := by show _ = _; unfold pathOk; rw [decide_eq_true hs, Bool.true_and]
  have HL : Hid (∀ p ∈ piecesB s, p.size ≤ maxLen) := fun p hp => by
    have := pieces_size s p hp
    unfold maxLen
    omega
  have hpl := pieces_len s
  have hpl1 : ((piecesB s).length : Int) ≤ 101 := by omega
  have hne : 0 < (piecesB s).length := by
    have := parts_ne s.data.toList []
    have := List.length_pos_iff.2 this
    simpa [piecesB] using this
  have hpp : (parts [] s.data.toList).length = (piecesB s).length := by simp [piecesB]
  have hpc : strs (parts [] s.data.toList) = (piecesB s).map Value.string := by simp [strs, piecesB]
  go_enter Tryz.func41, Tryz.ntmps41
  go_wp2_with fail
  refine (Parts_any s w hs).mono ?_
  rintro e w1 ⟨v, rfl, hown, hb1⟩
  rw [hpp, hpc] at hown
  have HB : Hid (Below w.heap.size w w1) := hb1
  clear hb1 hpp hpc
  generalize hps : piecesB s = ps at HP HL hpl hpl1 hown hne
  clear hps
  obtain ⟨g, cap, rfl, hcells⟩ := own_cells hown hne
  have HC : Hid (∀ j (hj : j < ps.length), w1.cell? ⟨g, j, none⟩ = some (.string ps[j])) := hcells
  clear hown hcells hne
  go_wp2_with fail
  go_loopw [4] (fun i wr => ∃ k : Nat, k ≤ ps.length ∧ i = .int .i64 k ∧ (∀ j, (hj : j < ps.length) → j < k → nameOk ps[j] = true) ∧ wr = w1) (fun i _ => ps.length - (intOf i).toNat)
  case atStart => exact ⟨0, by omega, rfl, by omega, rfl⟩
  case round =>
    obtain ⟨k, hk, rfl, hlo, rfl⟩ := hrel
    have HLO : Hid _ := hlo
    clear hlo
    by_cases hlt : k < ps.length
    · have c0 := HC.out k hlt
      have i2 : (k : Int) < ps.length := by omega
      by_cases h1 : nameOk ps[k] = true
      · go_wp2_with fail
        refine (RIsName_any ps[k] _ (HL.out _ (List.getElem_mem hlt))).mono ?_
        rintro e w2 ⟨rfl, rfl⟩
        rw [h1]
        go_wp2
        refine ⟨⟨k + 1, by omega, by go_num, fun j hj hjk => ?_, by simp⟩, by simp [intOf]; omega⟩
        by_cases h : j < k
        · exact HLO.out j hj h
        · obtain rfl : j = k := by omega
          assumption
      · have h1' : nameOk ps[k] = false := by simpa using h1
        have H1 : Hid _ := h1'
        clear h1
        go_wp2_with fail
        refine (RIsName_any ps[k] _ (HL.out _ (List.getElem_mem hlt))).mono ?_
        rintro e w2 ⟨rfl, rfl⟩
        rw [h1']
        go_wp2
        go_ret
        exact ⟨by rw [HP.out, all_no ps k hlt H1.out]; rfl, HB.out⟩
    · go_wp2
      go_ret
      exact ⟨by rw [HP.out, all_yes ps (fun j hj => HLO.out j hj (by omega))]; rfl, HB.out⟩
end Go.Proofs.YtapiedeekbfpnaaGreatDoor

/- What each part of a line takes. -/
namespace Go.Proofs.YtapiedeekbfpnaaGreatDoor
open Go.RowKit Go.Shelf

/-- Nothing turns but one block, and what is new. -/
structure UpB (P : Nat) (w w' : World) : Prop where
  os : w'.os = w.os
  tape : w'.tape = w.tape
  output : w'.output = w.output
  size : w.heap.size ≤ w'.heap.size
  block : ∀ g : Nat, g < w.heap.size → g ≠ P → w'.heap[g]? = w.heap[g]?
theorem UpB.refl (P : Nat) (w : World) : UpB P w w := ⟨rfl, rfl, rfl, Nat.le_refl _, fun _ _ _ => rfl⟩
theorem UpB.trans {P : Nat} {a b c : World} (h : UpB P a b) (k : UpB P b c) : UpB P a c :=
  ⟨k.os.trans h.os, k.tape.trans h.tape, k.output.trans h.output, Nat.le_trans h.size k.size, fun g hg hn => (k.block g (Nat.lt_of_lt_of_le hg h.size) hn).trans (h.block g hg hn)⟩
theorem UpB.of_below {P : Nat} {w w' : World} (h : Below w.heap.size w w') : UpB P w w' := ⟨h.os, h.tape, h.output, h.size, fun g hg _ => h.block g hg⟩
theorem UpB.below {P : Nat} {w w' : World} {B : Nat} (h : UpB P w w') (hB : B ≤ P) (hw : B ≤ w.heap.size) : Below B w w' :=
  ⟨h.os, h.tape, h.output, h.size, fun g hg => h.block g (by omega) (by omega)⟩
theorem UpB.set (P i : Nat) (w : World) (v : Value) : UpB P w (w.setCell ⟨P, i, none⟩ v) :=
  ⟨rfl, rfl, rfl, by simp [World.setCell], fun g _ hg => Below.heap_setCell w ⟨P, i, none⟩ v g hg⟩
theorem UpB.drewN {P : Nat} {w w' : World} (h : UpB P w w') (n : Nat) : UpB P w (w'.drewN n) := ⟨h.os, h.tape, h.output, h.size, h.block⟩

def lnC (l : Ln) : Array Value := #[.string l.wd, .int .i64 (l.r : Int), .int .i64 (l.s : Int), .string l.pa, .string l.tx, .int .i64 (l.n : Int), .int .i64 (l.m : Int)]
/-- A line lies in a block. -/
def LnAt (w : World) (P : Nat) (l : Ln) : Prop := w.heap[P]? = some (.cells (lnC l) 67 (0, 0))
theorem LnAt.lt {w : World} {P : Nat} {l : Ln} (h : LnAt w P l) : P < w.heap.size := (Array.getElem?_eq_some_iff.1 h).1
theorem LnAt.below {w w' : World} {P : Nat} {l : Ln} (h : LnAt w P l) (hb : Below w.heap.size w w') : LnAt w' P l := (hb.block P h.lt).trans h
/-- What a part comes to. -/
def TkQ (lines k P : Nat) (l : Ln) (g : ByteArray) (w : World) (e : Ending) (w' : World) : Prop :=
  e = .returned (.bool (takP lines k l g.data.toList).isSome) ∧ (∃ l', LnAt w' P l' ∧ ∀ l2, takP lines k l g.data.toList = some l2 → l' = l2) ∧ UpB P w w'

set_option maxHeartbeats 1000000 in
set_option maxRecDepth 100000 in
theorem part_r (lines P : Nat) (l : Ln) (g : ByteArray) (w : World) (hl : LnAt w P l) (hg : g.size ≤ 1000000) :
    Calls Tryz.prog 54 #[.pointer (some ⟨P, 0, none⟩), .string g] w (TkQ lines 0 P l g w) := by
  have HR : Hid (∀ W, Calls Tryz.prog 55 #[.string g] W fun e w' => e = .returned (.tuple (regV g.data.toList)) ∧ w' = W) := fun W => register_any g W hg
  have f1 := Lib.frozen_of_heap hl 1
  have c1 : w.cell? ⟨P, 1, none⟩ = some (.int .i64 (l.r : Int)) := by rw [Lib.cell_of_heap hl]; rfl
  have H : Hid (LnAt w P l) := hl
  clear hl hg
  cases hv : regF g.data.toList with
  | none =>
    rw [show regV g.data.toList = #[.int .i64 0, .bool false] by unfold regV; rw [hv]] at HR
    have HV : Hid (regF g.data.toList = none) := hv
    clear hv
    go_enter Tryz.func54, Tryz.ntmps54
    go_wp2_with (first | (go_at_call 55; refine (HR.out _).mono ?_; rintro e w1 ⟨rfl, hw⟩; subst w1) | go_in)
    go_ret
    have ht : takP lines 0 l g.data.toList = none := by unfold takP; simp [HV.out]
    refine ⟨by rw [ht]; rfl, ⟨{ l with r := 0 }, ?_, fun l2 h2 => by rw [ht] at h2; cases h2⟩, UpB.set P 1 w _⟩
    exact Go.Joins.block_setCell H.out _
  | some v =>
    rw [show regV g.data.toList = #[.int .i64 (v : Int), .bool true] by unfold regV; rw [hv]] at HR
    have HV : Hid (regF g.data.toList = some v) := hv
    clear hv
    go_enter Tryz.func54, Tryz.ntmps54
    go_wp2_with (first | (go_at_call 55; refine (HR.out _).mono ?_; rintro e w1 ⟨rfl, hw⟩; subst w1) | go_in)
    go_ret
    have ht : takP lines 0 l g.data.toList = some { l with r := v } := by unfold takP; simp [HV.out]
    refine ⟨by rw [ht]; rfl, ⟨{ l with r := v }, ?_, fun l2 h2 => by rw [ht] at h2; exact Option.some.inj h2⟩, UpB.set P 1 w _⟩
    exact Go.Joins.block_setCell H.out _

set_option maxHeartbeats 1000000 in
set_option maxRecDepth 100000 in
theorem part_s (lines P : Nat) (l : Ln) (g : ByteArray) (w : World) (hl : LnAt w P l) (hg : g.size ≤ 1000000) :
    Calls Tryz.prog 56 #[.pointer (some ⟨P, 0, none⟩), .string g] w (TkQ lines 1 P l g w) := by
  have HR : Hid (∀ W, Calls Tryz.prog 55 #[.string g] W fun e w' => e = .returned (.tuple (regV g.data.toList)) ∧ w' = W) := fun W => register_any g W hg
  have f1 := Lib.frozen_of_heap hl 2
  have c1 : w.cell? ⟨P, 2, none⟩ = some (.int .i64 (l.s : Int)) := by rw [Lib.cell_of_heap hl]; rfl
  have H : Hid (LnAt w P l) := hl
  clear hl hg
  cases hv : regF g.data.toList with
  | none =>
    rw [show regV g.data.toList = #[.int .i64 0, .bool false] by unfold regV; rw [hv]] at HR
    have HV : Hid (regF g.data.toList = none) := hv
    clear hv
    go_enter Tryz.func56, Tryz.ntmps56
    go_wp2_with (first | (go_at_call 55; refine (HR.out _).mono ?_; rintro e w1 ⟨rfl, hw⟩; subst w1) | go_in)
    go_ret
    have ht : takP lines 1 l g.data.toList = none := by unfold takP; simp [HV.out]
    refine ⟨by rw [ht]; rfl, ⟨{ l with s := 0 }, ?_, fun l2 h2 => by rw [ht] at h2; cases h2⟩, UpB.set P 2 w _⟩
    exact Go.Joins.block_setCell H.out _
  | some v =>
    rw [show regV g.data.toList = #[.int .i64 (v : Int), .bool true] by unfold regV; rw [hv]] at HR
    have HV : Hid (regF g.data.toList = some v) := hv
    clear hv
    go_enter Tryz.func56, Tryz.ntmps56
    go_wp2_with (first | (go_at_call 55; refine (HR.out _).mono ?_; rintro e w1 ⟨rfl, hw⟩; subst w1) | go_in)
    go_ret
    have ht : takP lines 1 l g.data.toList = some { l with s := v } := by unfold takP; simp [HV.out]
    refine ⟨by rw [ht]; rfl, ⟨{ l with s := v }, ?_, fun l2 h2 => by rw [ht] at h2; exact Option.some.inj h2⟩, UpB.set P 2 w _⟩
    exact Go.Joins.block_setCell H.out _

set_option maxHeartbeats 1000000 in
set_option maxRecDepth 100000 in
theorem part_n (lines P : Nat) (l : Ln) (g : ByteArray) (w : World) (hl : LnAt w P l) (hg : g.size ≤ 1000000) :
    Calls Tryz.prog 57 #[.pointer (some ⟨P, 0, none⟩), .string g] w (TkQ lines 2 P l g w) := by
  have HR : Hid (∀ W, Calls Tryz.prog 58 #[.string g] W fun e w' => e = .returned (.tuple (numV g.data.toList)) ∧ Below W.heap.size W w') := fun W => numb_any g W hg
  have H : Hid (LnAt w P l) := hl
  clear hl hg
  cases hv : numF g.data.toList with
  | none =>
    rw [show numV g.data.toList = #[.int .i64 0, .bool false] by unfold numV; rw [hv]] at HR
    have HV : Hid (numF g.data.toList = none) := hv
    clear hv
    go_enter Tryz.func57, Tryz.ntmps57
    go_wp2_with (first | (go_at_call 58; refine (HR.out _).mono ?_; rintro e w1 ⟨rfl, hb⟩; have HB : Hid (Below w.heap.size w w1) := hb; have hl1 : w1.heap[P]? = some (.cells (lnC l) 67 (0, 0)) := H.out.below hb; have f1 := Lib.frozen_of_heap hl1 5; have c1 : w1.cell? ⟨P, 5, none⟩ = some (.int .i64 (l.n : Int)) := (by rw [Lib.cell_of_heap hl1]; rfl); have HL1 : Hid (LnAt w1 P l) := hl1; clear hb hl1) | go_in)
    go_ret
    have ht : takP lines 2 l g.data.toList = none := by unfold takP; simp [HV.out]
    refine ⟨by rw [ht]; rfl, ⟨{ l with n := 0 }, ?_, fun l2 h2 => by rw [ht] at h2; cases h2⟩, (UpB.of_below HB.out).trans (UpB.set P 5 _ _)⟩
    exact Go.Joins.block_setCell HL1.out _
  | some v =>
    rw [show numV g.data.toList = #[.int .i64 (v : Int), .bool true] by unfold numV; rw [hv]] at HR
    have HV : Hid (numF g.data.toList = some v) := hv
    clear hv
    go_enter Tryz.func57, Tryz.ntmps57
    go_wp2_with (first | (go_at_call 58; refine (HR.out _).mono ?_; rintro e w1 ⟨rfl, hb⟩; have HB : Hid (Below w.heap.size w w1) := hb; have hl1 : w1.heap[P]? = some (.cells (lnC l) 67 (0, 0)) := H.out.below hb; have f1 := Lib.frozen_of_heap hl1 5; have c1 : w1.cell? ⟨P, 5, none⟩ = some (.int .i64 (l.n : Int)) := (by rw [Lib.cell_of_heap hl1]; rfl); have HL1 : Hid (LnAt w1 P l) := hl1; clear hb hl1) | go_in)
    go_ret
    have ht : takP lines 2 l g.data.toList = some { l with n := v } := by unfold takP; simp [HV.out]
    refine ⟨by rw [ht]; rfl, ⟨{ l with n := v }, ?_, fun l2 h2 => by rw [ht] at h2; exact Option.some.inj h2⟩, (UpB.of_below HB.out).trans (UpB.set P 5 _ _)⟩
    exact Go.Joins.block_setCell HL1.out _

set_option maxHeartbeats 1000000 in
set_option maxRecDepth 100000 in
theorem part_m (lines P : Nat) (l : Ln) (g : ByteArray) (w : World) (hl : LnAt w P l) (hg : g.size ≤ 1000000) :
    Calls Tryz.prog 59 #[.pointer (some ⟨P, 0, none⟩), .string g] w (TkQ lines 3 P l g w) := by
  have HR : Hid (∀ W, Calls Tryz.prog 58 #[.string g] W fun e w' => e = .returned (.tuple (numV g.data.toList)) ∧ Below W.heap.size W w') := fun W => numb_any g W hg
  have H : Hid (LnAt w P l) := hl
  clear hl hg
  cases hv : numF g.data.toList with
  | none =>
    rw [show numV g.data.toList = #[.int .i64 0, .bool false] by unfold numV; rw [hv]] at HR
    have HV : Hid (numF g.data.toList = none) := hv
    clear hv
    go_enter Tryz.func59, Tryz.ntmps59
    go_wp2_with (first | (go_at_call 58; refine (HR.out _).mono ?_; rintro e w1 ⟨rfl, hb⟩; have HB : Hid (Below w.heap.size w w1) := hb; have hl1 : w1.heap[P]? = some (.cells (lnC l) 67 (0, 0)) := H.out.below hb; have f1 := Lib.frozen_of_heap hl1 6; have c1 : w1.cell? ⟨P, 6, none⟩ = some (.int .i64 (l.m : Int)) := (by rw [Lib.cell_of_heap hl1]; rfl); have HL1 : Hid (LnAt w1 P l) := hl1; clear hb hl1) | go_in)
    go_ret
    have ht : takP lines 3 l g.data.toList = none := by unfold takP; simp [HV.out]
    refine ⟨by rw [ht]; rfl, ⟨{ l with m := 0 }, ?_, fun l2 h2 => by rw [ht] at h2; cases h2⟩, (UpB.of_below HB.out).trans (UpB.set P 6 _ _)⟩
    exact Go.Joins.block_setCell HL1.out _
  | some v =>
    rw [show numV g.data.toList = #[.int .i64 (v : Int), .bool true] by unfold numV; rw [hv]] at HR
    have HV : Hid (numF g.data.toList = some v) := hv
    clear hv
    go_enter Tryz.func59, Tryz.ntmps59
    go_wp2_with (first | (go_at_call 58; refine (HR.out _).mono ?_; rintro e w1 ⟨rfl, hb⟩; have HB : Hid (Below w.heap.size w w1) := hb; have hl1 : w1.heap[P]? = some (.cells (lnC l) 67 (0, 0)) := H.out.below hb; have f1 := Lib.frozen_of_heap hl1 6; have c1 : w1.cell? ⟨P, 6, none⟩ = some (.int .i64 (l.m : Int)) := (by rw [Lib.cell_of_heap hl1]; rfl); have HL1 : Hid (LnAt w1 P l) := hl1; clear hb hl1) | go_in)
    go_ret
    have ht : takP lines 3 l g.data.toList = some { l with m := v } := by unfold takP; simp [HV.out]
    refine ⟨by rw [ht]; rfl, ⟨{ l with m := v }, ?_, fun l2 h2 => by rw [ht] at h2; exact Option.some.inj h2⟩, (UpB.of_below HB.out).trans (UpB.set P 6 _ _)⟩
    exact Go.Joins.block_setCell HL1.out _

set_option maxHeartbeats 1000000 in
set_option maxRecDepth 100000 in
theorem part_text (lines P : Nat) (l : Ln) (g : ByteArray) (w : World) (hl : LnAt w P l) :
    Calls Tryz.prog 62 #[.pointer (some ⟨P, 0, none⟩), .string g] w (TkQ lines 6 P l g w) := by
  have f1 := Lib.frozen_of_heap hl 4
  have c1 : w.cell? ⟨P, 4, none⟩ = some (.string l.tx) := by rw [Lib.cell_of_heap hl]; rfl
  have H : Hid (LnAt w P l) := hl
  clear hl
  go_enter Tryz.func62, Tryz.ntmps62
  go_wp2
  go_ret
  have ht : takP lines 6 l g.data.toList = some { l with tx := g } := by unfold takP bA; simp
  refine ⟨by rw [ht]; rfl, ⟨{ l with tx := g }, ?_, fun l2 h2 => by rw [ht] at h2; exact Option.some.inj h2⟩, UpB.set P 4 w _⟩
  exact Go.Joins.block_setCell H.out _

theorem bA_data (g : ByteArray) : bA g.data.toList = g := by unfold bA; simp

set_option maxHeartbeats 1000000 in
set_option maxRecDepth 100000 in
theorem part_path (P : Nat) (l : Ln) (g : ByteArray) (w : World) (hl : LnAt w P l) (hm : MaxIs w) :
    Calls Tryz.prog 63 #[.pointer (some ⟨P, 0, none⟩), .string g] w fun e w' => e = .returned (.bool (pathOk g)) ∧ LnAt w' P { l with pa := g } ∧ UpB P w w' := by
  have f1 := Lib.frozen_of_heap hl 3
  have c1 : w.cell? ⟨P, 3, none⟩ = some (.string l.pa) := by rw [Lib.cell_of_heap hl]; rfl
  have H : Hid (LnAt w P l) := hl
  have hl2 : LnAt (w.setCell ⟨P, 3, none⟩ (.string g)) P { l with pa := g } := Go.Joins.block_setCell hl _
  have HU : Hid (UpB P w (w.setCell ⟨P, 3, none⟩ (.string g))) := UpB.set P 3 w _
  have hm2 : MaxIs (w.setCell ⟨P, 3, none⟩ (.string g)) := by
    obtain ⟨x, hx⟩ := hm
    by_cases hP : P = 2
    · subst hP
      rw [Lib.cell_of_heap hl] at hx
      cases hx
    · refine ⟨x, ?_⟩
      rw [World.cell?_setCell_other _ _ _ _ (fun e => hP (by have := congrArg Addr.block e; exact this))]
      exact hx
  have HP : Hid (Calls Tryz.prog 49 #[.string g] (w.setCell ⟨P, 3, none⟩ (.string g)) fun e w' => e = .returned (.bool (pathOk g)) ∧ Below (w.setCell ⟨P, 3, none⟩ (.string g)).heap.size (w.setCell ⟨P, 3, none⟩ (.string g)) w') := IsPath_any g _ hm2
  have HL : Hid (LnAt (w.setCell ⟨P, 3, none⟩ (.string g)) P { l with pa := g }) := hl2
  clear hl hl2 hm hm2
  go_enter Tryz.func63, Tryz.ntmps63
  go_wp2_with (first | (go_at_call 49; refine HP.out.mono ?_; rintro e w1 ⟨rfl, hb⟩; have HB : Hid (Below (w.setCell ⟨P, 3, none⟩ (.string g)).heap.size (w.setCell ⟨P, 3, none⟩ (.string g)) w1) := hb; clear hb) | go_in)
  go_ret
  exact ⟨rfl, HL.out.below HB.out, HU.out.trans (UpB.of_below HB.out)⟩
theorem part_path7 (lines P : Nat) (l : Ln) (g : ByteArray) (w : World) (hl : LnAt w P l) (hm : MaxIs w) :
    Calls Tryz.prog 63 #[.pointer (some ⟨P, 0, none⟩), .string g] w (TkQ lines 7 P l g w) := by
  refine (part_path P l g w hl hm).mono ?_
  rintro e w' ⟨rfl, h1, h2⟩
  have ht : takP lines 7 l g.data.toList = if pathOk g = true then some { l with pa := g } else none := by
    unfold takP
    rw [bA_data]
    simp
  refine ⟨?_, ⟨_, h1, fun l2 e => ?_⟩, h2⟩
  · rw [ht]
    cases pathOk g <;> rfl
  · rw [ht] at e
    split at e
    · exact Option.some.inj e
    · cases e

/-- What the parts lean on: a number is a part of its own, and so is a path; how many lines there are. -/
def PrtE (w : World) (bn bl bp lines : Nat) : Prop :=
  w.cell? ⟨bn, 0, none⟩ = some (.func (.func 57) #[] #[]) ∧ w.cell? ⟨bl, 0, none⟩ = some (.int .i64 (lines : Int)) ∧ w.cell? ⟨bp, 0, none⟩ = some (.func (.func 63) #[] #[])
theorem ne_of_cell {w : World} {P b : Nat} {v : Value} {l : Ln} (hl : LnAt w P l) (hc : w.cell? ⟨b, 0, none⟩ = some v) (hv : ∀ s, v ≠ .string s) : b ≠ P := by
  rintro rfl
  rw [Lib.cell_of_heap hl] at hc
  exact hv l.wd (Option.some.inj hc).symm
theorem cell_up {w w' : World} {P b : Nat} {v : Value} (hu : UpB P w w') (hn : b ≠ P) (hc : w.cell? ⟨b, 0, none⟩ = some v) : w'.cell? ⟨b, 0, none⟩ = some v := by
  have hlt : b < w.heap.size := World.block_lt_of_cell? w ⟨b, 0, none⟩ hc
  have := hu.block b hlt hn
  unfold World.cell? at hc ⊢
  simp only at hc ⊢
  rw [this]
  exact hc

set_option maxHeartbeats 1000000 in
set_option maxRecDepth 100000 in
theorem part_end (lines P bn : Nat) (l : Ln) (g : ByteArray) (w : World) (hl : LnAt w P l) (hg : g.size ≤ 1000000) (hn : w.cell? ⟨bn, 0, none⟩ = some (.func (.func 57) #[] #[])) :
    Calls Tryz.prog 61 #[.pointer (some ⟨P, 0, none⟩), .string g, .pointer (some ⟨bn, 0, none⟩)] w (TkQ lines 5 P l g w) := by
  have HR : Hid (Calls Tryz.prog 57 #[.pointer (some ⟨P, 0, none⟩), .string g] w (TkQ lines 2 P l g w)) := part_n lines P l g w hl hg
  clear hl hg
  cases hv : numF g.data.toList with
  | none =>
    have h2 : takP lines 2 l g.data.toList = none := by unfold takP; simp [hv]
    have h5 : Hid (takP lines 5 l g.data.toList = none) := by show _ = _; unfold takP; simp [hv]
    unfold TkQ at HR
    rw [h2] at HR
    clear hv h2
    go_enter Tryz.func61, Tryz.ntmps61
    go_wp2_with (first | (go_at_call 57; refine HR.out.mono ?_; rintro e w1 ⟨rfl, hq⟩; have HQ : Hid _ := hq; clear hq) | go_in)
    go_ret
    obtain ⟨⟨l', q1, _⟩, q3⟩ := HQ.out
    exact ⟨by rw [h5.out]; rfl, ⟨l', q1, fun l2 e => by rw [h5.out] at e; cases e⟩, q3⟩
  | some v =>
    have h2 : takP lines 2 l g.data.toList = some { l with n := v } := by unfold takP; simp [hv]
    have h5 : Hid (takP lines 5 l g.data.toList = if v ≤ 99 then some { l with n := v } else none) := by show _ = _; unfold takP; simp [hv]
    unfold TkQ at HR
    rw [h2] at HR
    clear hv h2
    by_cases h9 : v ≤ 99
    · have h9i : (v : Int) ≤ 99 := by omega
      go_enter Tryz.func61, Tryz.ntmps61
      go_wp2_with (first | (go_at_call 57; refine HR.out.mono ?_; rintro e w1 ⟨rfl, hq⟩; have HQ : Hid _ := hq; obtain ⟨⟨l', q1, q2⟩, q3⟩ := hq; obtain rfl := q2 _ rfl; have c5 : w1.cell? ⟨P, 5, none⟩ = some (.int .i64 (v : Int)) := (by rw [Lib.cell_of_heap q1]; rfl); clear q1 q2 q3) | go_in)
      go_ret
      obtain ⟨⟨l', q1, q2⟩, q3⟩ := HQ.out
      obtain rfl := q2 _ rfl
      rw [if_pos h9] at h5
      exact ⟨by rw [h5.out]; rfl, ⟨_, q1, fun l2 e => by rw [h5.out] at e; exact Option.some.inj e⟩, q3⟩
    · have h9i : ¬ (v : Int) ≤ 99 := by omega
      go_enter Tryz.func61, Tryz.ntmps61
      go_wp2_with (first | (go_at_call 57; refine HR.out.mono ?_; rintro e w1 ⟨rfl, hq⟩; have HQ : Hid _ := hq; obtain ⟨⟨l', q1, q2⟩, q3⟩ := hq; obtain rfl := q2 _ rfl; have c5 : w1.cell? ⟨P, 5, none⟩ = some (.int .i64 (v : Int)) := (by rw [Lib.cell_of_heap q1]; rfl); clear q1 q2 q3) | go_in)
      go_ret
      obtain ⟨⟨l', q1, q2⟩, q3⟩ := HQ.out
      obtain rfl := q2 _ rfl
      rw [if_neg h9] at h5
      exact ⟨by rw [h5.out]; show Ending.returned (.bool (decide ((v : Int) ≤ 99))) = _; rw [decide_eq_false (by omega)]; rfl, ⟨_, q1, fun l2 e => by rw [h5.out] at e; cases e⟩, q3⟩

set_option maxHeartbeats 1000000 in
set_option maxRecDepth 100000 in
theorem part_dir (lines P bp : Nat) (l : Ln) (g : ByteArray) (w : World) (hl : LnAt w P l) (hm : MaxIs w) (hn : w.cell? ⟨bp, 0, none⟩ = some (.func (.func 63) #[] #[])) :
    Calls Tryz.prog 64 #[.pointer (some ⟨P, 0, none⟩), .string g, .pointer (some ⟨bp, 0, none⟩)] w (TkQ lines 8 P l g w) := by
  have HR : Hid (Calls Tryz.prog 63 #[.pointer (some ⟨P, 0, none⟩), .string g] w fun e w' => e = .returned (.bool (pathOk g)) ∧ LnAt w' P { l with pa := g } ∧ UpB P w w') := part_path P l g w hl hm
  have ht : Hid (takP lines 8 l g.data.toList = if pathOk g = true ∨ g.data.toList = [46] then some { l with pa := g } else none) := by
    show _ = _
    unfold takP
    rw [bA_data]
    simp
  clear hl hm
  cases hp : pathOk g with
  | true =>
    rw [hp] at HR ht
    go_enter Tryz.func64, Tryz.ntmps64
    go_wp2_with (first | (go_at_call 63; refine HR.out.mono ?_; rintro e w1 ⟨rfl, hq⟩; have HQ : Hid _ := hq; clear hq) | go_in)
    go_ret
    rw [if_pos (.inl (by simp))] at ht
    exact ⟨by rw [ht.out]; rfl, ⟨_, HQ.out.1, fun l2 e => by rw [ht.out] at e; exact Option.some.inj e⟩, HQ.out.2⟩
  | false =>
    rw [hp] at HR ht
    by_cases hd : g.data.toList = [46]
    · have hd' : (g.toList == [46]) = true := by rw [Lib.toList_data, hd]; rfl
      have HD : Hid (g.data.toList = [46]) := hd
      clear hd hp
      go_enter Tryz.func64, Tryz.ntmps64
      go_wp2_with (first | (go_at_call 63; refine HR.out.mono ?_; rintro e w1 ⟨rfl, hq⟩; have HQ : Hid _ := hq; clear hq) | go_in)
      go_ret
      rw [if_pos (.inr HD.out)] at ht
      exact ⟨by rw [ht.out]; rfl, ⟨_, HQ.out.1, fun l2 e => by rw [ht.out] at e; exact Option.some.inj e⟩, HQ.out.2⟩
    · have hd' : (g.toList == [46]) = false := by rw [Lib.toList_data]; exact beq_eq_false_iff_ne.2 hd
      have HD : Hid (g.data.toList ≠ [46]) := hd
      clear hd hp
      go_enter Tryz.func64, Tryz.ntmps64
      go_wp2_with (first | (go_at_call 63; refine HR.out.mono ?_; rintro e w1 ⟨rfl, hq⟩; have HQ : Hid _ := hq; clear hq) | go_in)
      go_ret
      rw [if_neg (fun h => h.elim (fun h => by simp at h) HD.out)] at ht
      exact ⟨by rw [ht.out]; rfl, ⟨_, HQ.out.1, fun l2 e => by rw [ht.out] at e; cases e⟩, HQ.out.2⟩

theorem step_call {P : Program} {ops : Array Oper} {o : Oper} {a : Act} {w : World} {K : Act → World → Prop} {Q : Exit → Act → World → Prop} {E : Prop} (hg : o.guard = none) (h : Oper.wp P o a w K Q) : if Region.wanted o (yielded ops a.tmps) = true then Oper.wp P o a w K Q else E := by
  have hw : Region.wanted o (yielded ops a.tmps) = true := by simp [Region.wanted, hg]
  rw [if_pos hw]
  exact h

theorem wpAny_takeF {P : Program} {ops : Array Oper} {Q : Exit → Act → World → Prop} {md : Region.Mode} {i : Nat} {oi : Oper} {v : Value} {fuel : Nat} {listed : Array Bool} {a a2 : Act} {w : World} (hi : ops[i]? = some oi)
    (hs : Region.noSelect ops = true) (hf : Region.free md ops listed i = true) (hr : (Region.ready md ops listed).contains i = true)
    (hQ : ∀ c a w, Q (.panic c) (a.put oi.dst v) w → Q (.panic c) a w) (hy : Yields P ops oi v a) (he : a.put oi.dst v = a2)
    (h : wpAny P md ops Q fuel (listed.setIfInBounds i true) a2 w) : wpAny P md ops Q (fuel + 1) listed a w := wpAny_take hi hs hf hr hQ hy (he ▸ h)

def AtS (bn P : Nat) (w W : World) : Prop := W.cell? ⟨bn, 0, none⟩ = some (.func (.func 57) #[] #[]) ∧ (∃ l', LnAt W P l') ∧ UpB P w W

set_option maxHeartbeats 8000000 in
set_option maxRecDepth 100000 in
theorem part_at (lines P bn bl : Nat) (l : Ln) (g : ByteArray) (w : World) (hl : LnAt w P l) (hg : g.size ≤ 1000000) (hn : w.cell? ⟨bn, 0, none⟩ = some (.func (.func 57) #[] #[])) (hb : w.cell? ⟨bl, 0, none⟩ = some (.int .i64 (lines : Int))) :
    Calls Tryz.prog 60 #[.pointer (some ⟨P, 0, none⟩), .string g, .pointer (some ⟨bn, 0, none⟩), .pointer (some ⟨bl, 0, none⟩)] w (TkQ lines 4 P l g w) := by
  have HR : Hid (Calls Tryz.prog 57 #[.pointer (some ⟨P, 0, none⟩), .string g] w.drew (TkQ lines 2 P l g w.drew)) := part_n lines P l g w.drew hl hg
  have HC : Hid (∀ w1, UpB P w.drew w1 → w1.cell? ⟨bl, 0, none⟩ = some (.int .i64 (lines : Int))) := fun w1 hu => cell_up (w := w.drew) hu (ne_of_cell hl hb (fun s e => by cases e)) hb
  have HG : Hid (g.size ≤ 1000000) := hg
  have HL : Hid (LnAt w P l) := hl
  have HU0 : Hid (w.drew.cell? ⟨bn, 0, none⟩ = some (.func (.func 57) #[] #[]) ∧ AtS bn P w w.drew) := ⟨hn, hn, ⟨l, hl⟩, ⟨rfl, rfl, rfl, Nat.le_refl _, fun _ _ _ => rfl⟩⟩
  clear hl hg hb
  cases hv : numF g.data.toList with
  | none =>
    have h2 : takP lines 2 l g.data.toList = none := by unfold takP; simp [hv]
    have h5 : Hid (takP lines 4 l g.data.toList = none) := by show _ = _; unfold takP; simp [hv]
    have HR2 : Hid (∀ W, AtS bn P w W → Calls Tryz.prog 57 #[.pointer (some ⟨P, 0, none⟩), .string g] W fun e w' => e = .returned (.bool false) ∧ (w'.cell? ⟨bn, 0, none⟩ = some (.func (.func 57) #[] #[]) ∧ AtS bn P w w')) := by
      rintro W ⟨q1, ⟨l', q2⟩, q3⟩
      refine (part_n lines P l' g W q2 HG.out).mono ?_
      rintro e w1 ⟨rfl, ⟨l2, r1, _⟩, r3⟩
      have h3 : takP lines 2 l' g.data.toList = none := by unfold takP; simp [hv]
      have r4 := cell_up r3 (ne_of_cell q2 q1 (fun s e => by cases e)) q1
      exact ⟨by rw [h3]; rfl, r4, r4, ⟨l2, r1⟩, q3.trans r3⟩
    clear hv h2 HR
    go_enter Tryz.func60, Tryz.ntmps60
    go_wp2
    refine wp_region_any (by kernel_rfl) ?_
    refine wpAny_take (i := 1) (v := .pointer (some ⟨P, 0, none⟩)) (by rfl) (by kernel_rfl) (by kernel_rfl) (by kernel_rfl) (by intro c a w h; exact h) (.inl ⟨by kernel_rfl, fun _ => by kernel_rfl⟩) ?_
    simp only [Act.put, Array.setIfInBounds, Array.set]
    refine wpAny_take (i := 2) (v := .string g) (by rfl) (by kernel_rfl) (by kernel_rfl) (by kernel_rfl) (by intro c a w h; exact h) (.inl ⟨by kernel_rfl, fun _ => by kernel_rfl⟩) ?_
    simp only [Act.put, Array.setIfInBounds, Array.set]
    refine wpAny_ready (rs := [0]) (by kernel_rfl) (by simp) (AllReady.cons (by rfl) (fun K hK => ?_) AllReady.nil)
    rw [if_pos (by rfl)]
    go_simp
    refine hK _ _ ?_
    refine wpAny_ready (rs := [3]) (by kernel_rfl) (by simp) (AllReady.cons (by rfl) (fun K2 hK2 => ?_) AllReady.nil)
    refine step_call (by rfl) ?_
    go_simp
    go_at_call 57
    refine (HR2.out _ HU0.out.2).mono ?_
    rintro e w1 ⟨rfl, q1, q2⟩
    refine hK2 _ _ ?_
    refine wpAny_take (i := 4) (v := .bool false) (by rfl) (by kernel_rfl) (by kernel_rfl) (by kernel_rfl) (by intro c a w h; exact h) (.inl ⟨by kernel_rfl, fun _ => by kernel_rfl⟩) ?_
    simp only [Act.put, Array.setIfInBounds, Array.set]
    refine wpAny_take (i := 5) (v := undef) (by rfl) (by kernel_rfl) (by kernel_rfl) (by kernel_rfl) (by intro c a w h; exact h) (.inr ⟨by kernel_rfl, rfl⟩) ?_
    simp only [Act.put, Array.setIfInBounds, Array.set]
    refine wpAny_take (i := 6) (v := undef) (by rfl) (by kernel_rfl) (by kernel_rfl) (by kernel_rfl) (by intro c a w h; exact h) (.inr ⟨by kernel_rfl, rfl⟩) ?_
    simp only [Act.put, Array.setIfInBounds, Array.set]
    refine wpAny_take (i := 7) (v := undef) (by rfl) (by kernel_rfl) (by kernel_rfl) (by kernel_rfl) (by intro c a w h; exact h) (.inr ⟨by kernel_rfl, rfl⟩) ?_
    simp only [Act.put, Array.setIfInBounds, Array.set]
    refine wpAny_take (i := 8) (v := undef) (by rfl) (by kernel_rfl) (by kernel_rfl) (by kernel_rfl) (by intro c a w h; exact h) (.inr ⟨by kernel_rfl, rfl⟩) ?_
    simp only [Act.put, Array.setIfInBounds, Array.set]
    refine wpAny_take (i := 9) (v := undef) (by rfl) (by kernel_rfl) (by kernel_rfl) (by kernel_rfl) (by intro c a w h; exact h) (.inr ⟨by kernel_rfl, rfl⟩) ?_
    simp only [Act.put, Array.setIfInBounds, Array.set]
    refine wpAny_take (i := 10) (v := undef) (by rfl) (by kernel_rfl) (by kernel_rfl) (by kernel_rfl) (by intro c a w h; exact h) (.inr ⟨by kernel_rfl, rfl⟩) ?_
    simp only [Act.put, Array.setIfInBounds, Array.set]
    refine wpAny_takeF (i := 11) (v := .bool false) (a2 := ⟨#[.pointer (some ⟨P, 0, none⟩), .string g, .pointer (some ⟨bn, 0, none⟩), .pointer (some ⟨bl, 0, none⟩), undef, undef, .bool false, .func (.func 57) #[] #[], .pointer (some ⟨P, 0, none⟩), .string g, .bool false, .bool false, undef, undef, undef, undef, undef, undef, .bool false], []⟩) (by rfl) (by kernel_rfl) (by kernel_rfl) (by kernel_rfl) (by intro c a w h; exact h) (.inl ⟨by kernel_rfl, fun _ => by kernel_rfl⟩) (by kernel_rfl) ?_
    refine wpAny_takeF (i := 12) (v := .bool false) (a2 := ⟨#[.pointer (some ⟨P, 0, none⟩), .string g, .pointer (some ⟨bn, 0, none⟩), .pointer (some ⟨bl, 0, none⟩), undef, undef, .bool false, .func (.func 57) #[] #[], .pointer (some ⟨P, 0, none⟩), .string g, .bool false, .bool false, undef, undef, undef, undef, undef, undef, .bool false], []⟩) (by rfl) (by kernel_rfl) (by kernel_rfl) (by kernel_rfl) (by intro c a w h; exact h) (.inl ⟨by kernel_rfl, fun _ => by kernel_rfl⟩) (by kernel_rfl) ?_
    refine wpAny_done (by kernel_rfl) ?_ _
    go_wp2
    go_ret
    obtain ⟨_, ⟨l', r1⟩, r3⟩ := q2
    exact ⟨by rw [h5.out]; rfl, ⟨l', r1, fun l2 e => by rw [h5.out] at e; cases e⟩, r3⟩
  | some v =>
    have h2 : takP lines 2 l g.data.toList = some { l with n := v } := by unfold takP; simp [hv]
    have h5 : Hid (takP lines 4 l g.data.toList = if v ≤ lines then some { l with n := v } else none) := by show _ = _; unfold takP; simp [hv]
    have HR2 : Hid (Calls Tryz.prog 57 #[.pointer (some ⟨P, 0, none⟩), .string g] w.drew fun e w' => e = .returned (.bool true) ∧ LnAt w' P { l with n := v } ∧ UpB P w.drew w') := HR.out.mono fun e w' hq => ⟨by rw [hq.1, h2]; rfl, by have h3 := hq.2.1.choose_spec; rw [← h3.2 _ h2]; exact h3.1, hq.2.2⟩
    clear hv h2 HR
    by_cases h9 : v ≤ lines
    · have h9i : (v : Int) ≤ (lines : Int) := by omega
      go_enter Tryz.func60, Tryz.ntmps60
      go_wp2
      go_region_with ((go_at_call 57; refine HR2.out.mono ?_; rintro e w1 ⟨rfl, hq⟩; have HQ : Hid _ := hq; obtain ⟨q1, q3⟩ := hq; have c5 : w1.cell? ⟨P, 5, none⟩ = some (.int .i64 (v : Int)) := (by rw [Lib.cell_of_heap q1]; rfl); have cl := HC.out w1 q3; clear q1 q3))
      all_goals
        go_wp2
        go_ret
        obtain ⟨q1, q3⟩ := HQ.out
        rw [if_pos h9] at h5
        exact ⟨by rw [h5.out]; rfl, ⟨_, q1, fun l2 e => by rw [h5.out] at e; exact Option.some.inj e⟩, ⟨q3.os, q3.tape, q3.output, q3.size, q3.block⟩⟩
    · have h9i : ¬ (v : Int) ≤ (lines : Int) := by omega
      go_enter Tryz.func60, Tryz.ntmps60
      go_wp2
      go_region_with ((go_at_call 57; refine HR2.out.mono ?_; rintro e w1 ⟨rfl, hq⟩; have HQ : Hid _ := hq; obtain ⟨q1, q3⟩ := hq; have c5 : w1.cell? ⟨P, 5, none⟩ = some (.int .i64 (v : Int)) := (by rw [Lib.cell_of_heap q1]; rfl); have cl := HC.out w1 q3; clear q1 q3))
      all_goals
        go_wp2
        go_ret
        obtain ⟨q1, q3⟩ := HQ.out
        rw [if_neg h9] at h5
        exact ⟨by rw [h5.out]; first | rfl | (show Ending.returned (.bool (decide ((v : Int) ≤ (lines : Int)))) = _; rw [decide_eq_false (by omega)]; rfl), ⟨_, q1, fun l2 e => by rw [h5.out] at e; cases e⟩, ⟨q3.os, q3.tape, q3.output, q3.size, q3.block⟩⟩
end Go.Proofs.YtapiedeekbfpnaaGreatDoor
