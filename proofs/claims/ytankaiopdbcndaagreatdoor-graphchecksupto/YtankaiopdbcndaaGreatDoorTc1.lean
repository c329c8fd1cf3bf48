/- Plain functions on lists of bytes: how a number is packed and read, with their laws: no program is named here. -/
import Derived.WalkKit
import Derived.Lib.Strings
import Derived.Lib.Builder
import Derived.Lib.UnsafeStr
import Derived.Laws.BitsLemmas
import Derived.ProofKit
import Derived.Below
import Derived.WalkSmall
import Derived.Lib.SmallJoins
import Derived.Lib.Slices
import Derived.Lib.Walk
import Derived.Lib.OthersKept
import Derived.Lib.AppendStr
import Derived.Laws.Externs
import Derived.WalkSpells
import Derived.WalkLawsBesides
import Derived.Deep.RegionHeld3
import Derived.Deep.AppendLies
import Derived.Deep.QuietTactic
import Derived.BigQuiet
import Derived.BigRegion
import Derived.Shelf.Abstract
import Derived.Maps.OwnSet
import Derived.Maps.Views
import Derived.Maps.RangeWalk
import Derived.Lib.Hide
import Derived.Test.YtankaiopdbcndaaGreatDoorRows
import Derived.Test.YtankaiopdbcndaaGreatDoorChecked
import Derived.Shelf.Strings.Split
namespace Go.Proofs.YtankaiopdbcndaaGreatDoor
open Go.RowKit

def pkF : Nat → Nat → List UInt8
  | 0, n => [UInt8.ofNat n]
  | f + 1, n => if n < 128 then [UInt8.ofNat n] else UInt8.ofNat (n % 128 + 128) :: pkF f (n / 128)
def pk (n : Nat) : List UInt8 := pkF n n

theorem pkF_eq : ∀ f g m : Nat, m ≤ f → m ≤ g → pkF f m = pkF g m := by
  intro f
  induction f with
  | zero =>
    intro g m h1 _
    obtain rfl : m = 0 := by omega
    cases g <;> simp [pkF]
  | succ f ih =>
    intro g m h1 h2
    cases g with
    | zero =>
      obtain rfl : m = 0 := by omega
      simp [pkF]
    | succ g =>
      by_cases h : m < 128
      · simp [pkF, h]
      · simp only [pkF, if_neg h]
        rw [ih g (m / 128) (by omega) (by omega)]
theorem pk_small (m : Nat) (h : m < 128) : pk m = [UInt8.ofNat m] := by
  unfold pk
  cases m with
  | zero => rfl
  | succ k => simp only [pkF, if_pos h]
theorem pk_more (m : Nat) (h : 128 ≤ m) : pk m = UInt8.ofNat (m % 128 + 128) :: pk (m / 128) := by
  unfold pk
  obtain ⟨k, rfl⟩ : ∃ k, m = k + 1 := ⟨m - 1, by omega⟩
  rw [show pkF (k + 1) (k + 1) = UInt8.ofNat ((k + 1) % 128 + 128) :: pkF k ((k + 1) / 128) from by simp only [pkF, if_neg (show ¬ k + 1 < 128 by omega)]]
  rw [pkF_eq k ((k + 1) / 128) _ (by omega) (by omega)]
theorem pk_pos (m : Nat) : 0 < (pk m).length := by
  by_cases h : m < 128
  · rw [pk_small m h]; simp
  · rw [pk_more m (by omega)]; simp

theorem pk_len : ∀ k n : Nat, n < 128 ^ (k + 1) → (pk n).length ≤ k + 1 := by
  intro k
  induction k with
  | zero => intro n h; rw [pk_small n (by simpa using h)]; simp
  | succ k ih =>
    intro n h
    by_cases hs : n < 128
    · rw [pk_small n hs]; simp
    · rw [pk_more n (by omega)]
      have := ih (n / 128) (by rw [Nat.div_lt_iff_lt_mul (by decide)]; rw [Nat.pow_succ] at h; exact h)
      simp; omega
theorem pk_len8 (n : Nat) (h : n ≤ 9007199254740991) : (pk n).length ≤ 8 := pk_len 7 n (by omega)

/-- The number that bytes with seven bits each say, the lowest first. -/
def val : List UInt8 → Nat
  | [] => 0
  | c :: r => c.toNat % 128 + 128 * val r
theorem val_snoc (l : List UInt8) (c : UInt8) : val (l ++ [c]) = val l + 128 ^ l.length * (c.toNat % 128) := by
  induction l with
  | nil => simp [val]
  | cons d r ih => simp only [List.cons_append, val, ih, List.length_cons, Nat.pow_succ, Nat.mul_add]; rw [Nat.mul_comm (128 ^ r.length) 128, Nat.mul_assoc]; omega
theorem val_lt (l : List UInt8) : val l < 128 ^ l.length := by
  induction l with
  | nil => simp [val]
  | cons d r ih =>
    simp only [val, List.length_cons, Nat.pow_succ]
    have : d.toNat % 128 < 128 := Nat.mod_lt _ (by decide)
    omega
theorem take_snoc (s : ByteArray) (k : Nat) (h : k < s.size) : s.data.toList.take (k + 1) = s.data.toList.take k ++ [s[k]] := by
  rw [List.take_succ_eq_append_getElem (by simpa using h)]; rfl
theorem wraps_i64 (n : Int) (h0 : 0 ≤ n) (h1 : n < 2 ^ 63) : IntKind.i64.wrap n = n := by rw [IntKind.wrap_i64]; omega
theorem or_step (m N c : Nat) (hm : m < 8) (hN : N < 128 ^ m) : bits .or .i64 (N : Int) (wrap64 ((c : Int) % 128 * 2 ^ (7 * m))) = ((N + 128 ^ m * (c % 128) : Nat) : Int) := by
  have hp : 128 ^ m = 2 ^ (7 * m) := by rw [Nat.pow_mul]
  have h7 : 2 ^ (7 * m) ≤ 2 ^ 49 := Nat.pow_le_pow_right (by decide) (by omega)
  have hc : c % 128 < 128 := Nat.mod_lt _ (by decide)
  rw [hp] at hN ⊢
  have hy : c % 128 * 2 ^ (7 * m) ≤ 127 * 2 ^ 49 := Nat.mul_le_mul (by omega) h7
  have e1 : (c : Int) % 128 * 2 ^ (7 * m) = ((c % 128 * 2 ^ (7 * m) : Nat) : Int) := by push_cast; rfl
  have e2 : wrap64 ((c : Int) % 128 * 2 ^ (7 * m)) = ((2 ^ (7 * m) * (c % 128) : Nat) : Int) := by
    rw [e1, Nat.mul_comm (2 ^ (7 * m))]
    generalize c % 128 * 2 ^ (7 * m) = y at hy ⊢
    unfold wrap64
    omega
  rw [e2]
  have hy2 : 2 ^ (7 * m) * (c % 128) < 2 ^ 63 := by rw [Nat.mul_comm]; omega
  rw [(bits_nat .i64 63 (by decide) wraps_i64 N _ (by omega) hy2).2, Nat.or_comm, ← Nat.two_pow_add_eq_or_of_lt hN, Nat.add_comm]

theorem pk_form : ∀ f n : Nat, n ≤ f → ∃ d c, pk n = d ++ [c] ∧ (∀ x ∈ d, 128 ≤ x.toNat) ∧ c.toNat < 128 ∧ (d = [] ∨ c.toNat ≠ 0) ∧ (128 ≤ n → d ≠ []) ∧ (0 < n → c.toNat ≠ 0) := by
  intro f
  induction f with
  | zero =>
    intro n h
    obtain rfl : n = 0 := by omega
    exact ⟨[], 0, rfl, by simp, by decide, Or.inl rfl, by omega, by omega⟩
  | succ f ih =>
    intro n h
    by_cases hs : n < 128
    · refine ⟨[], UInt8.ofNat n, by rw [pk_small n hs]; rfl, by simp, ?_, Or.inl rfl, by omega, ?_⟩
      · simp [UInt8.toNat_ofNat']; omega
      · simp [UInt8.toNat_ofNat']; omega
    · obtain ⟨d, c, e, hd, hc, _, _, h0⟩ := ih (n / 128) (by omega)
      have hc0 := h0 (by omega)
      refine ⟨UInt8.ofNat (n % 128 + 128) :: d, c, by rw [pk_more n (by omega), e]; rfl, ?_, hc, Or.inr hc0, by simp, fun _ => hc0⟩
      intro x hx
      rcases List.mem_cons.1 hx with rfl | hx
      · simp [UInt8.toNat_ofNat']; omega
      · exact hd x hx
theorem val_pk : ∀ f n : Nat, n ≤ f → val (pk n) = n := by
  intro f
  induction f with
  | zero =>
    intro n h
    obtain rfl : n = 0 := by omega
    rfl
  | succ f ih =>
    intro n h
    by_cases hs : n < 128
    · rw [pk_small n hs]; simp [val, UInt8.toNat_ofNat']; omega
    · rw [pk_more n (by omega)]
      simp only [val, ih (n / 128) (by omega), UInt8.toNat_ofNat']
      omega
theorem bytes_eq {s : ByteArray} {l : List UInt8} (h : s.data.toList = l) : s = ⟨l.toArray⟩ := by
  subst h
  cases s
  simp
theorem size_of {s : ByteArray} {l : List UInt8} (h : s.data.toList = l) : s.size = l.length := by rw [← h]; exact Array.length_toList.symm
theorem extract_end (s : ByteArray) (a r : List UInt8) (h : s.data.toList = a ++ r) : s.extract a.length s.size = ⟨r.toArray⟩ := by
  apply bytes_eq
  rw [Lib.extract_data]
  have : s.size = (a ++ r).length := size_of h
  rw [h, this]
  simp
theorem extract_mid (s : ByteArray) (a r : List UInt8) (h : s.data.toList = a ++ r) : s.extract 0 a.length = ⟨a.toArray⟩ := by
  apply bytes_eq
  rw [Lib.extract_data, h]
  simp

theorem byteCells_snoc (l : List UInt8) (n : Nat) (h : n < 256) : Lib.byteCells (l ++ [UInt8.ofNat n]) = Lib.byteCells l ++ [Value.int .u8 (n : Int)] := by
  have : (UInt8.ofNat n).toNat = n := by simp [UInt8.toNat_ofNat']; omega
  simp [Lib.byteCells, this]
end Go.Proofs.YtankaiopdbcndaaGreatDoor

/- What the texts lean on where a seat has no packing. -/
namespace Go.Proofs.YtankaiopdbcndaaGreatDoor
open Go.RowKit Go.Shelf

theorem infS : (Tryz.prog.info? 9).map (fun i => (i.zero, i.size, i.bytes)) = some (some (.string ⟨#[]⟩), 1, 16) := by kernel_rfl
/-- A value that is a slice of these texts. -/
def IsTexts (w : World) (v : Value) (ss : List ByteArray) : Prop :=
  ss.length ≤ 4611686018427387904 ∧ ∃ a cap, v = .slice a ss.length cap ∧ (ss = [] ∨ ∃ g o, a = some ⟨g, o, none⟩ ∧ ∀ j (hj : j < ss.length), w.cell? ⟨g, o + j, none⟩ = some (.string ss[j]))
def strs (l : List (List UInt8)) : List Value := l.map fun t => .string ⟨t.toArray⟩
theorem addr_add (g o j : Nat) : (⟨g, o, none⟩ : Addr).add j = ⟨g, o + j, none⟩ := by
  unfold Addr.add
  split <;> simp_all
end Go.Proofs.YtankaiopdbcndaaGreatDoor

/- What IsName answers, the program's and the document's own. -/
namespace Go.Proofs.YtankaiopdbcndaaGreatDoor
open Go.RowKit Go.Shelf

def nmB (c : Int) : Bool := decide (97 ≤ c ∧ c ≤ 122) || decide (48 ≤ c ∧ c ≤ 57) || (c == 95) || (c == 45) || (c == 46)

set_option maxHeartbeats 2000000 in
theorem isNameByte_any (c : Int) (w : World) (h0 : 0 ≤ c) (h1 : c < 256) :
    Calls Tryz.prog 87 #[.int .u8 c] w fun e w' => e = .returned (.bool (nmB c)) ∧ w' = w := by
  by_cases a1 : 97 ≤ c
  · by_cases a2 : c ≤ 122
    · go_enter Tryz.func87, Tryz.ntmps87
      go_wp2
      go_ret
      exact ⟨by simp [nmB, a1, a2], rfl⟩
    · have e1 : (c == 95) = false := by simp; omega
      have e2 : (c == 45) = false := by simp; omega
      have e3 : (c == 46) = false := by simp; omega
      have d1 : decide (c ≤ 57) = false := by simp; omega
      have d2 : decide (c ≤ 122) = false := by simp; omega
      have HF : Hid (nmB c = false) := by show _ = _; simp [nmB, e1, e2, e3]; omega
      clear a2
      go_enter Tryz.func87, Tryz.ntmps87
      go_wp2
      go_ret
      exact ⟨by rw [HF.out]; rfl, rfl⟩
  · by_cases a2 : 48 ≤ c ∧ c ≤ 57
    · obtain ⟨a2, a3⟩ := a2
      go_enter Tryz.func87, Tryz.ntmps87
      go_wp2
      go_ret
      exact ⟨by simp [nmB, a2, a3], rfl⟩
    · by_cases b1 : c = 95
      · subst b1
        go_enter Tryz.func87, Tryz.ntmps87
        go_wp2
        go_ret
        exact ⟨by rw [show nmB 95 = true from by decide]; rfl, rfl⟩
      · by_cases b2 : c = 45
        · subst b2
          go_enter Tryz.func87, Tryz.ntmps87
          go_wp2
          go_ret
          exact ⟨by rw [show nmB 45 = true from by decide]; rfl, rfl⟩
        · by_cases b3 : c = 46
          · subst b3
            go_enter Tryz.func87, Tryz.ntmps87
            go_wp2
            go_ret
            exact ⟨by rw [show nmB 46 = true from by decide]; rfl, rfl⟩
          · have e1 : (c == 95) = false := by simpa using b1
            have e2 : (c == 45) = false := by simpa using b2
            have e3 : (c == 46) = false := by simpa using b3
            have hf : nmB c = false := by simp [nmB, e1, e2, e3]; omega
            have HF : Hid _ := hf
            clear hf b1 b2 b3
            rcases Int.lt_or_le c 48 with a3 | a3
            · clear a2
              go_enter Tryz.func87, Tryz.ntmps87
              go_wp2
              go_ret
              exact ⟨by rw [HF.out]; rfl, rfl⟩
            · have a4 : decide (c ≤ 57) = false := by simp; omega
              clear a2
              go_enter Tryz.func87, Tryz.ntmps87
              go_wp2
              go_ret
              exact ⟨by rw [HF.out]; rfl, rfl⟩

def nameOk (s : ByteArray) : Bool := !(s.toList == []) && decide (s.size ≤ 20) && !(s.toList == [46]) && !(s.toList == [46, 46]) && (s.toList.all fun c => nmB c.toNat)

theorem toList_get (s : ByteArray) (k : Nat) (h : k < s.size) : s.toList[k]? = some s[k] := by
  rw [Lib.toList_data]
  have : k < s.data.toList.length := by rw [← size_of (s := s) rfl]; exact h
  rw [List.getElem?_eq_getElem this]
  rfl
theorem all_false (s : ByteArray) (k : Nat) (h : k < s.size) (f : UInt8 → Bool) (hf : f s[k] = false) : s.toList.all f = false := by
  rw [List.all_eq_false]
  exact ⟨s[k], List.mem_of_getElem? (toList_get s k h), by simp [hf]⟩
theorem all_true (s : ByteArray) (f : UInt8 → Bool) (hf : ∀ j (hj : j < s.size), f s[j] = true) : s.toList.all f = true := by
  rw [List.all_eq_true]
  intro c hc
  obtain ⟨j, hj, rfl⟩ := List.getElem_of_mem hc
  have hj' : j < s.size := by rw [Lib.toList_data] at hj; rw [size_of (s := s) rfl]; exact hj
  have := toList_get s j hj'
  rw [List.getElem?_eq_getElem hj] at this
  rw [Option.some.inj this]
  exact hf j hj'

set_option maxHeartbeats 1000000 in
set_option maxRecDepth 100000 in
theorem IsName_any (s : ByteArray) (w : World) (hs : s.size ≤ maxLen) :
    Calls Tryz.prog 74 #[.string s] w fun e w' => e = .returned (.bool (nameOk s)) ∧ w' = w := by
  have hsz : (s.size : Int) ≤ 9223372036854775807 := by unfold maxLen at hs; omega
  clear hs
  by_cases h1 : s.toList.isEmpty = true
  · have HF : Hid (nameOk s = false) := by show _ = _; rw [List.isEmpty_iff] at h1; simp [nameOk, h1]
    go_enter Tryz.func74, Tryz.ntmps74
    go_wp2
    go_ret
    exact ⟨by rw [HF.out]; rfl, rfl⟩
  have h1' : s.toList.isEmpty = false := by simpa using h1
  have h1n : (s.toList == []) = false := by cases h : s.toList <;> simp_all
  have H1 : Hid _ := h1n
  clear h1 h1n
  by_cases h2 : 20 < s.size
  · have h2' : (20 : Int) < s.size := by omega
    have HF : Hid (nameOk s = false) := by show _ = _; simp [nameOk, Nat.not_le.2 h2]
    clear h2
    go_enter Tryz.func74, Tryz.ntmps74
    go_wp2
    go_ret
    exact ⟨by rw [HF.out]; rfl, rfl⟩
  have h2' : (s.size : Int) ≤ 20 := by omega
  have H2 : Hid (s.size ≤ 20) := Nat.le_of_not_lt h2
  clear h2
  by_cases h3 : (s.toList == [46]) = true
  · have HF : Hid (nameOk s = false) := by show _ = _; simp [nameOk, h3]
    go_enter Tryz.func74, Tryz.ntmps74
    go_wp2
    go_ret
    exact ⟨by rw [HF.out]; rfl, rfl⟩
  have h3' : (s.toList == [46]) = false := by simpa using h3
  clear h3
  by_cases h4 : (s.toList == [46, 46]) = true
  · have HF : Hid (nameOk s = false) := by show _ = _; simp [nameOk, h4]
    go_enter Tryz.func74, Tryz.ntmps74
    go_wp2
    go_ret
    exact ⟨by rw [HF.out]; rfl, rfl⟩
  have h4' : (s.toList == [46, 46]) = false := by simpa using h4
  clear h4
  have HN : Hid (nameOk s = s.toList.all fun c => nmB c.toNat) := by show _ = _; simp only [nameOk, H1.out, h3', h4', H2.out]; simp
  go_enter Tryz.func74, Tryz.ntmps74
  go_wp2
  go_loop [21] (fun i => ∃ k : Nat, k ≤ s.size ∧ i = .int .i64 k ∧ ∀ j (hj : j < s.size), j < k → nmB s[j].toNat = true) (fun i => s.size - (intOf i).toNat)
  case atStart => exact ⟨0, Nat.zero_le _, rfl, by omega⟩
  case round =>
    obtain ⟨k, hk, rfl, hlo⟩ := hrel
    have HL : Hid _ := hlo
    clear hlo
    by_cases hlt : k < s.size
    · by_cases hb : nmB s[k].toNat = true
      · go_wp2_with (go_at_call 87; refine (isNameByte_any _ _ (by omega) (by have := s[k].toNat_lt; omega)).mono ?_; rintro e w' ⟨rfl, rfl⟩; rw [hb])
        refine ⟨⟨k + 1, by omega, by go_num, fun j hj hjk => ?_⟩, by simp [intOf]; omega⟩
        by_cases h : j < k
        · exact HL.out j hj h
        · obtain rfl : j = k := by omega
          exact hb
      · have hb' : nmB s[k].toNat = false := by simpa using hb
        clear hb
        have HF : Hid (nameOk s = false) := by show _ = _; rw [HN.out]; exact all_false s k hlt _ hb'
        go_wp2_with (go_at_call 87; refine (isNameByte_any _ _ (by omega) (by have := s[k].toNat_lt; omega)).mono ?_; rintro e w' ⟨rfl, rfl⟩; rw [hb'])
        go_ret
        exact ⟨by rw [HF.out]; rfl, rfl⟩
    · have HF : Hid (nameOk s = true) := by show _ = _; rw [HN.out]; exact all_true s _ (fun j hj => HL.out j hj (by omega))
      go_wp2
      go_ret
      exact ⟨by rw [HF.out]; rfl, rfl⟩
end Go.Proofs.YtankaiopdbcndaaGreatDoor

/- Parts between slashes: as the library splits a text, and as one reads byte by byte. -/
namespace Go.Proofs.YtankaiopdbcndaaGreatDoor
open Go.RowKit Go.Shelf

/-- The parts of a text between slashes, behind cur. -/
def parts : List UInt8 → List UInt8 → List (List UInt8)
  | cur, [] => [cur]
  | cur, c :: l => if c = 47 then cur :: parts [] l else parts (cur ++ [c]) l

theorem parts_ne (l : List UInt8) : ∀ cur, parts cur l ≠ [] := by
  induction l with
  | nil => intro cur h; cases h
  | cons c l ih =>
    intro cur
    unfold parts
    by_cases h : c = 47
    · rw [if_pos h]; intro h'; cases h'
    · rw [if_neg h]; exact ih _
theorem parts_slash (l : List UInt8) : ∀ cur, parts cur (l ++ [47]) = parts cur l ++ [[]] := by
  induction l with
  | nil => intro cur; rfl
  | cons c l ih =>
    intro cur
    rw [List.cons_append]
    unfold parts
    by_cases h : c = 47
    · rw [if_pos h, if_pos h, ih]; rfl
    · rw [if_neg h, if_neg h, ih]
theorem parts_snoc (l : List UInt8) (c : UInt8) (hc : c ≠ 47) : ∀ cur, ∃ ps p, parts cur l = ps ++ [p] ∧ parts cur (l ++ [c]) = ps ++ [p ++ [c]] := by
  induction l with
  | nil => intro cur; exact ⟨[], cur, rfl, by show (if c = 47 then _ else _) = _; rw [if_neg hc]; rfl⟩
  | cons b l ih =>
    intro cur
    rw [List.cons_append]
    unfold parts
    by_cases h : b = 47
    · rw [if_pos h, if_pos h]
      obtain ⟨ps, p, e1, e2⟩ := ih []
      exact ⟨cur :: ps, p, by rw [e1]; rfl, by rw [e2]; rfl⟩
    · rw [if_neg h, if_neg h]
      exact ih _
theorem parts_len (l : List UInt8) : ∀ cur, (parts cur l).length ≤ l.length + 1 := by
  induction l with
  | nil => intro cur; exact Nat.le_refl _
  | cons c l ih =>
    intro cur
    unfold parts
    by_cases h : c = 47
    · rw [if_pos h]; have := ih []; simp only [List.length_cons]; omega
    · rw [if_neg h]; have := ih (cur ++ [c]); simp only [List.length_cons]; omega
theorem parts_mem (l : List UInt8) : ∀ cur, ∀ p ∈ parts cur l, p.length ≤ cur.length + l.length := by
  induction l with
  | nil => intro cur p hp; obtain rfl := List.mem_singleton.1 hp; simp
  | cons c l ih =>
    intro cur p hp
    unfold parts at hp
    by_cases h : c = 47
    · rw [if_pos h] at hp
      rcases List.mem_cons.1 hp with rfl | hp
      · simp
      · have := ih [] p hp; simp only [List.length_cons, List.length_nil] at *; omega
    · rw [if_neg h] at hp
      have := ih _ p hp
      simp only [List.length_append, List.length_cons, List.length_nil] at *
      omega

theorem parts_miss (s : List UInt8) : ∀ cur, Lib.indexByte s 47 = -1 → parts cur s = [cur ++ s] := by
  induction s with
  | nil => intro cur _; simp [parts]
  | cons b l ih =>
    intro cur h
    unfold Lib.indexByte at h
    by_cases hb : b = 47
    · rw [hb] at h; simp at h
    · have hb' : (b == 47) = false := beq_eq_false_iff_ne.2 hb
      rw [hb'] at h
      unfold parts
      rw [if_neg hb]
      have hl : Lib.indexByte l 47 = -1 := by
        by_cases h1 : Lib.indexByte l 47 = -1
        · exact h1
        · have := Lib.indexByte_ge l 47
          simp [h1] at h
          omega
      rw [ih _ hl]
      simp
theorem parts_hit (s : List UInt8) : ∀ cur (i : Nat), Lib.indexByte s 47 = i → parts cur s = (cur ++ s.take i) :: parts [] (s.drop (i + 1)) := by
  induction s with
  | nil => intro cur i h; simp [Lib.indexByte] at h
  | cons b l ih =>
    intro cur i h
    unfold Lib.indexByte at h
    by_cases hb : b = 47
    · subst hb
      simp at h
      obtain rfl : i = 0 := by omega
      simp [parts]
    · have hb' : (b == 47) = false := beq_eq_false_iff_ne.2 hb
      rw [hb'] at h
      show (if b = 47 then cur :: parts [] l else parts (cur ++ [b]) l) = _
      rw [if_neg hb]
      have hge := Lib.indexByte_ge l 47
      by_cases h1 : Lib.indexByte l 47 = -1
      · simp [h1] at h
      · simp [h1] at h
        obtain ⟨k, rfl⟩ : ∃ k, i = k + 1 := ⟨i - 1, by omega⟩
        rw [ih (cur ++ [b]) k (by omega)]
        simp

theorem split_parts : ∀ (n : Nat) (s : List UInt8), s.length ≤ n → Lib.splitK [47] 0 (Lib.count s [47]) s = parts [] s := by
  intro n
  induction n with
  | zero =>
    intro s hs
    obtain rfl : s = [] := List.length_eq_zero_iff.1 (by omega)
    rfl
  | succ n ih =>
    intro s hs
    by_cases h : Lib.index s [47] = -1
    · rw [Lib.count_miss h, parts_miss s [] (by rw [← Lib.index_one]; exact h)]
      rfl
    · have hge := Lib.index_ge s [47]
      obtain ⟨i, hi⟩ : ∃ i : Nat, Lib.index s [47] = i := ⟨(Lib.index s [47]).toNat, by omega⟩
      have hm : ¬ (Lib.index s [47] == -1) = true := fun e => h (beq_iff_eq.1 e)
      have hr := Lib.index_room s [47] (by omega)
      rw [Lib.count_hit (by simp) hi, Nat.add_comm, Lib.splitK, if_neg hm, hi]
      have e : ((i : Int)).toNat = i := by omega
      rw [e, parts_hit s [] i (by rw [← Lib.index_one]; exact hi)]
      rw [hi] at hr
      have hd : (s.drop (i + 1)).length ≤ n := by rw [List.length_drop]; simp at hr; omega
      rw [show ([47] : List UInt8).length = 1 from rfl, ih _ hd]
      simp

abbrev slash : ByteArray := ⟨#[47]⟩
def piecesB (s : ByteArray) : List ByteArray := (parts [] s.data.toList).map fun p => ⟨p.toArray⟩
theorem splitB_pieces (s : ByteArray) : Lib.splitB slash 0 (Lib.countB s slash) s = piecesB s := by
  have h := Lib.splitB_data slash 0 (Lib.countB s slash) s
  have h2 : Lib.splitK slash.data.toList 0 (Lib.countB s slash) s.data.toList = parts [] s.data.toList := split_parts _ _ (Nat.le_refl _)
  rw [h2] at h
  unfold piecesB
  rw [← h, List.map_map]
  conv => lhs; rw [← List.map_id (Lib.splitB slash 0 (Lib.countB s slash) s)]
  exact List.map_congr_left fun x _ => rfl
def pathOk (s : ByteArray) : Bool := decide (s.size ≤ 100) && (piecesB s).all nameOk
end Go.Proofs.YtankaiopdbcndaaGreatDoor

/- What the document's own IsName answers. -/
namespace Go.Proofs.YtankaiopdbcndaaGreatDoor
open Go.RowKit Go.Shelf

theorem nm_cls (c : Int) (h : nmB c = true) : (97 ≤ c ∧ c ≤ 122) ∨ (c < 97 ∧ 48 ≤ c ∧ c ≤ 57) ∨ c = 95 ∨ c = 45 ∨ c = 46 := by
  simp [nmB] at h
  omega
theorem nm_cls_no (c : Int) (h : nmB c = false) : ((c == 95) = false ∧ (c == 45) = false ∧ (c == 46) = false) ∧ (c < 48 ∨ (48 ≤ c ∧ decide (c ≤ 57) = false ∧ c < 97) ∨ (97 ≤ c ∧ decide (c ≤ 122) = false ∧ decide (c ≤ 57) = false)) := by
  simp [nmB] at h ⊢
  omega

theorem name_cls (s : ByteArray) : (s.size = 0 ∧ (s.toList.all (fun c => nmB c.toNat) = true → nameOk s = false)) ∨
    (1 ≤ (s.size : Int) ∧ decide ((s.size : Int) ≤ 20) = false ∧ (s.toList.all (fun c => nmB c.toNat) = true → nameOk s = false)) ∨
    (1 ≤ (s.size : Int) ∧ (s.size : Int) ≤ 20 ∧ (s.toList == [46]) = true ∧ (s.toList.all (fun c => nmB c.toNat) = true → nameOk s = false)) ∨
    (1 ≤ (s.size : Int) ∧ (s.size : Int) ≤ 20 ∧ (s.toList == [46]) = false ∧ (s.toList == [46, 46]) = true ∧ (s.toList.all (fun c => nmB c.toNat) = true → nameOk s = false)) ∨
    (1 ≤ (s.size : Int) ∧ (s.size : Int) ≤ 20 ∧ (s.toList == [46]) = false ∧ (s.toList == [46, 46]) = false ∧ (s.toList.all (fun c => nmB c.toNat) = true → nameOk s = true)) := by
  have hl : s.toList.length = s.size := by rw [Lib.toList_data]; exact (size_of (s := s) rfl).symm
  by_cases h0 : s.size = 0
  · refine Or.inl ⟨h0, fun _ => ?_⟩
    have : s.toList = [] := List.length_eq_zero_iff.1 (by omega)
    simp [nameOk, this]
  have h1 : (s.toList == []) = false := by
    rw [beq_eq_false_iff_ne]
    intro h
    rw [h] at hl
    simp at hl
    omega
  refine Or.inr ?_
  by_cases h2 : s.size ≤ 20
  · refine Or.inr ?_
    by_cases h3 : (s.toList == [46]) = true
    · exact Or.inl ⟨by omega, by omega, h3, fun _ => by simp [nameOk, h3]⟩
    have h3' : (s.toList == [46]) = false := by simpa using h3
    refine Or.inr ?_
    by_cases h4 : (s.toList == [46, 46]) = true
    · exact Or.inl ⟨by omega, by omega, h3', h4, fun _ => by simp [nameOk, h4]⟩
    have h4' : (s.toList == [46, 46]) = false := by simpa using h4
    exact Or.inr ⟨by omega, by omega, h3', h4', fun h => by simp only [nameOk, h1, h3', h4', h, h2]; simp⟩
  · exact Or.inl ⟨by omega, by simp; omega, fun _ => by simp [nameOk, h2]⟩

set_option maxHeartbeats 4000000 in
set_option maxRecDepth 100000 in
theorem RIsName_any (s : ByteArray) (w : World) (hs : s.size ≤ maxLen) :
    Calls Tryz.prog 31 #[.string s] w fun e w' => e = .returned (.bool (nameOk s)) ∧ w' = w := by
  have hsz : (s.size : Int) ≤ 9223372036854775807 := by unfold maxLen at hs; omega
  clear hs
  have HA : Hid (s.toList.all (fun c => nmB c.toNat) = false → nameOk s = false) := fun h => by simp [nameOk, h]
  rcases name_cls s with ⟨g1, g5⟩ | ⟨g1, g2, g5⟩ | ⟨g1, g2, g3, g5⟩ | ⟨g1, g2, g3, g4, g5⟩ | ⟨g1, g2, g3, g4, g5⟩
  all_goals
    have HB : Hid _ := g5
    clear g5
    go_enter Tryz.func31, Tryz.ntmps31
    go_wp2
    go_loop [3] (fun i => ∃ k : Nat, k ≤ s.size ∧ i = .int .i64 k ∧ ∀ j (hj : j < s.size), j < k → nmB s[j].toNat = true) (fun i => s.size - (intOf i).toNat)
    case atStart => exact ⟨0, Nat.zero_le _, rfl, by omega⟩
    case round =>
      obtain ⟨k, hk, rfl, hlo⟩ := hrel
      have HL : Hid _ := hlo
      clear hlo
      by_cases hlt : k < s.size
      · try (exfalso; omega)
        all_goals
         by_cases hb : nmB s[k].toNat = true
         · have HN : Hid _ := hb
           rcases nm_cls _ hb with ⟨c1, c2⟩ | ⟨c1, c2, c3⟩ | c1 | c1 | c1
           all_goals
             clear hb
             go_wp2
             refine ⟨⟨k + 1, by omega, by go_num, fun j hj hjk => ?_⟩, by simp [intOf]; omega⟩
             by_cases h : j < k
             · exact HL.out j hj h
             · obtain rfl : j = k := by omega
               exact HN.out
         · have hb' : nmB s[k].toNat = false := by simpa using hb
           clear hb
           have HF : Hid (nameOk s = false) := HA.out (all_false s k hlt _ hb')
           obtain ⟨⟨e1, e2, e3⟩, c1 | ⟨c1, c2, c3⟩ | ⟨c1, c2, c3⟩⟩ := nm_cls_no _ hb'
           all_goals
             clear hb'
             go_wp2
             go_ret
             exact ⟨by rw [HF.out]; rfl, rfl⟩
      · have HF : Hid _ := HB.out (all_true s _ (fun j hj => HL.out j hj (by omega)))
        go_wp2
        go_ret
        exact ⟨by rw [HF.out]; rfl, rfl⟩
end Go.Proofs.YtankaiopdbcndaaGreatDoor

/- What the document's own CheckList, PackText and PackTexts answer. -/
namespace Go.Proofs.YtankaiopdbcndaaGreatDoor
open Go.RowKit Go.Shelf

def longIn (ss : List ByteArray) : Prop := ∃ s ∈ ss, 100000 < s.size
def shortAll (ss : List ByteArray) : Prop := ∀ s ∈ ss, s.size ≤ 100000
def okList (m : Nat) (ss : List ByteArray) : Prop := ss.length ≤ m ∧ ∀ s ∈ ss, s.size ≤ 100000

theorem addl (l : List UInt8) (b : ByteArray) (h : l.length + b.size ≤ 9223372036854775807) (W : World) : (Op.stringOp .add ⟨l.toArray⟩ b).run Tryz.prog W = .ok (.string ⟨(l ++ b.data.toList).toArray⟩) W := by
  refine (run_string_add_sum (w := W) _ _ (by rw [show (⟨l.toArray⟩ : ByteArray).size = l.length from size_of rfl]; exact h)).trans ?_
  have hb : b = ⟨b.data.toList.toArray⟩ := bytes_eq rfl
  rw [hb, ByteArray.mk_append_mk]
theorem addll (l m : List UInt8) (h : l.length + m.length ≤ 9223372036854775807) (W : World) : (Op.stringOp .add ⟨l.toArray⟩ ⟨m.toArray⟩).run Tryz.prog W = .ok (.string ⟨(l ++ m).toArray⟩) W := by
  have := addl l ⟨m.toArray⟩ (by rw [show (⟨m.toArray⟩ : ByteArray).size = m.length from size_of rfl]; exact h) W
  simpa using this
end Go.Proofs.YtankaiopdbcndaaGreatDoor

/- What strings.Split, IsPath, and the document's own Parts and IsPath answer. -/
namespace Go.Proofs.YtankaiopdbcndaaGreatDoor
open Go.RowKit Go.Shelf

def laysS_ren : Ren := ⟨fun | 138 => 111 | 143 => 112 | 146 => 99 | 195 => 113 | 197 => 114 | 217 => 118 | 218 => 115 | 219 => 116 | 221 => 108 | 224 => 120 | 225 => 119 | 260 => 117 | 266 => 122 | 267 => 121 | 268 => 110 | 314 => 123 | n => n, fun | 0 => 0 | 3 => 3 | 4 => 4 | 5 => 5 | 9 => 9 | 21 => 21 | 31 => 23 | 46 => 116 | 51 => 132 | 105 => 149 | 119 => 153 | 138 => 155 | 139 => 156 | 146 => 157 | n => n, fun | 1 => 0 | 3 => 1 | 4 => 2 | n => n⟩
theorem laysS : Go.Proofs.Lays.n146 Tryz.prog laysS_ren := {
  mixed := by kernel_rfl
  f138 := Tryz.func111.trans (congrArg some (by kernel_rfl))
  f143 := Tryz.func112.trans (congrArg some (by kernel_rfl))
  f146 := Tryz.func99.trans (congrArg some (by kernel_rfl))
  f195 := Tryz.func113.trans (congrArg some (by kernel_rfl))
  f197 := Tryz.func114.trans (congrArg some (by kernel_rfl))
  f217 := Tryz.func118.trans (congrArg some (by kernel_rfl))
  f218 := Tryz.func115.trans (congrArg some (by kernel_rfl))
  f219 := Tryz.func116.trans (congrArg some (by kernel_rfl))
  f221 := Tryz.func108.trans (congrArg some (by kernel_rfl))
  f224 := Tryz.func120.trans (congrArg some (by kernel_rfl))
  f225 := Tryz.func119.trans (congrArg some (by kernel_rfl))
  f260 := Tryz.func117.trans (congrArg some (by kernel_rfl))
  f266 := Tryz.func122.trans (congrArg some (by kernel_rfl))
  f267 := Tryz.func121.trans (congrArg some (by kernel_rfl))
  f268 := Tryz.func110.trans (congrArg some (by kernel_rfl))
  f314 := Tryz.func123.trans (congrArg some (by kernel_rfl))
  t0 := Tryz.underlying0
  a0 := Tryz.isAgg0
  z0 := Tryz.sizeOf0
  v0 := Tryz.zeroValue0
  t3 := Tryz.underlying3
  a3 := Tryz.isAgg3
  z3 := Tryz.sizeOf3
  v3 := Tryz.zeroValue3
  t4 := Tryz.underlying4
  a4 := Tryz.isAgg4
  z4 := Tryz.sizeOf4
  v4 := Tryz.zeroValue4
  t5 := Tryz.underlying5
  a5 := Tryz.isAgg5
  z5 := Tryz.sizeOf5
  v5 := Tryz.zeroValue5
  t9 := Tryz.underlying9
  a9 := Tryz.isAgg9
  z9 := Tryz.sizeOf9
  v9 := Tryz.zeroValue9
  t21 := Tryz.underlying21
  a21 := Tryz.isAgg21
  z21 := Tryz.sizeOf21
  v21 := Tryz.zeroValue21
  t31 := Tryz.underlying23
  a31 := Tryz.isAgg23
  z31 := Tryz.sizeOf23
  v31 := Tryz.zeroValue23
  t46 := Tryz.underlying116
  a46 := Tryz.isAgg116
  z46 := Tryz.sizeOf116
  v46 := Tryz.zeroValue116
  t51 := Tryz.underlying132
  a51 := Tryz.isAgg132
  z51 := Tryz.sizeOf132
  v51 := Tryz.zeroValue132
  t105 := Tryz.underlying149
  a105 := Tryz.isAgg149
  z105 := Tryz.sizeOf149
  v105 := Tryz.zeroValue149
  t119 := Tryz.underlying153
  a119 := Tryz.isAgg153
  z119 := Tryz.sizeOf153
  t138 := Tryz.underlying155
  a138 := Tryz.isAgg155
  z138 := Tryz.sizeOf155
  v138 := Tryz.zeroValue155
  t139 := Tryz.underlying156
  a139 := Tryz.isAgg156
  z139 := Tryz.sizeOf156
  v139 := Tryz.zeroValue156
  t146 := Tryz.underlying157
  a146 := Tryz.isAgg157
  z146 := Tryz.sizeOf157
  v146 := Tryz.zeroValue157
  g1 := by kernel_rfl
  g3 := by kernel_rfl
  g4 := by kernel_rfl }

/-- The library's own variable holds some number. -/
def MaxIs (w : World) : Prop := ∃ m, w.cell? ⟨0, 0, none⟩ = some (.int .i64 m)
theorem MaxIs.below {B : Nat} {w w' : World} (h : MaxIs w) (hb : Below B w w') (hB : 0 < B) : MaxIs w' := by
  obtain ⟨m, hm⟩ := h
  exact ⟨m, (hb.cell (p := ⟨0, 0, none⟩) hB).trans hm⟩
theorem MaxIs.lt {w : World} (h : MaxIs w) : 0 < w.heap.size := by
  obtain ⟨m, hm⟩ := h
  exact World.block_lt_of_cell? w ⟨0, 0, none⟩ hm
theorem MaxIs.up {w w' : World} (h : MaxIs w) (hb : Below w.heap.size w w') : MaxIs w' := h.below hb h.lt

theorem split_any (s : ByteArray) (w : World) (hs : s.size < 4294967281) (hm : MaxIs w) :
    Calls Tryz.prog 99 #[.string s, .string slash] w fun e w' => e = .returned (.slice (some ⟨w.heap.size, 0, none⟩) (piecesB s).length (piecesB s).length) ∧ w' = w.alloc (.cells ((piecesB s).map Value.string).toArray 9) := by
  obtain ⟨m, hm⟩ := hm
  have h := Any.strings_Split laysS (by kernel_rfl) s slash m w hs hm (by decide)
  have e1 := Lib.splitB_all slash (by decide) 0 (Lib.countB s slash) s rfl
  rw [splitB_pieces] at e1
  rw [splitB_pieces, ← e1] at h
  exact h

theorem pieces_len (s : ByteArray) : (piecesB s).length ≤ s.size + 1 := by
  have := parts_len s.data.toList []
  rw [show s.size = s.data.toList.length from size_of rfl]
  simpa [piecesB] using this
theorem pieces_size (s : ByteArray) : ∀ p ∈ piecesB s, p.size ≤ s.size := by
  intro p hp
  obtain ⟨q, hq, rfl⟩ := List.mem_map.1 hp
  have := parts_mem s.data.toList [] q hq
  rw [show (⟨q.toArray⟩ : ByteArray).size = q.length from size_of rfl, show s.size = s.data.toList.length from size_of rfl]
  simpa using this

theorem all_no (l : List ByteArray) (k : Nat) (hk : k < l.length) (h : nameOk l[k] = false) : l.all nameOk = false := by
  rw [List.all_eq_false]
  exact ⟨l[k], List.getElem_mem hk, by simp [h]⟩
theorem all_yes (l : List ByteArray) (h : ∀ j (hj : j < l.length), nameOk l[j] = true) : l.all nameOk = true := by
  rw [List.all_eq_true]
  intro x hx
  obtain ⟨j, hj, rfl⟩ := List.getElem_of_mem hx
  exact h j hj

set_option maxHeartbeats 2000000 in
set_option maxRecDepth 100000 in
theorem IsPath_any (s : ByteArray) (w : World) (hm : MaxIs w) :
    Calls Tryz.prog 80 #[.string s] w fun e w' => e = .returned (.bool (pathOk s)) ∧ Below w.heap.size w w' := by
  by_cases hsz : 100 < s.size
  · have hz : (100 : Int) < (s.size : Int) := by omega
    have HP : Hid (pathOk s = false) := by show _ = _; unfold pathOk; rw [decide_eq_false (by omega), Bool.false_and]
    go_enter Tryz.func80, Tryz.ntmps80
    go_wp2
    go_ret
    exact ⟨by rw [HP.out]; rfl, Below.refl _ _⟩
  have hz : (s.size : Int) ≤ 100 := by omega
  have hs : s.size ≤ 100 := by omega
  have HM : Hid (MaxIs w) := hm
  have HP : Hid (pathOk s = (piecesB s).all nameOk) := by show _ = _; unfold pathOk; rw [decide_eq_true hs, Bool.true_and]
  have HL : Hid (∀ p ∈ piecesB s, p.size ≤ maxLen) := fun p hp => by
    have := pieces_size s p hp
    unfold maxLen
    omega
  have hpl := pieces_len s
  have HC : Hid (∀ j (hj : j < (piecesB s).length), (w.alloc (.cells ((piecesB s).map Value.string).toArray 9)).cell? ⟨w.heap.size, 0 + j, none⟩ = some (.string (piecesB s)[j])) := fun j hj => by
    rw [Lib.cell_of_heap (heap_alloc_new w _)]
    simp [hj]
  have HB : Hid (Below w.heap.size w (w.alloc (.cells ((piecesB s).map Value.string).toArray 9))) := (Below.refl _ _).alloc (Nat.le_refl _) _
  have hpl1 : ((piecesB s).length : Int) ≤ 101 := by omega
  go_enter Tryz.func80, Tryz.ntmps80
  go_wp2_with fail
  refine (split_any s w (by omega) HM.out).mono ?_
  rintro e w1 ⟨rfl, rfl⟩
  generalize hps : piecesB s = ps at HP HL hpl HC HB hpl1
  clear hps
  generalize hw1 : w.alloc (.cells (ps.map Value.string).toArray 9) = w1 at HC HB
  clear hw1
  go_wp2_with fail
  go_loopw [11] (fun i wr => ∃ k : Nat, k ≤ ps.length ∧ i = .int .i64 k ∧ (∀ j, (hj : j < ps.length) → j < k → nameOk ps[j] = true) ∧ wr = w1) (fun i _ => ps.length - (intOf i).toNat)
  case atStart => exact ⟨0, by omega, rfl, by omega, rfl⟩
  case round =>
    obtain ⟨k, hk, rfl, hlo, rfl⟩ := hrel
    have HLO : Hid _ := hlo
    clear hlo
    by_cases hlt : k < ps.length
    · have c0 := HC.out k hlt
      rw [Nat.zero_add] at c0
      have i2 : (k : Int) < ps.length := by omega
      by_cases h1 : nameOk ps[k] = true
      · go_wp2_with fail
        refine (IsName_any ps[k] _ (HL.out _ (List.getElem_mem hlt))).mono ?_
        rintro e w2 ⟨rfl, rfl⟩
        rw [h1]
        go_wp2
        refine ⟨⟨k + 1, by omega, by go_num, fun j hj hjk => ?_, by simp⟩, by simp [intOf]; omega⟩
        by_cases h : j < k
        · exact HLO.out j hj h
        · obtain rfl : j = k := by omega
          assumption
      · have h1' : nameOk ps[k] = false := by simpa using h1
        have H1 : Hid _ := h1'
        clear h1
        go_wp2_with fail
        refine (IsName_any ps[k] _ (HL.out _ (List.getElem_mem hlt))).mono ?_
        rintro e w2 ⟨rfl, rfl⟩
        rw [h1']
        go_wp2
        go_ret
        exact ⟨by rw [HP.out, all_no ps k hlt H1.out]; rfl, HB.out⟩
    · go_wp2
      go_ret
      exact ⟨by rw [HP.out, all_yes ps (fun j hj => HLO.out j hj (by omega))]; rfl, HB.out⟩

theorem extract_one (s : ByteArray) (k : Nat) (hk : k < s.size) : (s.extract k (k + 1)).data.toList = [s[k]] := by
  have h : k < s.data.toList.length := by rw [← size_of (s := s) rfl]; exact hk
  rw [Lib.extract_data, show k + 1 - k = 1 by omega, List.drop_eq_getElem_cons h]
  rfl
theorem own_cells {w : World} {base : Nat} {e : TypeId} {v : Value} {ps : List ByteArray} (h : w.ownsRow base e 1 v ps.length (ps.map Value.string)) (hne : 0 < ps.length) : ∃ g cap, v = .slice (some ⟨g, 0, none⟩) ps.length cap ∧ ∀ j (hj : j < ps.length), w.cell? ⟨g, j, none⟩ = some (.string ps[j]) := by
  have hcells := fun (g : Nat) (hg : v.ownBlock = some g) => h.cells hg
  rcases h.2 with ⟨_, h2⟩ | ⟨g, cap, cur, hv, _⟩
  · omega
  · refine ⟨g, cap, hv, fun j hj => ?_⟩
    have := hcells g (by rw [hv]; rfl) j (.string ps[j]) (by simp [hj])
    rwa [addr_add, Nat.zero_add] at this
theorem own_block {w : World} {base : Nat} {e : TypeId} {size : Nat} {v : Value} {k : Nat} {xs : List Value} (h : w.ownsRow base e size v (k + 1) xs) : ∃ g cap, v = .slice (some ⟨g, 0, none⟩) (k + 1) cap := by
  rcases h.2 with ⟨_, h2⟩ | ⟨g, cap, cur, hv, _⟩
  · omega
  · exact ⟨g, cap, hv⟩

set_option maxHeartbeats 2000000 in
set_option maxRecDepth 100000 in
theorem Parts_any (s : ByteArray) (w : World) (hs : s.size ≤ 100) :
    Calls Tryz.prog 71 #[.string s] w fun e w' => ∃ v, e = .returned v ∧ w'.ownsRow w.heap.size 9 1 v (parts [] s.data.toList).length (strs (parts [] s.data.toList)) ∧ Below w.heap.size w w' := by
  obtain ⟨i0, hi, hz0, hz1, hz2⟩ := info_parts infS
  have hz : (s.size : Int) ≤ 100 := by omega
  go_enter Tryz.func71, Tryz.ntmps71
  go_wp2
  go_loopw [3, 4] (fun v i wr => ∃ k : Nat, k ≤ s.size ∧ i = .int .i64 k ∧ wr.ownsRow w.heap.size 9 1 v (parts [] (s.data.toList.take k)).length (strs (parts [] (s.data.toList.take k))) ∧ Below w.heap.size w wr) (fun _ i _ => s.size - (intOf i).toNat)
  case atStart =>
    refine ⟨0, by omega, rfl, ?_, (Below.refl _ _).alloc (Nat.le_refl _) _⟩
    exact ⟨rfl, Or.inr ⟨w.heap.size, 1, #[.string ⟨#[]⟩], rfl, Nat.le_refl _, heap_alloc_new w _, Nat.le_refl _, by decide, rfl, rfl⟩⟩
  case round =>
    obtain ⟨k, hk, rfl, hown, hb⟩ := hrel
    have HB : Hid (Below w.heap.size w wr) := hb
    have HO : Hid (wr.ownsRow w.heap.size 9 1 u3 (parts [] (s.data.toList.take k)).length (strs (parts [] (s.data.toList.take k)))) := hown
    have hsz := hb.size
    have hpl := parts_len (s.data.toList.take k) []
    rw [List.length_take] at hpl
    clear hb hown
    by_cases hlt : k < s.size
    · have hts := take_snoc s k hlt
      by_cases hc : s[k] = 47
      · have hc1 : (s[k].toNat : Int) = 47 := by rw [hc]; rfl
        have HT : Hid (parts [] (s.data.toList.take (k + 1)) = parts [] (s.data.toList.take k) ++ [[]]) := by
          show _ = _
          rw [hts, hc, parts_slash]
        clear hts hc
        go_wp2_with (at_builtin; refine wpList_append_own _ rfl _ _ 23 rfl w.heap.size 9 i0 (.string ⟨#[]⟩) 1 16 Tryz.underlying23 hi hz0 hz1 hz2 rfl (by decide) _ _ _ rfl (HO.out.alloc _) ⟨wr.heap.size, 0, none⟩ 1 1 [.string ⟨#[]⟩] rfl rfl ?c1 ?c2 ?c3 ?c4 ?c5 ?_)
        case c1 =>
          intro j u hj
          match j, hj with
          | 0, hj => simp at hj; subst hj; simp [Addr.add]
        case c2 => intro u hu; simp at hu; subst hu; rfl
        case c3 => unfold maxLen; omega
        case c4 => omega
        case c5 => simp; omega
        intro v' w4 hown4 hg4 _
        have hrow : ∀ j, u3.ownBlock = some j → w.heap.size ≤ j := fun j hj => (HO.out.lt j hj).1
        have HB4 : Hid (Below w.heap.size w w4) := (HB.out.alloc hsz _).grown hg4 (by simp; omega) hrow
        have HO4 : Hid (w4.ownsRow w.heap.size 9 1 v' ((parts [] (s.data.toList.take k)).length + 1) (strs (parts [] (s.data.toList.take k)) ++ [.string ⟨#[]⟩])) := hown4
        clear hown4 hg4 hrow
        go_wp2
        refine ⟨⟨k + 1, by omega, by go_num, ?_, HB4.out⟩, by simp [intOf]; omega⟩
        rw [HT.out, List.length_append, show strs (parts [] (s.data.toList.take k) ++ [[]]) = strs (parts [] (s.data.toList.take k)) ++ [.string ⟨#[]⟩] from by simp [strs]]
        exact HO4.out
      · have hc1 : ((s[k].toNat : Int) == 47) = false := by
          rw [beq_eq_false_iff_ne]
          intro h
          exact hc (UInt8.toNat_inj.1 (by show s[k].toNat = 47; omega))
        obtain ⟨ps, p, e1, e2⟩ := parts_snoc (s.data.toList.take k) s[k] hc []
        rw [← hts] at e2
        have E2 : Hid _ := e2
        clear e2 hts hc
        rw [e1] at HO
        have hlen : (ps ++ [p]).length = ps.length + 1 := by simp
        rw [hlen] at HO
        obtain ⟨g, cap, rfl⟩ := own_block HO.out
        have q0 : wr.cell? ⟨g, ps.length, none⟩ = some (.string ⟨p.toArray⟩) := by
          have := HO.out.cells rfl ps.length (.string ⟨p.toArray⟩) (by simp [strs])
          rwa [addr_add, Nat.zero_add] at this
        have q1 : wr.frozen? ⟨g, ps.length, none⟩ = false := HO.out.frozenAt _
        have hpl2 : ps.length ≤ k := by rw [e1, hlen] at hpl; omega
        have i1 : (ps.length : Int) < (ps.length : Int) + 1 := by omega
        have i2 : (0 : Int) ≤ (ps.length : Int) := by omega
        have i5 : IntKind.i64.wrap ((ps.length : Int) + 1 - 1) = ps.length := by rw [wraps_i64 _ (by omega) (by omega)]; omega
        have i6 : IntKind.i64.wrap (ps.length : Int) = ps.length := wraps_i64 _ (by omega) (by omega)
        have hp := parts_mem (s.data.toList.take k) [] p (by rw [e1]; simp)
        rw [List.length_take] at hp
        have hadd : ∀ W : World, (Op.stringOp .add ⟨p.toArray⟩ (s.extract k (k + 1))).run Tryz.prog W = .ok (.string ⟨(p ++ [s[k]]).toArray⟩) W := fun W => by
          have h1 := addl p (s.extract k (k + 1)) (by simp at hp ⊢; omega) W
          rwa [extract_one s k hlt] at h1
        clear hp
        have HO5 : Hid ((wr.setCell ⟨g, ps.length, none⟩ (.string ⟨(p ++ [s[k]]).toArray⟩)).ownsRow w.heap.size 9 1 (.slice (some ⟨g, 0, none⟩) (ps.length + 1) cap) (ps.length + 1) (strs (ps ++ [p ++ [s[k]]]))) := by
          have h1 := (HO.out.stored ps.length (.string ⟨(p ++ [s[k]]).toArray⟩)).1
          rwa [show (strs (ps ++ [p])).set ps.length (.string ⟨(p ++ [s[k]]).toArray⟩) = strs (ps ++ [p ++ [s[k]]]) from by simp [strs]] at h1
        have HB5 : Hid (Below w.heap.size w (wr.setCell ⟨g, ps.length, none⟩ (.string ⟨(p ++ [s[k]]).toArray⟩)).drew) := (HB.out.setCell (p := ⟨g, ps.length, none⟩) (HO.out.lt g rfl).1 _).drew
        go_wp2
        go_region
        go_wp2
        refine ⟨⟨k + 1, by omega, by go_num, ?_, HB5.out⟩, by simp [intOf]; omega⟩
        rw [E2.out, show (ps ++ [p ++ [s[k]]]).length = ps.length + 1 from by simp]
        exact HO5.out
    · obtain rfl : k = s.size := by omega
      rw [size_of (s := s) rfl, List.take_length] at HO
      go_wp2
      go_ret
      exact ⟨_, rfl, HO.out, HB.out⟩

set_option maxHeartbeats 2000000 in
set_option maxRecDepth 100000 in
theorem RIsPath_any (s : ByteArray) (w : World) :
    Calls Tryz.prog 45 #[.string s] w fun e w' => e = .returned (.bool (pathOk s)) ∧ Below w.heap.size w w' := by
  by_cases hsz : 100 < s.size
  · have hz : (100 : Int) < (s.size : Int) := by omega
    have HP : Hid (pathOk s = false) := by show _ = _; unfold pathOk; rw [decide_eq_false (by omega), Bool.false_and]
    go_enter Tryz.func45, Tryz.ntmps45
    go_wp2
    go_ret
    exact ⟨by rw [HP.out]; rfl, Below.refl _ _⟩
  have hz : (s.size : Int) ≤ 100 := by omega
  have hs : s.size ≤ 100 := by omega
  have HP : Hid (pathOk s = (piecesB s).all nameOk) := by show _ = _; unfold pathOk; rw [decide_eq_true hs, Bool.true_and]
  have HL : Hid (∀ p ∈ piecesB s, p.size ≤ maxLen) := fun p hp => by
    have := pieces_size s p hp
    unfold maxLen
    omega
  have hpl := pieces_len s
  have hpl1 : ((piecesB s).length : Int) ≤ 101 := by omega
  have hne : 0 < (piecesB s).length := by
    have := parts_ne s.data.toList []
    have := List.length_pos_iff.2 this
    simpa [piecesB] using this
  have hpp : (parts [] s.data.toList).length = (piecesB s).length := by simp [piecesB]
  have hpc : strs (parts [] s.data.toList) = (piecesB s).map Value.string := by simp [strs, piecesB]
  go_enter Tryz.func45, Tryz.ntmps45
  go_wp2_with fail
  refine (Parts_any s w hs).mono ?_
  rintro e w1 ⟨v, rfl, hown, hb1⟩
  rw [hpp, hpc] at hown
  have HB : Hid (Below w.heap.size w w1) := hb1
  clear hb1 hpp hpc
  generalize hps : piecesB s = ps at HP HL hpl hpl1 hown hne
  clear hps
  obtain ⟨g, cap, rfl, hcells⟩ := own_cells hown hne
  have HC : Hid (∀ j (hj : j < ps.length), w1.cell? ⟨g, j, none⟩ = some (.string ps[j])) := hcells
  clear hown hcells hne
  go_wp2_with fail
  go_loopw [4] (fun i wr => ∃ k : Nat, k ≤ ps.length ∧ i = .int .i64 k ∧ (∀ j, (hj : j < ps.length) → j < k → nameOk ps[j] = true) ∧ wr = w1) (fun i _ => ps.length - (intOf i).toNat)
  case atStart => exact ⟨0, by omega, rfl, by omega, rfl⟩
  case round =>
    obtain ⟨k, hk, rfl, hlo, rfl⟩ := hrel
    have HLO : Hid _ := hlo
    clear hlo
    by_cases hlt : k < ps.length
    · have c0 := HC.out k hlt
      have i2 : (k : Int) < ps.length := by omega
      by_cases h1 : nameOk ps[k] = true
      · go_wp2_with fail
        refine (RIsName_any ps[k] _ (HL.out _ (List.getElem_mem hlt))).mono ?_
        rintro e w2 ⟨rfl, rfl⟩
        rw [h1]
        go_wp2
        refine ⟨⟨k + 1, by omega, by go_num, fun j hj hjk => ?_, by simp⟩, by simp [intOf]; omega⟩
        by_cases h : j < k
        · exact HLO.out j hj h
        · obtain rfl : j = k := by omega
          assumption
      · have h1' : nameOk ps[k] = false := by simpa using h1
        have H1 : Hid _ := h1'
        clear h1
        go_wp2_with fail
        refine (RIsName_any ps[k] _ (HL.out _ (List.getElem_mem hlt))).mono ?_
        rintro e w2 ⟨rfl, rfl⟩
        rw [h1']
        go_wp2
        go_ret
        exact ⟨by rw [HP.out, all_no ps k hlt H1.out]; rfl, HB.out⟩
    · go_wp2
      go_ret
      exact ⟨by rw [HP.out, all_yes ps (fun j hj => HLO.out j hj (by omega))]; rfl, HB.out⟩
end Go.Proofs.YtankaiopdbcndaaGreatDoor

/- Meets, of the program and of the document. -/
namespace Go.Proofs.YtankaiopdbcndaaGreatDoor
open Go.RowKit

/-- One path inside the other. -/
def inB (p d : ByteArray) : Bool := decide (d.size < p.size) && decide (p.data.toList.getD d.size 0 = 47) && decide ((p.extract 0 d.size).toList = d.toList)
def meetB (a b : ByteArray) : Bool := decide (a.toList = b.toList) || inB a b || inB b a
theorem meet_comm (a b : ByteArray) : meetB a b = meetB b a := by
  unfold meetB
  rw [Bool.or_assoc, Bool.or_assoc, Bool.or_comm (inB a b)]
  congr 1
  rw [Bool.eq_iff_iff]
  simp only [decide_eq_true_eq]
  exact eq_comm
theorem meet_self (a : ByteArray) : meetB a a = true := by unfold meetB; simp
theorem at_getD (p : ByteArray) (k : Nat) (h : k < p.size) : p[k] = p.data.toList.getD k 0 := by
  have h' : k < p.data.toList.length := by rw [Array.length_toList]; exact h
  rw [List.getD_eq_getElem?_getD, List.getElem?_eq_getElem h']
  rfl
theorem is47 (x : UInt8) : ((x.toNat : Int) == 47) = decide (x = 47) := by
  rw [Bool.eq_iff_iff]
  simp only [beq_iff_eq, decide_eq_true_eq]
  constructor
  · intro h
    exact UInt8.toNat_inj.1 (by show x.toNat = 47; omega)
  · intro h
    rw [h]
    rfl

set_option maxHeartbeats 2000000 in
set_option maxRecDepth 100000 in
theorem isInside_any (p d : ByteArray) (w : World) :
    Calls Tryz.prog 102 #[.string p, .string d] w fun e w' => e = .returned (.bool (inB p d)) ∧ w' = w := by
  by_cases h1 : d.size < p.size
  · have h2 : (d.size : Int) < (p.size : Int) := by omega
    have hq : (((p[d.size]).toNat : Int) == 47) = decide (p.data.toList.getD d.size 0 = 47) := by rw [is47, at_getD]
    have hle : d.size ≤ p.size := by omega
    by_cases h3 : p.data.toList.getD d.size 0 = 47
    · rw [decide_eq_true h3] at hq
      by_cases h4 : (p.extract 0 d.size).toList = d.toList
      · have h5 : ((p.extract 0 d.size).toList == d.toList) = true := beq_iff_eq.2 h4
        have e : inB p d = true := by unfold inB; simp only [h1, h3, h4, decide_true, Bool.and_self]
        rw [e]
        clear e h3 h4
        go_enter Tryz.func102, Tryz.ntmps102
        go_wp2
        go_ret
        exact ⟨rfl, rfl⟩
      · have h5 : ((p.extract 0 d.size).toList == d.toList) = false := beq_eq_false_iff_ne.2 h4
        have e : inB p d = false := by unfold inB; rw [decide_eq_false h4, Bool.and_false]
        rw [e]
        clear e h3 h4
        go_enter Tryz.func102, Tryz.ntmps102
        go_wp2
        go_ret
        exact ⟨rfl, rfl⟩
    · rw [decide_eq_false h3] at hq
      have e : inB p d = false := by unfold inB; rw [decide_eq_false h3, Bool.and_false, Bool.false_and]
      rw [e]
      clear e h3
      go_enter Tryz.func102, Tryz.ntmps102
      go_wp2
      go_ret
      exact ⟨rfl, rfl⟩
  · have h2 : ¬ (d.size : Int) < (p.size : Int) := by omega
    have e : inB p d = false := by unfold inB; simp [h1]
    rw [e]
    clear e h1
    go_enter Tryz.func102, Tryz.ntmps102
    go_wp2
    go_ret
    exact ⟨rfl, rfl⟩

set_option maxHeartbeats 2000000 in
set_option maxRecDepth 100000 in
theorem RIsInside_any (p d : ByteArray) (w : World) :
    Calls Tryz.prog 70 #[.string d, .string p] w fun e w' => e = .returned (.bool (inB p d)) ∧ w' = w := by
  by_cases h1 : d.size < p.size
  · have h2 : (d.size : Int) < (p.size : Int) := by omega
    have hq : (((p[d.size]).toNat : Int) == 47) = decide (p.data.toList.getD d.size 0 = 47) := by rw [is47, at_getD]
    have hle : d.size ≤ p.size := by omega
    by_cases h4 : (p.extract 0 d.size).toList = d.toList
    · have h5 : ((p.extract 0 d.size).toList == d.toList) = true := beq_iff_eq.2 h4
      by_cases h3 : p.data.toList.getD d.size 0 = 47
      · rw [decide_eq_true h3] at hq
        have e : inB p d = true := by unfold inB; simp only [h1, h3, h4, decide_true, Bool.and_self]
        rw [e]
        clear e h3 h4
        go_enter Tryz.func70, Tryz.ntmps70
        go_wp2
        go_ret
        exact ⟨rfl, rfl⟩
      · rw [decide_eq_false h3] at hq
        have e : inB p d = false := by unfold inB; rw [decide_eq_false h3, Bool.and_false, Bool.false_and]
        rw [e]
        clear e h3 h4
        go_enter Tryz.func70, Tryz.ntmps70
        go_wp2
        go_ret
        exact ⟨rfl, rfl⟩
    · have h5 : ((p.extract 0 d.size).toList == d.toList) = false := beq_eq_false_iff_ne.2 h4
      have e : inB p d = false := by unfold inB; rw [decide_eq_false h4, Bool.and_false]
      rw [e]
      clear e h4
      go_enter Tryz.func70, Tryz.ntmps70
      go_wp2
      go_ret
      exact ⟨rfl, rfl⟩
  · have h2 : ¬ (d.size : Int) < (p.size : Int) := by omega
    have e : inB p d = false := by unfold inB; simp [h1]
    rw [e]
    clear e h1
    go_enter Tryz.func70, Tryz.ntmps70
    go_wp2
    go_ret
    exact ⟨rfl, rfl⟩

set_option maxHeartbeats 2000000 in
set_option maxRecDepth 100000 in
theorem Meets_any (a b : ByteArray) (w : World) :
    Calls Tryz.prog 86 #[.string a, .string b] w fun e w' => e = .returned (.bool (meetB a b)) ∧ w' = w := by
  have HI : Hid (∀ (x y : ByteArray) (W : World), Calls Tryz.prog 102 #[.string x, .string y] W fun e w' => e = .returned (.bool (inB x y)) ∧ w' = W) := fun x y W => isInside_any x y W
  have em : meetB a b = (decide (a.toList = b.toList) || inB a b || inB b a) := by
    unfold meetB
    rfl
  rw [em]
  clear em
  have hq : (a.toList == b.toList) = decide (a.toList = b.toList) := by
    rw [Bool.eq_iff_iff]; simp
  generalize decide (a.toList = b.toList) = q at hq
  cases q with
  | true =>
    rw [Bool.true_or, Bool.true_or]
    go_enter Tryz.func86, Tryz.ntmps86
    go_wp2
    go_ret
    exact ⟨rfl, rfl⟩
  | false =>
    rw [Bool.false_or]
    cases h1 : inB a b with
    | true =>
      rw [Bool.true_or]
      have HA : Hid (∀ W : World, Calls Tryz.prog 102 #[.string a, .string b] W fun e w' => e = .returned (.bool true) ∧ w' = W) := fun W => h1 ▸ HI.out a b W
      clear HI h1
      go_enter Tryz.func86, Tryz.ntmps86
      go_wp2_with (first | (go_at_call 102; refine (HA.out _).mono ?_; rintro e w' ⟨rfl, hw⟩; subst w') | go_in)
      go_ret
      exact ⟨rfl, rfl⟩
    | false =>
      rw [Bool.false_or]
      have HA : Hid (∀ W : World, Calls Tryz.prog 102 #[.string a, .string b] W fun e w' => e = .returned (.bool false) ∧ w' = W) := fun W => h1 ▸ HI.out a b W
      have HB : Hid (∀ W : World, Calls Tryz.prog 102 #[.string b, .string a] W fun e w' => e = .returned (.bool (inB b a)) ∧ w' = W) := fun W => HI.out b a W
      clear HI h1
      generalize inB b a = r at HB
      go_enter Tryz.func86, Tryz.ntmps86
      go_wp2_with (first
        | (go_at_call 102; with_reducible refine (HA.out _).mono ?_; rintro e w' ⟨rfl, hw⟩; subst w')
        | (go_at_call 102; with_reducible refine (HB.out _).mono ?_; rintro e w' ⟨rfl, hw⟩; subst w')
        | go_in)
      go_ret
      exact ⟨rfl, rfl⟩

set_option maxHeartbeats 2000000 in
set_option maxRecDepth 100000 in
theorem RMeets_any (a b : ByteArray) (w : World) :
    Calls Tryz.prog 46 #[.string a, .string b] w fun e w' => e = .returned (.bool (meetB a b)) ∧ w' = w := by
  have HI : Hid (∀ (x y : ByteArray) (W : World), Calls Tryz.prog 70 #[.string x, .string y] W fun e w' => e = .returned (.bool (inB y x)) ∧ w' = W) := fun x y W => RIsInside_any y x W
  have em : meetB a b = (decide (a.toList = b.toList) || inB b a || inB a b) := by
    unfold meetB
    rw [Bool.or_assoc, Bool.or_assoc, Bool.or_comm (inB a b)]
  rw [em]
  clear em
  have hq : (a.toList == b.toList) = decide (a.toList = b.toList) := by
    rw [Bool.eq_iff_iff]; simp
  generalize decide (a.toList = b.toList) = q at hq
  cases q with
  | true =>
    rw [Bool.true_or, Bool.true_or]
    go_enter Tryz.func46, Tryz.ntmps46
    go_wp2
    go_ret
    exact ⟨rfl, rfl⟩
  | false =>
    rw [Bool.false_or]
    cases h1 : inB b a with
    | true =>
      rw [Bool.true_or]
      have HA : Hid (∀ W : World, Calls Tryz.prog 70 #[.string a, .string b] W fun e w' => e = .returned (.bool true) ∧ w' = W) := fun W => h1 ▸ HI.out a b W
      clear HI h1
      go_enter Tryz.func46, Tryz.ntmps46
      go_wp2_with (first | (go_at_call 70; refine (HA.out _).mono ?_; rintro e w' ⟨rfl, hw⟩; subst w') | go_in)
      go_ret
      exact ⟨rfl, rfl⟩
    | false =>
      rw [Bool.false_or]
      have HA : Hid (∀ W : World, Calls Tryz.prog 70 #[.string a, .string b] W fun e w' => e = .returned (.bool false) ∧ w' = W) := fun W => h1 ▸ HI.out a b W
      have HB : Hid (∀ W : World, Calls Tryz.prog 70 #[.string b, .string a] W fun e w' => e = .returned (.bool (inB a b)) ∧ w' = W) := fun W => HI.out b a W
      clear HI h1
      generalize inB a b = r at HB
      go_enter Tryz.func46, Tryz.ntmps46
      go_wp2_with (first
        | (go_at_call 70; with_reducible refine (HA.out _).mono ?_; rintro e w' ⟨rfl, hw⟩; subst w')
        | (go_at_call 70; with_reducible refine (HB.out _).mono ?_; rintro e w' ⟨rfl, hw⟩; subst w')
        | go_in)
      go_ret
      exact ⟨rfl, rfl⟩
end Go.Proofs.YtankaiopdbcndaaGreatDoor

/- Check: what is wrong with one file. -/
namespace Go.Proofs.YtankaiopdbcndaaGreatDoor
open Go.RowKit

/-- A file: its path, its text, whether it runs. -/
structure Fl where
  pa : ByteArray
  tx : ByteArray
  rn : Bool
def encF (f : Fl) : Value := .agg #[.string f.pa, .string f.tx, .bool f.rn]
def flE (f : Fl) : Int := if pathOk f.pa = false then 1 else if 100000 < f.tx.size then 2 else 0

theorem tisTooLong_any (s : ByteArray) (w : World) :
    Calls Tryz.prog 81 #[.string s] w fun e w' => e = .returned (.bool (decide (100000 < s.size))) ∧ w' = w := by
  by_cases h : 100000 < s.size
  · have h2 : (100000 : Int) < (s.size : Int) := by omega
    rw [decide_eq_true h]
    clear h
    go_enter Tryz.func81, Tryz.ntmps81
    go_wp2
    go_ret
    exact ⟨rfl, rfl⟩
  · have h2 : ¬ (100000 : Int) < (s.size : Int) := by omega
    rw [decide_eq_false h]
    clear h
    go_enter Tryz.func81, Tryz.ntmps81
    go_wp2
    go_ret
    exact ⟨rfl, rfl⟩

def flW (w : World) (f : Fl) : World := w.alloc (.cells #[.string f.pa, .string f.tx, .bool f.rn] 77)
theorem flW_bel (w : World) (f : Fl) : Below w.heap.size w (flW w f) := (Below.refl _ w).alloc (Nat.le_refl _) _
set_option maxHeartbeats 2000000 in
set_option maxRecDepth 100000 in
theorem fileError_any (f : Fl) (w : World) (hm : MaxIs (flW w f)) :
    Calls Tryz.prog 62 #[encF f] w fun e w' => e = .returned (.int .i64 (flE f)) ∧ Below w.heap.size w w' := by
  obtain ⟨p, t, r⟩ := f
  have hx := heap_alloc_new w (.cells #[.string p, .string t, .bool r] 77)
  have hz : (flW w ⟨p, t, r⟩).heap.size = w.heap.size + 1 := World.size_alloc _ _
  have HB : Hid (Below w.heap.size w (flW w ⟨p, t, r⟩)) := flW_bel w _
  have HI : Hid (Calls Tryz.prog 80 #[.string p] (flW w ⟨p, t, r⟩) fun e w' => e = .returned (.bool (pathOk p)) ∧ w'.cell? ⟨w.heap.size, 1, none⟩ = some (.string t) ∧ Hid (Below w.heap.size w w')) := by
    refine (IsPath_any p _ hm).mono ?_
    rintro e w' ⟨rfl, hb⟩
    refine ⟨rfl, ?_, HB.out.trans (hb.mono (by omega))⟩
    rw [hb.cell (p := ⟨w.heap.size, 1, none⟩) (by show w.heap.size < _; omega)]
    exact Lib.cell_of_heap hx 1
  have HT : Hid (∀ W, Calls Tryz.prog 81 #[.string t] W fun e w' => e = .returned (.bool (decide (100000 < t.size))) ∧ w' = W) := fun W => tisTooLong_any t W
  unfold encF flE
  unfold flW at HI
  simp only
  clear hm hz hx HB
  cases hp : pathOk p with
  | false =>
    rw [hp] at HI
    rw [if_pos rfl]
    clear hp
    go_enter Tryz.func62, Tryz.ntmps62
    go_wp2_with (first
      | (go_at_call 80; refine HI.out.mono ?_; rintro e w1 ⟨rfl, c1, R1⟩)
      | (go_at_call 81; refine (HT.out _).mono ?_; rintro e w2 ⟨rfl, hw⟩; subst w2)
      | go_in)
    go_ret
    exact ⟨rfl, R1.out⟩
  | true =>
    rw [hp] at HI
    rw [if_neg (by decide)]
    clear hp
    by_cases h : 100000 < t.size
    · rw [if_pos h]
      rw [decide_eq_true h] at HT
      clear h
      go_enter Tryz.func62, Tryz.ntmps62
      go_wp2_with (first
        | (go_at_call 80; refine HI.out.mono ?_; rintro e w1 ⟨rfl, c1, R1⟩)
        | (go_at_call 81; refine (HT.out _).mono ?_; rintro e w2 ⟨rfl, hw⟩; subst w2)
        | go_in)
      go_ret
      exact ⟨rfl, R1.out⟩
    · rw [if_neg h]
      rw [decide_eq_false h] at HT
      clear h
      go_enter Tryz.func62, Tryz.ntmps62
      go_wp2_with (first
        | (go_at_call 80; refine HI.out.mono ?_; rintro e w1 ⟨rfl, c1, R1⟩)
        | (go_at_call 81; refine (HT.out _).mono ?_; rintro e w2 ⟨rfl, hw⟩; subst w2)
        | go_in)
      go_ret
      exact ⟨rfl, R1.out⟩
end Go.Proofs.YtankaiopdbcndaaGreatDoor

/- Paths compared: cmp.Compare at texts; comparePaths. -/
namespace Go.Proofs.YtankaiopdbcndaaGreatDoor
open Go.RowKit

def cmpB (x y : ByteArray) : Int := if Op.bytesLess x.toList y.toList = true then -1 else if x.toList = y.toList then 0 else 1

theorem isNaN_s (x : ByteArray) (w : World) :
    Calls Tryz.prog 100 #[.string x] w fun e w' => e = .returned (.bool false) ∧ w' = w := by
  go_enter Tryz.func100, Tryz.ntmps100
  go_wp2
  go_ret
  exact ⟨by simp, rfl⟩
set_option maxHeartbeats 2000000 in
set_option maxRecDepth 100000 in
theorem Compare_s (x y : ByteArray) (w : World) :
    Calls Tryz.prog 82 #[.string x, .string y] w fun e w' => e = .returned (.int .i64 (cmpB x y)) ∧ w' = w := by
  have HN : Hid (∀ (z : ByteArray) (W : World), Calls Tryz.prog 100 #[.string z] W fun e w' => e = .returned (.bool false) ∧ w' = W) := isNaN_s
  unfold cmpB
  by_cases h1 : Op.bytesLess x.toList y.toList = true
  · rw [if_pos h1]
    go_enter Tryz.func82, Tryz.ntmps82
    go_wp2_with (first | (go_at_call 100; refine (HN.out _ _).mono ?_; rintro e w1 ⟨rfl, hw⟩; subst w1) | go_in)
    go_ret
    exact ⟨rfl, rfl⟩
  · rw [if_neg h1]
    have h1' : Op.bytesLess x.toList y.toList = false := by simpa using h1
    clear h1
    by_cases h2 : x.toList = y.toList
    · rw [if_pos h2]
      have h2' : (x.toList == y.toList) = true := beq_iff_eq.2 h2
      clear h2
      go_enter Tryz.func82, Tryz.ntmps82
      go_wp2_with (first | (go_at_call 100; refine (HN.out _ _).mono ?_; rintro e w1 ⟨rfl, hw⟩; subst w1) | go_in)
      go_ret
      exact ⟨rfl, rfl⟩
    · rw [if_neg h2]
      have h2' : (x.toList == y.toList) = false := beq_eq_false_iff_ne.2 h2
      clear h2
      go_enter Tryz.func82, Tryz.ntmps82
      go_wp2_with (first | (go_at_call 100; refine (HN.out _ _).mono ?_; rintro e w1 ⟨rfl, hw⟩; subst w1) | go_in)
      go_ret
      exact ⟨rfl, rfl⟩

set_option maxHeartbeats 2000000 in
set_option maxRecDepth 100000 in
theorem comparePaths_any (f g : Fl) (w : World) :
    Calls Tryz.prog 65 #[encF f, encF g] w fun e w' => e = .returned (.int .i64 (cmpB f.pa g.pa)) ∧ Below w.heap.size w w' := by
  obtain ⟨p, t, r⟩ := f
  obtain ⟨p2, t2, r2⟩ := g
  have HC : Hid (∀ W, Calls Tryz.prog 82 #[.string p, .string p2] W fun e w' => e = .returned (.int .i64 (cmpB p p2)) ∧ w' = W) := Compare_s p p2
  have HB : Hid (∀ o1 o2 : Obj, Below w.heap.size w ((w.alloc o1).alloc o2)) := fun o1 o2 => by
    have h1 : Below w.heap.size w (w.alloc o1) := (Below.refl _ w).alloc (Nat.le_refl _) _
    exact h1.alloc (by rw [World.size_alloc]; omega) _
  unfold encF
  simp only
  generalize cmpB p p2 = r9 at *
  go_enter Tryz.func65, Tryz.ntmps65
  go_wp2_with (first | (go_at_call 82; refine (HC.out _).mono ?_; rintro e w1 ⟨rfl, hw⟩; subst w1) | go_in)
  go_ret
  exact ⟨rfl, HB.out _ _⟩
end Go.Proofs.YtankaiopdbcndaaGreatDoor

/- A tree, plain: what Check answers. -/
namespace Go.Proofs.YtankaiopdbcndaaGreatDoor
open Go.RowKit Go.Shelf Go.Maps

theorem tlt : ∀ a b : List UInt8, Op.bytesLess a b = decide (a < b)
  | [], [] => by simp [Op.bytesLess]
  | [], b :: s => by simp [Op.bytesLess]
  | a :: r, [] => by simp [Op.bytesLess]
  | a :: r, b :: s => by
    rw [Op.bytesLess, tlt r s]
    rw [Bool.eq_iff_iff]
    simp [List.cons_lt_cons_iff]

/-- A path's bytes. -/
def pth (f : Fl) : List UInt8 := f.pa.data.toList
/-- The first that is wrong. -/
def flEs : List Fl → Int
  | [] => 0
  | f :: l => if flE f = 0 then flEs l else flE f
theorem flEs_yes (ns : List Fl) (h : ∀ j (hj : j < ns.length), flE ns[j] = 0) : flEs ns = 0 := by
  induction ns with
  | nil => rfl
  | cons n l ih =>
    have h0 : flE n = 0 := h 0 (by simp)
    show (if flE n = 0 then flEs l else flE n) = 0
    rw [if_pos h0]
    exact ih (fun j hj => h (j + 1) (by simp; omega))
theorem flEs_no (ns : List Fl) (k : Nat) (hk : k < ns.length) (h : ∀ j (hj : j < ns.length), j < k → flE ns[j] = 0) (hne : flE ns[k] ≠ 0) : flEs ns = flE ns[k] := by
  induction ns generalizing k with
  | nil => simp at hk
  | cons n l ih =>
    show (if flE n = 0 then flEs l else flE n) = _
    cases k with
    | zero => exact if_neg (show ¬ flE n = 0 from hne)
    | succ k =>
      have h0 : flE n = 0 := h 0 (by simp) (by omega)
      rw [if_pos h0]
      exact ih k (by simpa using hk) (fun j hj hjk => h (j + 1) (by simp; omega) (by omega)) hne
theorem flEs_all {ns : List Fl} (h : flEs ns = 0) : ∀ f ∈ ns, flE f = 0 := by
  induction ns with
  | nil => intro f hf; cases hf
  | cons n l ih =>
    rw [show flEs (n :: l) = (if flE n = 0 then flEs l else flE n) from rfl] at h
    by_cases h0 : flE n = 0
    · rw [if_pos h0] at h
      intro f hf
      rcases List.mem_cons.1 hf with rfl | hf
      · exact h0
      · exact ih h f hf
    · rw [if_neg h0] at h
      exact absurd h h0
theorem flE_pa {f : Fl} (h : flE f = 0) : pathOk f.pa = true ∧ f.tx.size ≤ 100000 := by
  unfold flE at h
  by_cases h1 : pathOk f.pa = false
  · rw [if_pos h1] at h; exact absurd h (by decide)
  · rw [if_neg h1] at h
    by_cases h2 : 100000 < f.tx.size
    · rw [if_pos h2] at h; exact absurd h (by decide)
    · exact ⟨by simpa using h1, by omega⟩

/-- Do the paths rise? -/
def upF (L : List Fl) : Bool := decide (L.Pairwise fun f g => pth f < pth g)
/-- Does a path of the one go through a file of the other? -/
def thruF (L M : List Fl) : Bool := L.any fun f => M.any fun g => inB f.pa g.pa
/-- What Check answers. -/
def chF (L : List Fl) : Int := if 60 < L.length then 2 else if flEs L = 0 then (if (upF L && !thruF L L) = true then 0 else 6) else flEs L

/-- No path is less than the one ahead of it. -/
def adjF (L : List Fl) : Prop := ∀ j (hj : j + 1 < L.length), ¬ pth L[j + 1] < pth L[j]
theorem adjF_pw : ∀ L : List Fl, adjF L → L.Pairwise fun f g => pth f ≤ pth g
  | [], _ => .nil
  | [a], _ => List.pairwise_singleton _ _
  | a :: b :: l, h => by
    have h0 : pth a ≤ pth b := List.not_lt.1 (h 0 (by simp))
    have ih := adjF_pw (b :: l) (fun j hj => h (j + 1) (by simp at hj ⊢; omega))
    rw [List.pairwise_cons]
    refine ⟨fun x hx => ?_, ih⟩
    rcases List.mem_cons.1 hx with rfl | hx
    · exact h0
    · exact List.le_trans h0 ((List.pairwise_cons.1 ih).1 x hx)
theorem up_of {L : List Fl} (h : adjF L) (hn : (L.map pth).Nodup) : upF L = true := by
  unfold upF
  rw [decide_eq_true_eq]
  have h1 := adjF_pw L h
  have h2 : L.Pairwise fun f g => pth f ≠ pth g := List.pairwise_map.1 hn
  refine (h1.and h2).imp fun {f g} hh => ?_
  obtain ⟨ha, hb⟩ := hh
  rcases Decidable.em (pth f < pth g) with h | h
  · exact h
  · exact absurd (List.le_antisymm ha (List.not_lt.1 h)) hb
theorem up_pw {L : List Fl} (h : upF L = true) : L.Pairwise fun f g => pth f < pth g := of_decide_eq_true h
theorem up_nodup {L : List Fl} (h : upF L = true) : (L.map pth).Nodup :=
  List.pairwise_map.2 ((up_pw h).imp fun hh e => by rw [e] at hh; exact List.lt_irrefl _ hh)
theorem up_adj {L : List Fl} (h : upF L = true) : adjF L := fun j hj hlt => by
  have := List.pairwise_iff_getElem.1 (up_pw h) j (j + 1) (by omega) hj (by omega)
  exact List.lt_irrefl _ (List.lt_trans this hlt)

theorem snocInd {α : Type} {P : List α → Prop} (h0 : P []) (h1 : ∀ l a, P l → P (l ++ [a])) (l : List α) : P l := by
  rw [← List.reverse_reverse l]
  induction l.reverse with
  | nil => exact h0
  | cons a r ih => rw [List.reverse_cons]; exact h1 _ _ ih

/-- A file, as a map's datum. -/
def fD (f : Fl) : DataW Unit := .agg [.lit (.string (pth f)), .lit (.string f.tx.data.toList), .lit (.bool f.rn)]
/-- Files by their paths. -/
def byD (L : List Fl) : DataW Unit := L.foldl (fun D f => D.put (.string (pth f)) (fD f)) (.map [])
theorem byD_snoc (L : List Fl) (f : Fl) : byD (L ++ [f]) = (byD L).put (.string (pth f)) (fD f) := by simp [byD, List.foldl_append]
theorem byD_tidy (L : List Fl) : Tidy (byD L) := by
  refine snocInd (P := fun L => Tidy (byD L)) tidy_empty (fun l a ih => ?_) L
  rw [byD_snoc]
  exact ih.put (by exact trivial) _
theorem has_byD (L : List Fl) (k : List UInt8) : Maps.has (byD L) (.string k) = L.any (fun f => decide (pth f = k)) := by
  refine snocInd (P := fun L => Maps.has (byD L) (.string k) = L.any (fun f => decide (pth f = k))) rfl (fun l a ih => ?_) L
  rw [byD_snoc, List.any_append, ← ih]
  by_cases h : pth a = k
  · subst h
    rw [has_put_same (byD_tidy l).isMap (by exact trivial)]
    simp
  · rw [has_put_other (fun e => h (by injection e with e; exact e.symm))]
    simp [h]
theorem size_byD (L : List Fl) : Maps.size (byD L) ≤ L.length ∧ (Maps.size (byD L) = L.length ↔ (L.map pth).Nodup) := by
  refine snocInd (P := fun L => Maps.size (byD L) ≤ L.length ∧ (Maps.size (byD L) = L.length ↔ (L.map pth).Nodup)) ⟨Nat.le_refl _, by simp [byD, Maps.size]⟩ (fun l a ih => ?_) L
  rw [byD_snoc, size_put (byD_tidy l), has_byD, List.length_append, List.map_append]
  obtain ⟨h1, h2⟩ := ih
  have e1 : [a].length = 1 := rfl
  rw [e1]
  by_cases h : l.any (fun f => decide (pth f = pth a)) = true
  · rw [if_pos h]
    refine ⟨by omega, ⟨fun e => by omega, fun e => ?_⟩⟩
    exfalso
    obtain ⟨f, hf, he⟩ := List.any_eq_true.1 h
    rw [List.nodup_append] at e
    exact e.2.2 (pth f) (List.mem_map.2 ⟨f, hf, rfl⟩) (pth a) (by simp) (by simpa using he)
  · rw [if_neg h]
    refine ⟨by omega, ⟨fun e => ?_, fun e => ?_⟩⟩
    · rw [List.nodup_append]
      refine ⟨h2.1 (by omega), by simp, fun x hx y hy e => ?_⟩
      obtain ⟨f, hf, rfl⟩ := List.mem_map.1 hx
      have hy' : y = pth a := by simpa using hy
      exact h (List.any_eq_true.2 ⟨f, hf, by rw [e, hy']; simp⟩)
    · have := h2.2 (List.nodup_append.1 e).1
      omega
theorem at_byD {L : List Fl} (hn : (L.map pth).Nodup) {f : Fl} (hf : f ∈ L) (z : DataW Unit) : (byD L).atKey (.string (pth f)) z = fD f := by
  refine snocInd (P := fun L => (L.map pth).Nodup → f ∈ L → (byD L).atKey (.string (pth f)) z = fD f) (fun _ h => by cases h) (fun l a ih => ?_) L hn hf
  intro hn hf
  rw [byD_snoc]
  rw [List.map_append, List.nodup_append] at hn
  rcases List.mem_append.1 hf with h | h
  · have hne : pth f ≠ pth a := hn.2.2 _ (List.mem_map.2 ⟨f, h, rfl⟩) _ (by simp)
    rw [atKey_put_other (fun e => hne (by injection e))]
    exact ih hn.1 h
  · have e : f = a := by simpa using h
    subst e
    exact atKey_put_same (byD_tidy l).isMap (by exact trivial) _ _
theorem atNo_byD {L : List Fl} {k : List UInt8} (h : ∀ f ∈ L, pth f ≠ k) (z : DataW Unit) : (byD L).atKey (.string k) z = z := by
  refine atKey_of_not_has ?_ z
  rw [has_byD, List.any_eq_false]
  intro f hf
  simpa using h f hf

/-- Where a path's slash is, a file stands. -/
theorem inB_iff (p d : ByteArray) : inB p d = true ↔ ∃ i, i < p.size ∧ p.data.toList.getD i 0 = 47 ∧ d.data.toList = (p.extract 0 i).data.toList := by
  unfold inB
  rw [Bool.and_eq_true, Bool.and_eq_true, decide_eq_true_eq, decide_eq_true_eq, decide_eq_true_eq, Lib.toList_data, Lib.toList_data]
  constructor
  · rintro ⟨⟨h1, h2⟩, h3⟩
    exact ⟨d.size, h1, h2, h3.symm⟩
  · rintro ⟨i, h1, h2, h3⟩
    have h4 : d.size = i := by
      have := congrArg List.length h3
      rw [Array.length_toList, Array.length_toList] at this
      have e2 : (p.extract 0 i).data.size = i := by
        show (p.extract 0 i).size = i
        rw [ByteArray.size_extract]
        omega
      rw [e2] at this
      exact this
    rw [h4]
    exact ⟨⟨h1, h2⟩, h3.symm⟩
end Go.Proofs.YtankaiopdbcndaaGreatDoor

/- Check: files in memory; by their paths; do they rise? -/
namespace Go.Proofs.YtankaiopdbcndaaGreatDoor
open Go.RowKit Go.Shelf Go.Maps Go.WideMaps

theorem lawS : Keyed Tryz.prog 9 := string_keyed Tryz.underlying9
/-- The files L lie in block g from offset o on. -/
def FlAt (g o : Nat) (L : List Fl) (w : World) : Prop := ∀ j (hj : j < L.length), w.cell? ⟨g, o + j * 3, none⟩ = some (.string L[j].pa) ∧ w.cell? ⟨g, o + j * 3 + 1, none⟩ = some (.string L[j].tx) ∧ w.cell? ⟨g, o + j * 3 + 2, none⟩ = some (.bool L[j].rn)
theorem FlAt.below {B g o : Nat} {L : List Fl} {w w' : World} (h : FlAt g o L w) (hb : Below B w w') (hg : g < B) : FlAt g o L w' := fun j hj =>
  ⟨(hb.cell (p := ⟨g, o + j * 3, none⟩) hg).trans (h j hj).1, (hb.cell (p := ⟨g, o + j * 3 + 1, none⟩) hg).trans (h j hj).2.1, (hb.cell (p := ⟨g, o + j * 3 + 2, none⟩) hg).trans (h j hj).2.2⟩
/-- A slice that begins at ao has the files L. -/
def IsFl (w : World) (ao : Option Addr) (L : List Fl) : Prop := L = [] ∨ ∃ g o, ao = some ⟨g, o, none⟩ ∧ g < w.heap.size ∧ FlAt g o L w
theorem IsFl.below {B : Nat} {ao : Option Addr} {L : List Fl} {w w' : World} (h : IsFl w ao L) (hb : Below B w w') (hB : w.heap.size ≤ B) : IsFl w' ao L := by
  rcases h with h | ⟨g, o, h1, h2, h3⟩
  · exact .inl h
  · exact .inr ⟨g, o, h1, Nat.lt_of_lt_of_le h2 hb.size, h3.below hb (by omega)⟩

/-- How a file in a map reads. -/
def fileE (v : Value) : Option (DataW Unit × List MemPlace) := match v with
  | .agg a => match a.toList with
    | [.string p, .string t, .bool r] => some (fD ⟨p, t, r⟩, [])
    | _ => none
  | _ => none
theorem fileE_mk (f : Fl) : fileE (encF f) = some (fD f, []) := rfl
theorem fileE_inv {v : Value} {d : DataW Unit} {ps : List MemPlace} (h : fileE v = some (d, ps)) : ∃ f, v = encF f ∧ d = fD f := by
  unfold fileE at h
  split at h
  · rename_i a
    split at h
    · rename_i p t r e
      injection h with h
      injection h with h1 h2
      refine ⟨⟨p, t, r⟩, ?_, h1.symm⟩
      show Value.agg a = Value.agg #[.string p, .string t, .bool r]
      rw [← Array.toArray_toList (xs := a), e]
    · cases h
  · cases h
theorem fD_inj {f g : Fl} (h : fD f = fD g) : f = g := by
  obtain ⟨p, t, r⟩ := f
  obtain ⟨p2, t2, r2⟩ := g
  unfold fD at h
  injection h with h
  injection h with h1 h
  injection h with h2 h
  injection h with h3 _
  injection h1 with h1
  injection h1 with h1
  injection h2 with h2
  injection h2 with h2
  injection h3 with h3
  injection h3 with h3
  have e1 : p = p2 := by
    have := Array.toList_inj.1 (show p.data.toList = p2.data.toList from h1)
    obtain ⟨x⟩ := p; obtain ⟨y⟩ := p2; exact congrArg ByteArray.mk this
  have e2 : t = t2 := by
    have := Array.toList_inj.1 (show t.data.toList = t2.data.toList from h2)
    obtain ⟨x⟩ := t; obtain ⟨y⟩ := t2; exact congrArg ByteArray.mk this
  rw [e1, e2, show r = r2 from h3]
theorem zeroF (w : World) : (zeroValue 77).run Tryz.prog w = .ok (encF ⟨⟨#[]⟩, ⟨#[]⟩, false⟩) w := by kernel_rfl

theorem makeMap_n {t k e : TypeId} (ht : Tryz.prog.underlying t = some (.map k e)) (n : Nat) (w : World) : (Instr.makeMap t (some (.int .i64 (n : Int)))).run Tryz.prog w = .ok (.map (some w.heap.size)) (w.alloc (.map #[] 0)) := by
  simp [Instr.makeMap, run_underlying ht, asInt, asIntOf]

set_option maxHeartbeats 2000000 in
set_option maxRecDepth 100000 in
theorem byPath_any (ao : Option Addr) (cap : Nat) (L : List Fl) (w : World) (hn : L.length ≤ 1000000) (hl : IsFl w ao L) (hs : ∀ f ∈ L, f.pa.size ≤ maxLen) :
    Calls Tryz.prog 63 #[.slice ao L.length cap] w fun e w' => e = .returned (.map (some w.heap.size)) ∧ w'.ownsMap Tryz.prog 9 fileE w.heap.size L.length (byD L) ∧ Below w.heap.size w w' := by
  have HL : Hid (IsFl w ao L) := hl
  have HS : Hid (∀ f ∈ L, f.pa.size ≤ maxLen) := hs
  have hn1 : (L.length : Int) ≤ 1000000 := by omega
  have hmm := makeMap_n Tryz.underlying94
  clear hl hs
  go_enter Tryz.func63, Tryz.ntmps63
  go_wp2
  go_loopw [11] (fun i wr => ∃ k : Nat, k ≤ L.length ∧ i = .int .i64 k ∧ wr.ownsMap Tryz.prog 9 fileE w.heap.size k (byD (L.take k)) ∧ Below w.heap.size w wr) (fun i _ => L.length - (intOf i).toNat)
  case atStart => exact ⟨0, by omega, rfl, World.ownsMap_made _ _ _ _, (Below.refl _ _).alloc (Nat.le_refl _) _⟩
  case round =>
    obtain ⟨k, hk, rfl, hown, hb⟩ := hrel
    by_cases hlt : k < L.length
    · have HLB := HL.out.below hb (Nat.le_refl _)
      rcases HLB with h | ⟨g, o, rfl, hg, hc⟩
      · exfalso; rw [h] at hlt; exact absurd hlt (by simp)
      have hgs : g < w.heap.size := by
        rcases HL.out with h | ⟨g2, o2, e, h2, _⟩
        · exfalso; rw [h] at hlt; exact absurd hlt (by simp)
        · injection e with e; injection e with e1 _; rw [e1]; exact h2
      obtain ⟨c0, c1, c2⟩ := hc k hlt
      have hsz : L[k].pa.size ≤ maxLen := HS.out _ (List.getElem_mem hlt)
      have HE : Hid (byD (L.take (k + 1)) = (byD (L.take k)).put (.string (pth L[k])) (fD L[k])) := by
        show _ = _
        rw [List.take_succ_eq_append_getElem hlt, byD_snoc]
      have HB : Hid (Below w.heap.size w wr) := hb
      have hwz := hb.size
      generalize hx : L[k] = x at c0 c1 c2 hsz HE
      clear hx
      obtain ⟨p, t, r⟩ := x
      simp only at c0 c1 c2 hsz
      have hkey := keyOf_string_mk Tryz.underlying9 hsz
      have hown2 := hown.alloc (.cells #[.string p, .string t, .bool r] 77)
      clear hb hown hc
      go_wp2_with (first
        | (at_mapUpdate; refine wpList_mapUpdate_own _ rfl _ _ _ 94 rfl 9 77 lawS Tryz.underlying94 _ w.heap.size k (byD (L.take k)) rfl hown2 (by unfold maxLen; omega) _ _ _ rfl rfl hkey _ [] (fileE_mk ⟨p, t, r⟩) ?_; intro w1 hown1 hgrow1)
        | go_in)
      refine ⟨⟨k + 1, by omega, by go_num, by rw [HE.out]; exact hown1, ?_⟩, by simp [intOf]; omega⟩
      exact ((HB.out.alloc (by omega) _).grown hgrow1 (by rw [World.size_alloc]; omega) (fun j hj => by cases hj; exact Nat.le_refl _))
    · obtain rfl : k = L.length := by omega
      have HB : Hid (Below w.heap.size w wr) := hb
      have HO : Hid (wr.ownsMap Tryz.prog 9 fileE w.heap.size L.length (byD L)) := by
        rw [List.take_length] at hown
        exact hown
      clear hb hown
      go_wp2
      go_ret
      exact ⟨rfl, HO.out, HB.out⟩
end Go.Proofs.YtankaiopdbcndaaGreatDoor

/- The heap's methods, through the interface. -/
namespace Go.Proofs.YtankaiopdbcndaaGreatDoor
open Go.RowKit Go.Shelf

theorem wrapNil (ts : Array TypeId) (t : TypeId) (a : Addr) (s1 s2 : String) : Builtin.ssaWrapNilChk_ ts t #[.pointer (some a), strVal s1, strVal s2] = pure (.pointer (some a)) := rfl
theorem meth_val {P : Program} {T e f b : Nat} {name : String} {x : Value} {w : World} (hm : (P.info? T).map (fun i => (i.methods.find? (·.name == name)).map fun m => (m.path, m.func)) = some (some (#[], some (f, false)))) (hu : P.underlying T = some (.pointer e)) (ha : ∀ W, (isAgg e).run P W = .ok false W) (h : w.cell? ⟨b, 0, none⟩ = some x) :
    (method (P.types.size + Made.depth) T (.pointer (some ⟨b, 0, none⟩)) name).run P w = .ok (f, x) w := by
  obtain ⟨i, hi, hm⟩ := Option.map_eq_some_iff.1 hm
  obtain ⟨m, hf, hm⟩ := Option.map_eq_some_iff.1 hm
  obtain ⟨hp, hff⟩ := Prod.mk.inj hm
  obtain ⟨k, hk⟩ : ∃ k, P.types.size + Made.depth = k + 1 := ⟨P.types.size + 99, rfl⟩
  rw [hk]
  unfold method
  simp [typeInfo, hi, hf, hp, hff, follow, receiverAt, run_underlying hu, Place.get, wrapNil, asAddr, loadVar, ha, go_sem, h]
theorem meth_ptr {P : Program} {T e f : Nat} {name : String} {v : Value} {w : World} (hm : (P.info? T).map (fun i => (i.methods.find? (·.name == name)).map fun m => (m.path, m.func)) = some (some (#[], some (f, true)))) (hu : P.underlying T = some (.pointer e)) :
    (method (P.types.size + Made.depth) T v name).run P w = .ok (f, v) w := by
  obtain ⟨i, hi, hm⟩ := Option.map_eq_some_iff.1 hm
  obtain ⟨m, hf, hm⟩ := Option.map_eq_some_iff.1 hm
  obtain ⟨hp, hff⟩ := Prod.mk.inj hm
  obtain ⟨k, hk⟩ : ∃ k, P.types.size + Made.depth = k + 1 := ⟨P.types.size + 99, rfl⟩
  rw [hk]
  unfold method
  simp [typeInfo, hi, hf, hp, hff, follow, receiverAt, run_underlying hu, Place.get]
/-- A ready row, as the heap's calls have it. -/
abbrev rdy (b : Nat) : Value := .iface 83 (.pointer (some ⟨b, 0, none⟩))
theorem depth_is : Tryz.prog.types.size + Made.depth = 274 := by kernel_rfl
theorem m_len {b : Nat} {v : Value} {w : World} (h : w.cell? ⟨b, 0, none⟩ = some v) : (method 274 83 (.pointer (some ⟨b, 0, none⟩)) "Len").run Tryz.prog w = .ok (53, v) w := by
  rw [← depth_is]; exact meth_val (by kernel_rfl) Tryz.underlying83 (fun W => Tryz.isAgg81 W) h
theorem m_less {b : Nat} {v : Value} {w : World} (h : w.cell? ⟨b, 0, none⟩ = some v) : (method 274 83 (.pointer (some ⟨b, 0, none⟩)) "Less").run Tryz.prog w = .ok (140, v) w := by
  rw [← depth_is]; exact meth_val (by kernel_rfl) Tryz.underlying83 (fun W => Tryz.isAgg81 W) h
theorem m_swap {b : Nat} {v : Value} {w : World} (h : w.cell? ⟨b, 0, none⟩ = some v) : (method 274 83 (.pointer (some ⟨b, 0, none⟩)) "Swap").run Tryz.prog w = .ok (141, v) w := by
  rw [← depth_is]; exact meth_val (by kernel_rfl) Tryz.underlying83 (fun W => Tryz.isAgg81 W) h
theorem m_push {v : Value} {w : World} : (method 274 83 v "Push").run Tryz.prog w = .ok (143, v) w := by
  rw [← depth_is]; exact meth_ptr (by kernel_rfl) Tryz.underlying83
theorem m_pop {v : Value} {w : World} : (method 274 83 v "Pop").run Tryz.prog w = .ok (142, v) w := by
  rw [← depth_is]; exact meth_ptr (by kernel_rfl) Tryz.underlying83
end Go.Proofs.YtankaiopdbcndaaGreatDoor
