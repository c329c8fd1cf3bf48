/- What strings.Builder's copyCheck, WriteByte and String do where the builder lies as the first field in a block of another type (wire's packer). -/
import Derived.Test.YtkmlooepakinfaaGreatDoorRows
import Derived.Lib.Builder
import Derived.Lib.AppendStr
import Derived.Lib.UnsafeStr
import Derived.Lib.Strings
import Derived.Lib.Slices
import Derived.Lib.Walk
import Derived.Lib.OthersKept
import Derived.Laws.Externs
import Derived.WalkKit
import Derived.WalkSpells
import Derived.WalkLawsBesides
import Derived.Laws.BitsLemmas
import Derived.Shelf.Strconv.Clone
import Derived.Defers
import Derived.Recover
import Derived.Laws.Pointers
import Derived.Shelf.Strings.Split
import Derived.Deep.RegionWith
import Derived.Laws.BytesString
import Derived.Deep.RegionHeld3
import Derived.Test.YtkmlooepakinfaaGreatDoorTie
import Derived.Test.YtkmlooepakinfaaGreatDoorCards
import Derived.ProofKit
import Derived.OpenShut
import Derived.ShutString
import Derived.ChangeOld
import Derived.Below
import Derived.Lay
import Derived.HandedShaped
import Derived.SevenTiedAt
import Derived.Stop.Joined
import Derived.Shelf.Vars
import Derived.Lib.SmallJoins
import Derived.Deep.QuietTactic
import Derived.Test.YtkmlooepakinfaaGreatDoorChecked
import Derived.Maps.OwnSet
import Derived.Maps.Views
import Derived.WalkSmall
import Derived.Lib.Hide
import Derived.Shelf.Abstract
namespace Go.Proofs.YtkmlooepakinfaaGreatDoor
open Go.RowKit

theorem szB : (Tryz.prog.info? 158).map (·.size) = some 2 := by kernel_rfl
theorem lieB : liesAt Tryz.prog Tryz.prog.depth 160 (2 / Tryz.prog.cellsOf 160) 0 158 1 = true := by kernel_rfl
theorem infB : (Tryz.prog.info? 5).map (fun i => (i.zero, i.size, i.bytes)) = some (some (.int .u8 0), 1, 1) := by kernel_rfl
theorem celB : Tryz.prog.cellsOf 5 = 1 := by kernel_rfl

abbrev PkAt (B b : Nat) (p : Value) (bs : List Value) (w : World) : Prop := Lib.BuilderAt 160 5 B b p bs w
abbrev PkIs (B b : Nat) (bs : List Value) (w : World) : Prop := Lib.IsBuilder 160 5 B b bs w

/-- What a write leaves: below B all is as it was; of the rest all but the builder's block b and rows of bytes. -/
def Kp (B b : Nat) (w w' : World) : Prop := Below B w w' ∧ Lib.OthersKept 5 (some b) w w'
theorem Kp.bel {B b : Nat} {w w' : World} (h : Kp B b w w') : Below B w w' := h.1
theorem Kp.size {B b : Nat} {w w' : World} (h : Kp B b w w') : w.heap.size ≤ w'.heap.size := h.1.size
theorem Kp.refl (B b : Nat) (w : World) : Kp B b w w := ⟨Below.refl _ _, Lib.OthersKept.refl _ _ _⟩
theorem Kp.trans {B b : Nat} {a c d : World} (h : Kp B b a c) (k : Kp B b c d) : Kp B b a d := ⟨h.1.trans k.1, h.2.trans k.2⟩
theorem own_kind {w : World} {B : Nat} {e : TypeId} {v : Value} {n : Nat} {xs : List Value} (h : w.ownsRow B e 1 v n xs) : ∀ g, v.ownBlock = some g → ∃ c fz, w.heap[g]? = some (.cells c e fz) := by
  intro g hg
  rcases h.2 with ⟨hv, _⟩ | ⟨g', cap, cur, hv, _, hh, _⟩
  · rw [hv] at hg; cases hg
  · rw [hv] at hg
    obtain rfl : g' = g := by simpa [Value.ownBlock] using hg
    exact ⟨_, _, hh⟩

set_option maxHeartbeats 1000000 in
set_option maxRecDepth 100000 in
theorem cc_used (b : Nat) (w : World) (h0 : w.cell? ⟨b, 0, none⟩ = some (.pointer (some ⟨b, 0, none⟩))) :
    Calls Tryz.prog 160 #[.pointer (some ⟨b, 0, none⟩)] w fun e w' => e = .returned (.tuple #[]) ∧ w' = w := by
  obtain ⟨j, hj, _⟩ := Option.map_eq_some_iff.1 szB
  go_enter Tryz.func160, Tryz.ntmps160
  go_wp2
  rw [Lib.run_neq_ptr_same w _ Tryz.underlying156 hj]
  go_wp2
  go_end0
  exact ⟨rfl, rfl⟩

set_option maxHeartbeats 1000000 in
set_option maxRecDepth 100000 in
theorem cc_fresh (b : Nat) (w : World) (h0 : w.cell? ⟨b, 0, none⟩ = some (.pointer none)) (hsh : w.shape? b = some (160, 2)) (hfz : w.frozen? ⟨b, 0, none⟩ = false) :
    Calls Tryz.prog 160 #[.pointer (some ⟨b, 0, none⟩)] w fun e w' => e = .returned (.tuple #[]) ∧ w' = w.setCell ⟨b, 0, none⟩ (.pointer (some ⟨b, 0, none⟩)) := by
  obtain ⟨j, hj, hjs⟩ := Option.map_eq_some_iff.1 szB
  go_enter Tryz.func160, Tryz.ntmps160
  go_wp2
  rw [Lib.run_to_unsafe w ⟨b, 0, none⟩ Tryz.underlying156 Tryz.underlying206 hj (by rw [hjs]; decide) hsh (Nat.zero_lt_succ 1)]
  simp only [Result.andThen]
  rw [Oper.upon_value]
  go_wp2
  rw [run_callFunc_extern Tryz.func163 (by kernel_rfl) (by kernel_rfl) (by kernel_rfl) (e := Extern.AbiNoEscape.same) (by kernel_rfl)]
  rw [Lib.run_noEscape]
  simp only [Result.andThen]
  rw [Oper.upon_value]
  go_wp2
  rw [Lib.run_from_unsafe w ⟨b, 0, none⟩ Tryz.underlying206 Tryz.underlying156 hj hsh lieB]
  simp only [Result.andThen]
  rw [Oper.upon_value]
  go_wp2
  go_end0
  exact ⟨rfl, rfl⟩

theorem cc_any (B b : Nat) (bs : List Value) (w : World) (h : PkIs B b bs w) :
    Calls Tryz.prog 160 #[.pointer (some ⟨b, 0, none⟩)] w fun e w' => e = .returned (.tuple #[]) ∧ (PkAt B b (.pointer (some ⟨b, 0, none⟩)) bs w' ∧ Kp B b w w') := by
  rcases h with h | h
  · refine (cc_fresh b w h.cell0 h.shape h.frozen0).mono ?_
    rintro e w' ⟨rfl, rfl⟩
    exact ⟨rfl, h.used _, (Below.refl B w).setCell (p := ⟨b, 0, none⟩) h.1 _, (Lib.OthersKept.refl _ _ _).setCell ⟨b, 0, none⟩ rfl _⟩
  · refine (cc_used b w h.cell0).mono ?_
    rintro e w' ⟨rfl, rfl⟩
    exact ⟨rfl, h, Kp.refl _ _ _⟩

set_option maxHeartbeats 1000000 in
set_option maxRecDepth 100000 in
theorem wb_any (B b : Nat) (bs : List Value) (c : Int) (w : World) (h : PkIs B b bs w) (hlen : bs.length + 1 ≤ 140737488355328) (hBw : B ≤ w.heap.size) :
    Calls Tryz.prog 156 #[.pointer (some ⟨b, 0, none⟩), .int .u8 c] w fun e w' => e = .returned .nilIface ∧ (PkAt B b (.pointer (some ⟨b, 0, none⟩)) (bs ++ [.int .u8 c]) w' ∧ Kp B b w w') := by
  obtain ⟨i0, hi, hz0, hz1, hz2⟩ := info_parts infB
  go_enter Tryz.func156, Tryz.ntmps156
  go_wp2_with (go_at_call 160; refine (cc_any B b bs _ h).mono ?_)
  rintro e w1 ⟨rfl, h1, hb1, hk1⟩
  obtain ⟨hB, v, hbk, hown, hne⟩ := h1
  have c0 : w1.cell? ⟨b, 0, none⟩ = some (.pointer (some ⟨b, 0, none⟩)) := by rw [Lib.cell_of_heap hbk]; rfl
  have c1 : w1.cell? ⟨b, 1, none⟩ = some v := by rw [Lib.cell_of_heap hbk]; rfl
  go_wp2_with (at_builtin; refine wpList_append_own _ rfl _ _ 131 rfl B 5 i0 (.int .u8 0) 1 1 Tryz.underlying131 hi hz0 hz1 hz2 rfl (by decide) _ _ _ rfl (hown.alloc _) ⟨w1.heap.size, 0, none⟩ 1 1 [.int .u8 c] rfl rfl ?c1 ?c2 ?c3 ?c4 ?c5 ?_)
  case c1 =>
    intro j u hj
    match j, hj with
    | 0, hj => simp at hj; subst hj; simp [Addr.add]
  case c2 => intro u hu; simp at hu; subst hu; rfl
  case c3 => unfold maxLen; omega
  case c4 => omega
  case c5 => have := hb1.size; simp; omega
  intro v' w2 hown' hgrow _
  have hlt : b < w1.heap.size := by
    rcases Nat.lt_or_ge b w1.heap.size with h' | h'
    · exact h'
    · simp [Array.getElem?_eq_none h'] at hbk
  have hb2 : w2.heap[b]? = some (.cells #[.pointer (some ⟨b, 0, none⟩), v] 160 (0, 0)) := by
    rw [hgrow.block b (by simp; omega) (fun e => hne e.symm), Lib.alloc_old w1 _ b hlt]
    exact hbk
  have d0 : w2.cell? ⟨b, 0, none⟩ = some (.pointer (some ⟨b, 0, none⟩)) := by rw [Lib.cell_of_heap hb2]; rfl
  have d1 : w2.cell? ⟨b, 1, none⟩ = some v := by rw [Lib.cell_of_heap hb2]; rfl
  have f1 : w2.frozen? ⟨b, 1, none⟩ = false := Lib.frozen_of_heap hb2 1
  obtain ⟨g, cap, rfl⟩ : ∃ g cap, v' = .slice (some ⟨g, 0, none⟩) (bs.length + 1) cap := by
    rcases hown'.2 with ⟨_, h0⟩ | ⟨g, cap, cur, hv, _⟩
    · omega
    · exact ⟨g, cap, hv⟩
  go_wp2
  go_ret
  refine ⟨rfl, ?_, ?_, ((hk1.alloc _).grown hgrow (own_kind (hown.alloc _))).setCell ⟨b, 1, none⟩ rfl _⟩
  · exact Lib.BuilderAt.put (T := 160) (e := 5) hB hb2 (bs' := bs ++ [.int .u8 c]) (by simpa using hown') (by decide)
  · exact ((hb1.alloc (by have := hb1.size; omega) _).grown hgrow (by have := hb1.size; simp; omega) (fun k hk => (hown.lt k hk).1)).setCell (p := ⟨b, 1, none⟩) hB _

set_option maxHeartbeats 2000000 in
set_option maxRecDepth 100000 in
theorem st_any (B b : Nat) (l : List UInt8) (w : World) (h : PkIs B b (Lib.byteCells l) w) (h0 : l ≠ []) :
    Calls Tryz.prog 124 #[.pointer (some ⟨b, 0, none⟩)] w fun e w' => e = .returned (.string ⟨l.toArray⟩) ∧ Below B w w' := by
  obtain ⟨p, hB, v, hbk, hown, hne⟩ : ∃ p, PkAt B b p (Lib.byteCells l) w := by
    rcases h with h | h
    · exact ⟨_, h⟩
    · exact ⟨_, h⟩
  have hl0 : l.length ≠ 0 := by simpa using h0
  rw [Lib.byteCells_length] at hown
  obtain ⟨g, cap, cur, rfl, hbg, hg, hnc, hcm, hcs, htake⟩ : ∃ g cap cur, v = .slice (some ⟨g, 0, none⟩) l.length cap ∧ B ≤ g ∧ w.heap[g]? = some (.cells cur 5 (0, 0)) ∧ l.length ≤ cap ∧ cap ≤ maxLen ∧ cur.size = cap * 1 ∧ cur.toList.take (l.length * 1) = Lib.byteCells l := by
    rcases hown.2 with ⟨_, hz⟩ | ⟨g, cap, cur, hv, r⟩
    · exact absurd hz hl0
    · exact ⟨g, cap, cur, hv, r⟩
  have c1 : w.cell? ⟨b, 1, none⟩ = some (.slice (some ⟨g, 0, none⟩) l.length cap) := by rw [Lib.cell_of_heap hbk]; rfl
  have hSD : (Builtin.unsafeSliceData_ #[131] 182 #[.slice (some ⟨g, 0, none⟩) l.length cap]).run Tryz.prog w.drew = .ok (.pointer (some ⟨g, 0, none⟩)) w.drew :=
    Lib.run_unsafeSliceData_row _ _ _ _ _ _ (by omega)
  have hUS : (Builtin.unsafeString_ #[182, 3] 9 #[.pointer (some ⟨g, 0, none⟩), .int .i64 l.length]).run Tryz.prog w.drew = .ok (.string ⟨l.toArray⟩) (w.drew.freeze ⟨g, 0, none⟩ l.length) := by
    refine Lib.run_unsafeString_row w.drew 182 3 9 5 Tryz.underlying182 celB g cur.size (by have hg' : w.drew.heap[g]? = some (.cells cur 5 (0, 0)) := hg; simp [World.shape?, hg']) l h0 (by omega) (by unfold maxLen at hcm; omega) ?_
    intro j x hx
    have := hown.cells (g := g) rfl j (.int .u8 x.toNat) (by simp [Lib.byteCells, hx])
    exact this
  go_enter Tryz.func124, Tryz.ntmps124
  go_wp2
  go_region
  all_goals (go_wp2; go_ret; exact ⟨rfl, Lib.below_freeze (Below.drew (Below.refl B w)) (p := ⟨g, 0, none⟩) hbg _⟩)
end Go.Proofs.YtkmlooepakinfaaGreatDoor

/- Plain functions on lists of bytes: how a number is packed and read, with their laws: no program is named here. -/
namespace Go.Proofs.YtkmlooepakinfaaGreatDoor
open Go.RowKit

def pkF : Nat → Nat → List UInt8
  | 0, n => [UInt8.ofNat n]
  | f + 1, n => if n < 128 then [UInt8.ofNat n] else UInt8.ofNat (n % 128 + 128) :: pkF f (n / 128)
def pk (n : Nat) : List UInt8 := pkF n n

theorem pkF_eq : ∀ f g m : Nat, m ≤ f → m ≤ g → pkF f m = pkF g m := by
  intro f
  induction f with
  | zero =>
    intro g m h1 _
    obtain rfl : m = 0 := by omega
    cases g <;> simp [pkF]
  | succ f ih =>
    intro g m h1 h2
    cases g with
    | zero =>
      obtain rfl : m = 0 := by omega
      simp [pkF]
    | succ g =>
      by_cases h : m < 128
      · simp [pkF, h]
      · simp only [pkF, if_neg h]
        rw [ih g (m / 128) (by omega) (by omega)]
theorem pk_small (m : Nat) (h : m < 128) : pk m = [UInt8.ofNat m] := by
  unfold pk
  cases m with
  | zero => rfl
  | succ k => simp only [pkF, if_pos h]
theorem pk_more (m : Nat) (h : 128 ≤ m) : pk m = UInt8.ofNat (m % 128 + 128) :: pk (m / 128) := by
  unfold pk
  obtain ⟨k, rfl⟩ : ∃ k, m = k + 1 := ⟨m - 1, by omega⟩
  rw [show pkF (k + 1) (k + 1) = UInt8.ofNat ((k + 1) % 128 + 128) :: pkF k ((k + 1) / 128) from by simp only [pkF, if_neg (show ¬ k + 1 < 128 by omega)]]
  rw [pkF_eq k ((k + 1) / 128) _ (by omega) (by omega)]
theorem pk_pos (m : Nat) : 0 < (pk m).length := by
  by_cases h : m < 128
  · rw [pk_small m h]; simp
  · rw [pk_more m (by omega)]; simp

theorem pk_len : ∀ k n : Nat, n < 128 ^ (k + 1) → (pk n).length ≤ k + 1 := by
  intro k
  induction k with
  | zero => intro n h; rw [pk_small n (by simpa using h)]; simp
  | succ k ih =>
    intro n h
    by_cases hs : n < 128
    · rw [pk_small n hs]; simp
    · rw [pk_more n (by omega)]
      have := ih (n / 128) (by rw [Nat.div_lt_iff_lt_mul (by decide)]; rw [Nat.pow_succ] at h; exact h)
      simp; omega
theorem pk_len8 (n : Nat) (h : n ≤ 9007199254740991) : (pk n).length ≤ 8 := pk_len 7 n (by omega)

/-- The number that bytes with seven bits each say, the lowest first. -/
def val : List UInt8 → Nat
  | [] => 0
  | c :: r => c.toNat % 128 + 128 * val r
theorem val_snoc (l : List UInt8) (c : UInt8) : val (l ++ [c]) = val l + 128 ^ l.length * (c.toNat % 128) := by
  induction l with
  | nil => simp [val]
  | cons d r ih => simp only [List.cons_append, val, ih, List.length_cons, Nat.pow_succ, Nat.mul_add]; rw [Nat.mul_comm (128 ^ r.length) 128, Nat.mul_assoc]; omega
theorem val_lt (l : List UInt8) : val l < 128 ^ l.length := by
  induction l with
  | nil => simp [val]
  | cons d r ih =>
    simp only [val, List.length_cons, Nat.pow_succ]
    have : d.toNat % 128 < 128 := Nat.mod_lt _ (by decide)
    omega
theorem take_snoc (s : ByteArray) (k : Nat) (h : k < s.size) : s.data.toList.take (k + 1) = s.data.toList.take k ++ [s[k]] := by
  rw [List.take_succ_eq_append_getElem (by simpa using h)]; rfl
theorem wraps_i64 (n : Int) (h0 : 0 ≤ n) (h1 : n < 2 ^ 63) : IntKind.i64.wrap n = n := by rw [IntKind.wrap_i64]; omega
theorem or_step (m N c : Nat) (hm : m < 8) (hN : N < 128 ^ m) : bits .or .i64 (N : Int) (wrap64 ((c : Int) % 128 * 2 ^ (7 * m))) = ((N + 128 ^ m * (c % 128) : Nat) : Int) := by
  have hp : 128 ^ m = 2 ^ (7 * m) := by rw [Nat.pow_mul]
  have h7 : 2 ^ (7 * m) ≤ 2 ^ 49 := Nat.pow_le_pow_right (by decide) (by omega)
  have hc : c % 128 < 128 := Nat.mod_lt _ (by decide)
  rw [hp] at hN ⊢
  have hy : c % 128 * 2 ^ (7 * m) ≤ 127 * 2 ^ 49 := Nat.mul_le_mul (by omega) h7
  have e1 : (c : Int) % 128 * 2 ^ (7 * m) = ((c % 128 * 2 ^ (7 * m) : Nat) : Int) := by push_cast; rfl
  have e2 : wrap64 ((c : Int) % 128 * 2 ^ (7 * m)) = ((2 ^ (7 * m) * (c % 128) : Nat) : Int) := by
    rw [e1, Nat.mul_comm (2 ^ (7 * m))]
    generalize c % 128 * 2 ^ (7 * m) = y at hy ⊢
    unfold wrap64
    omega
  rw [e2]
  have hy2 : 2 ^ (7 * m) * (c % 128) < 2 ^ 63 := by rw [Nat.mul_comm]; omega
  rw [(bits_nat .i64 63 (by decide) wraps_i64 N _ (by omega) hy2).2, Nat.or_comm, ← Nat.two_pow_add_eq_or_of_lt hN, Nat.add_comm]

theorem pk_form : ∀ f n : Nat, n ≤ f → ∃ d c, pk n = d ++ [c] ∧ (∀ x ∈ d, 128 ≤ x.toNat) ∧ c.toNat < 128 ∧ (d = [] ∨ c.toNat ≠ 0) ∧ (128 ≤ n → d ≠ []) ∧ (0 < n → c.toNat ≠ 0) := by
  intro f
  induction f with
  | zero =>
    intro n h
    obtain rfl : n = 0 := by omega
    exact ⟨[], 0, rfl, by simp, by decide, Or.inl rfl, by omega, by omega⟩
  | succ f ih =>
    intro n h
    by_cases hs : n < 128
    · refine ⟨[], UInt8.ofNat n, by rw [pk_small n hs]; rfl, by simp, ?_, Or.inl rfl, by omega, ?_⟩
      · simp [UInt8.toNat_ofNat']; omega
      · simp [UInt8.toNat_ofNat']; omega
    · obtain ⟨d, c, e, hd, hc, _, _, h0⟩ := ih (n / 128) (by omega)
      have hc0 := h0 (by omega)
      refine ⟨UInt8.ofNat (n % 128 + 128) :: d, c, by rw [pk_more n (by omega), e]; rfl, ?_, hc, Or.inr hc0, by simp, fun _ => hc0⟩
      intro x hx
      rcases List.mem_cons.1 hx with rfl | hx
      · simp [UInt8.toNat_ofNat']; omega
      · exact hd x hx
theorem val_pk : ∀ f n : Nat, n ≤ f → val (pk n) = n := by
  intro f
  induction f with
  | zero =>
    intro n h
    obtain rfl : n = 0 := by omega
    rfl
  | succ f ih =>
    intro n h
    by_cases hs : n < 128
    · rw [pk_small n hs]; simp [val, UInt8.toNat_ofNat']; omega
    · rw [pk_more n (by omega)]
      simp only [val, ih (n / 128) (by omega), UInt8.toNat_ofNat']
      omega
theorem bytes_eq {s : ByteArray} {l : List UInt8} (h : s.data.toList = l) : s = ⟨l.toArray⟩ := by
  subst h
  cases s
  simp
theorem size_of {s : ByteArray} {l : List UInt8} (h : s.data.toList = l) : s.size = l.length := by rw [← h]; exact Array.length_toList.symm
theorem extract_end (s : ByteArray) (a r : List UInt8) (h : s.data.toList = a ++ r) : s.extract a.length s.size = ⟨r.toArray⟩ := by
  apply bytes_eq
  rw [Lib.extract_data]
  have : s.size = (a ++ r).length := size_of h
  rw [h, this]
  simp
theorem extract_mid (s : ByteArray) (a r : List UInt8) (h : s.data.toList = a ++ r) : s.extract 0 a.length = ⟨a.toArray⟩ := by
  apply bytes_eq
  rw [Lib.extract_data, h]
  simp

theorem byteCells_snoc (l : List UInt8) (n : Nat) (h : n < 256) : Lib.byteCells (l ++ [UInt8.ofNat n]) = Lib.byteCells l ++ [Value.int .u8 (n : Int)] := by
  have : (UInt8.ofNat n).toNat = n := by simp [UInt8.toNat_ofNat']; omega
  simp [Lib.byteCells, this]
end Go.Proofs.YtkmlooepakinfaaGreatDoor

/- What wire's packer does with a number, and Number. -/
namespace Go.Proofs.YtkmlooepakinfaaGreatDoor
open Go.RowKit

set_option maxHeartbeats 1000000 in
set_option maxRecDepth 100000 in
theorem number_any (B b n : Nat) (bs : List Value) (w : World) (h : PkIs B b bs w) (hn : n ≤ 9007199254740991) (hlen : bs.length + (pk n).length ≤ 140737488355328) (hBw : B ≤ w.heap.size) :
    Calls Tryz.prog 145 #[.pointer (some ⟨b, 0, none⟩), .int .i64 n] w fun e w' => e = .returned (.tuple #[]) ∧ (PkIs B b (bs ++ Lib.byteCells (pk n)) w' ∧ Kp B b w w') := by
  go_enter Tryz.func145, Tryz.ntmps145
  go_wp2
  go_loopw [1] (fun v wr => ∃ (m : Nat) (d : List UInt8), v = .int .i64 m ∧ m ≤ n ∧ pk n = d ++ pk m ∧ PkIs B b (bs ++ Lib.byteCells d) wr ∧ Kp B b w wr) (fun v _ => (intOf v).toNat)
  case atStart => exact ⟨n, [], rfl, Nat.le_refl _, rfl, by simpa [Lib.byteCells] using h, Kp.refl _ _ _⟩
  case round =>
    obtain ⟨m, d, rfl, hm, hd, hp, hb⟩ := hrel
    have HD : Hid (pk n = d ++ pk m) := hd
    have hle : bs.length + d.length + (pk m).length ≤ 140737488355328 := by rw [hd] at hlen; simp at hlen; omega
    have hpos := pk_pos m
    have hsz := hb.size
    have hmm : (m : Int) ≤ 9007199254740991 := by omega
    clear hd
    have hk1 : bs.length + (Lib.byteCells d).length + 1 ≤ 140737488355328 := by simp [Lib.byteCells]; omega
    have hk2 : B ≤ wr.heap.size := by omega
    clear hle hpos hlen hn h
    by_cases hlt : 128 ≤ m
    · go_wp2_with (go_at_call 156; refine (wb_any B b _ _ _ hp (by simpa using hk1) hk2).mono ?_; rintro e w1 ⟨rfl, h1, hb1⟩)
      refine ⟨⟨m / 128, d ++ [UInt8.ofNat (m % 128 + 128)], by go_num, by omega, ?_, ?_, hb.trans hb1⟩, by simp [intOf]; omega⟩
      · rw [HD.out, pk_more m hlt]; simp
      · rw [byteCells_snoc _ _ (by omega), ← List.append_assoc]
        exact Or.inr (by simpa using h1)
    · go_wp2_with (go_at_call 156; refine (wb_any B b _ _ _ hp (by simpa using hk1) hk2).mono ?_; rintro e w1 ⟨rfl, h1, hb1⟩)
      go_end0
      refine ⟨rfl, ?_, hb.trans hb1⟩
      rw [HD.out, pk_small m (by omega), byteCells_snoc _ _ (by omega), ← List.append_assoc]
      exact Or.inr h1

set_option maxHeartbeats 1000000 in
theorem isNoNumber_any (n : Int) (w : World) : Calls Tryz.prog 165 #[.int .i64 n] w fun e w' => e = .returned (.bool (decide (n < 0) || decide (9007199254740991 < n))) ∧ w' = w := by
  by_cases h : n < 0
  · go_enter Tryz.func165, Tryz.ntmps165
    go_wp2
    go_ret
    exact ⟨by simp [h], rfl⟩
  · go_enter Tryz.func165, Tryz.ntmps165
    go_wp2
    go_ret
    exact ⟨by simp [Int.not_lt.2 h], rfl⟩
end Go.Proofs.YtkmlooepakinfaaGreatDoor

/- What wire's numberSize and ReadNumber answer. -/
namespace Go.Proofs.YtkmlooepakinfaaGreatDoor
open Go.RowKit

set_option maxHeartbeats 400000 in
set_option maxRecDepth 100000 in
theorem numberSize_yes (s : ByteArray) (w : World) (hs : s.size ≤ maxLen) (k : Nat) (hk : k < s.size) (hlo : ∀ j : Nat, (hj : j < k) → 128 ≤ s[j].toNat) (hhi : s[k].toNat < 128) :
    Calls Tryz.prog 164 #[.string s] w fun e w' => e = .returned (.tuple #[.int .i64 (k + 1 : Nat), .bool true]) ∧ w' = w := by
  unfold maxLen at hs
  go_enter Tryz.func164, Tryz.ntmps164
  go_wp2
  go_loop [7] (fun i => ∃ m : Nat, m ≤ k ∧ i = .int .i64 m) (fun i => s.size - (intOf i).toNat)
  case atStart => exact ⟨0, Nat.zero_le _, rfl⟩
  case round =>
    obtain ⟨m, hm, rfl⟩ := hrel
    by_cases hlt : m < k
    · have h1 : 128 ≤ (s[m].toNat : Int) := by have := hlo m hlt; omega
      have h2 : m < s.size := by omega
      clear hlo hhi
      go_wp2
      exact ⟨⟨m + 1, by omega, by go_num⟩, by simp [intOf]; omega⟩
    · obtain rfl : m = k := by omega
      have h1 : (s[m].toNat : Int) < 128 := by omega
      clear hlo hhi
      go_wp2
      go_ret2
      exact ⟨rfl, rfl⟩

set_option maxHeartbeats 1000000 in
set_option maxRecDepth 100000 in
theorem ReadNumber_yes (s : ByteArray) (w : World) (hs : s.size ≤ maxLen) (k : Nat) (hk : k < s.size) (hk8 : k < 8) (hlo : ∀ j : Nat, (hj : j < k) → 128 ≤ s[j].toNat) (hhi : s[k].toNat < 128)
    (hz : k = 0 ∨ s[k].toNat ≠ 0) (hv : val (s.data.toList.take (k + 1)) ≤ 9007199254740991) :
    Calls Tryz.prog 161 #[.string s] w fun e w' => e = .returned (.tuple #[.int .i64 (val (s.data.toList.take (k + 1))), .int .i64 (k + 1 : Nat), .int .i64 0]) ∧ w' = w := by
  have hb : (decide (((val (s.data.toList.take (k + 1)) : Nat) : Int) < 0) || decide (9007199254740991 < ((val (s.data.toList.take (k + 1)) : Nat) : Int))) = false := by simp; omega
  have HB : Hid _ := hb
  have hk0 : (k : Int) < 8 := by omega
  clear hb
  have hsz : (s.size : Int) ≤ 9223372036854775807 := by unfold maxLen at hs; omega
  have hz2 : (k : Int) = 0 ∨ (1 ≤ (k : Int) ∧ ((s[k].toNat : Int) == 0) = false) := by
    rcases Nat.eq_zero_or_pos k with h | h
    · exact Or.inl (by omega)
    · exact Or.inr ⟨by omega, by simp; omega⟩
  have HV : Hid (val (s.data.toList.take (k + 1)) ≤ 9007199254740991) := hv
  have HL : Hid (∀ j : Nat, (hj : j < k) → 128 ≤ s[j].toNat) := hlo
  have HH : Hid (s[k].toNat < 128) := hhi
  have hs' := hs
  clear hz hv hlo hhi
  have hkc : ((k + 1 : Nat) : Int) = (k : Int) + 1 := by omega
  rcases hz2 with hz2 | ⟨hz2, hz3⟩
  all_goals
    go_enter Tryz.func161, Tryz.ntmps161
    go_wp2_with (go_at_call 164; refine (numberSize_yes s _ hs k hk HL.out HH.out).mono ?_; rintro e w' ⟨rfl, rfl⟩)
    go_loop [7, 38] (fun n i => ∃ m : Nat, m ≤ k + 1 ∧ i = .int .i64 m ∧ n = .int .i64 (val (s.data.toList.take m))) (fun _ i => k + 1 - (intOf i).toNat)
    case atStart => exact ⟨0, Nat.zero_le _, rfl, rfl⟩
    case round =>
      obtain ⟨m, hm, rfl, rfl⟩ := hrel
      by_cases hlt : m < k + 1
      · have h2 : m < s.size := by omega
        have hm8 : (m : Int) < 8 := by omega
        have HO : Hid _ := (or_step m (val (s.data.toList.take m)) s[m].toNat (by omega) (by have := val_lt (s.data.toList.take m); simpa [Nat.min_eq_left (Nat.le_of_lt h2)] using this))
        have HT : Hid _ := take_snoc s m h2
        go_wp2
        refine ⟨⟨m + 1, by omega, by go_num, ?_⟩, by simp [intOf]; omega⟩
        rw [HO.out, HT.out, val_snoc]
        congr 4
        simp [Nat.min_eq_left (Nat.le_of_lt h2)]
      · obtain rfl : m = k + 1 := by omega
        go_wp2_with (go_at_call 165; refine (isNoNumber_any _ _).mono ?_; rintro e w' ⟨rfl, rfl⟩; rw [HB.out])
        go_ret3
        exact ⟨by simp [hz2], rfl⟩
end Go.Proofs.YtkmlooepakinfaaGreatDoor

/- What wire's reader does where the text begins with a packed number, or a packed text. -/
namespace Go.Proofs.YtkmlooepakinfaaGreatDoor
open Go.RowKit Go.Shelf

theorem ReadNumber_pk (s : ByteArray) (w : World) (n : Nat) (r : List UInt8) (hs : s.size ≤ maxLen) (hn : n ≤ 9007199254740991) (h : s.data.toList = pk n ++ r) :
    Calls Tryz.prog 161 #[.string s] w fun e w' => e = .returned (.tuple #[.int .i64 n, .int .i64 (pk n).length, .int .i64 0]) ∧ w' = w := by
  obtain ⟨d, c, e, hd, hc, hz, _, _⟩ := pk_form n n (Nat.le_refl _)
  have h8 := pk_len8 n hn
  have hl : (pk n).length = d.length + 1 := by rw [e]; simp
  have hsz := size_of h
  have hk : d.length < s.size := by rw [hsz]; simp; omega
  have hv : val (s.data.toList.take (d.length + 1)) = n := by
    rw [h, ← hl, List.take_left, val_pk n n (Nat.le_refl _)]
  have hat : ∀ j (hj : j < s.size), s[j] = (s.data.toList)[j]'(by rw [h]; rw [hsz] at hj; exact hj) := fun j hj => rfl
  have hl2 : s.data.toList = d ++ (c :: r) := by rw [h, e]; simp
  have hck : s[d.length] = c := by
    rw [hat _ hk]
    rw [List.getElem_of_eq hl2]
    simp
  have := ReadNumber_yes s w hs d.length hk (by omega)
    (fun j hj => by
      rw [hat j (by omega), List.getElem_of_eq hl2, List.getElem_append_left hj]
      exact hd _ (List.getElem_mem _))
    (by rw [hck]; exact hc)
    (by rw [hck]; rcases hz with hz | hz
        · exact Or.inl (by rw [hz]; rfl)
        · exact Or.inr hz)
    (by rw [hv]; exact hn)
  rw [hv] at this
  rw [hl]
  exact this

set_option maxHeartbeats 1000000 in
set_option maxRecDepth 100000 in
theorem rd_number (b : Nat) (s : ByteArray) (w : World) (n : Nat) (r : List UInt8) (hs : s.size ≤ maxLen) (hn : n ≤ 9007199254740991) (h : s.data.toList = pk n ++ r)
    (hc : w.cell? ⟨b, 0, none⟩ = some (.string s)) (hf : w.frozen? ⟨b, 0, none⟩ = false) :
    Calls Tryz.prog 158 #[.pointer (some ⟨b, 0, none⟩)] w fun e w' => e = .returned (.int .i64 n) ∧ ∃ s' : ByteArray, s'.data.toList = r ∧ s'.size ≤ maxLen ∧ w' = w.setCell ⟨b, 0, none⟩ (.string s') := by
  have HE : Hid _ := extract_end s (pk n) r h
  have h1 : ((pk n).length : Int) ≤ (s.size : Int) := by rw [size_of h]; simp; omega
  have H : Hid _ := h
  clear h
  go_enter Tryz.func158, Tryz.ntmps158
  go_wp2_with (go_at_call 161; refine (ReadNumber_pk s _ n r hs hn H.out).mono ?_; rintro e w' ⟨rfl, rfl⟩)
  go_ret
  refine ⟨rfl, ⟨r.toArray⟩, rfl, ?_, by rw [HE.out]⟩
  have e1 := size_of H.out
  have e2 : (⟨r.toArray⟩ : ByteArray).size = r.length := size_of rfl
  rw [e2]
  simp at e1
  omega

/-- The shelf's contract for Clone, laid at this program. -/
def laysC_ren : Ren := ⟨fun | 316 => 166 | n => n, fun | 9 => 9 | 3 => 3 | 4 => 4 | 37 => 131 | 0 => 0 | 127 => 182 | 5 => 5 | n => n, fun | n => n⟩
theorem laysC : Go.Proofs.LaysM.n316 Tryz.prog laysC_ren := {
  mixed := by kernel_rfl
  f316 := Tryz.func166.trans (congrArg some (by kernel_rfl))
  t0 := Tryz.underlying0
  a0 := Tryz.isAgg0
  z0 := Tryz.sizeOf0
  v0 := Tryz.zeroValue0
  t3 := Tryz.underlying3
  a3 := Tryz.isAgg3
  z3 := Tryz.sizeOf3
  v3 := Tryz.zeroValue3
  t4 := Tryz.underlying4
  a4 := Tryz.isAgg4
  z4 := Tryz.sizeOf4
  v4 := Tryz.zeroValue4
  t9 := Tryz.underlying9
  a9 := Tryz.isAgg9
  z9 := Tryz.sizeOf9
  v9 := Tryz.zeroValue9
  t37 := Tryz.underlying131
  a37 := Tryz.isAgg131
  z37 := Tryz.sizeOf131
  v37 := Tryz.zeroValue131
  t127 := Tryz.underlying182
  a127 := Tryz.isAgg182
  z127 := Tryz.sizeOf182
  v127 := Tryz.zeroValue182
  t5 := Tryz.underlying5
  a5 := Tryz.isAgg5
  z5 := Tryz.sizeOf5
  v5 := Tryz.zeroValue5
  i0 := by kernel_rfl
  i3 := by kernel_rfl
  i4 := by kernel_rfl
  i5 := by kernel_rfl
  i9 := by kernel_rfl
  i37 := by kernel_rfl
  i127 := by kernel_rfl }
theorem cloneLite (s : ByteArray) (w : World) (hlim : s.size ≤ 281474976710656) :
    Calls Tryz.prog 166 #[.string s] w fun e w' => e = .returned (.string s) ∧ Below w.heap.size w w' := Any.stringslite_Clone laysC s w hlim
theorem clone_any (s : ByteArray) (w : World) (hlim : s.size ≤ 281474976710656) :
    Calls Tryz.prog 162 #[.string s] w fun e w' => e = .returned (.string s) ∧ Below w.heap.size w w' := by
  go_enter Tryz.func162, Tryz.ntmps162
  go_wp2_with (go_at_call 166; refine (cloneLite s _ hlim).mono ?_; rintro e w' ⟨rfl, hb⟩)
  go_ret
  exact ⟨rfl, hb⟩

theorem grownBy_refl (w : World) (row : Option Nat) : w.grownBy w row := ⟨rfl, rfl, rfl, Nat.le_refl _, fun _ _ _ => rfl⟩
theorem grownBy_trans {a b c : World} {row : Option Nat} (h : a.grownBy b row) (k : b.grownBy c row) : a.grownBy c row :=
  ⟨k.os.trans h.os, k.tape.trans h.tape, k.output.trans h.output, Nat.le_trans h.size k.size, fun i hi hr => (k.block i (Nat.lt_of_lt_of_le hi h.size) hr).trans (h.block i hi hr)⟩
theorem grownBy_set (w : World) (b o : Nat) (v : Value) : w.grownBy (w.setCell ⟨b, o, none⟩ v) (some b) := by
  have h := (Below.refl 0 w).setCell (p := ⟨b, o, none⟩) (Nat.zero_le _) v
  exact ⟨h.os, h.tape, h.output, h.size, fun k _ hr => Below.heap_setCell w ⟨b, o, none⟩ v k (fun e => hr (by rw [e]))⟩
theorem grownBy_below {w w' : World} {row : Option Nat} (h : Below w.heap.size w w') : w.grownBy w' row := ⟨h.os, h.tape, h.output, h.size, fun k hk _ => h.block k hk⟩

set_option maxHeartbeats 1000000 in
set_option maxRecDepth 100000 in
theorem rd_text (b : Nat) (s : ByteArray) (w : World) (t r : List UInt8) (hs : s.size ≤ maxLen) (hn : t.length ≤ 281474976710656) (h : s.data.toList = pk t.length ++ (t ++ r))
    (hc : w.cell? ⟨b, 0, none⟩ = some (.string s)) (hf : w.frozen? ⟨b, 0, none⟩ = false) :
    Calls Tryz.prog 159 #[.pointer (some ⟨b, 0, none⟩)] w fun e w' => e = .returned (.string ⟨t.toArray⟩) ∧ (∃ s' : ByteArray, s'.data.toList = r ∧ s'.size ≤ maxLen ∧ w'.cell? ⟨b, 0, none⟩ = some (.string s')) ∧ w'.frozen? ⟨b, 0, none⟩ = false ∧ w.grownBy w' (some b) := by
  have hbl : b < w.heap.size := World.block_lt_of_cell? w ⟨b, 0, none⟩ hc
  go_enter Tryz.func159, Tryz.ntmps159
  go_wp2_with fail
  refine (rd_number b s _ t.length (t ++ r) hs (by omega) h hc hf).mono ?_
  rintro e w1 ⟨rfl, s1, h1, hs1, rfl⟩
  have hz := size_of h1
  have hle : (t.length : Int) ≤ (s1.size : Int) := by rw [hz]; simp; omega
  have HM : Hid _ := extract_mid s1 t r h1
  have HE : Hid _ := extract_end s1 t r h1
  clear h hz h1 hs
  go_wp2_with fail
  rw [HM.out]
  have hsz2 : (w.setCell ⟨b, 0, none⟩ (.string s1)).heap.size = w.heap.size := by simp
  refine (clone_any ⟨t.toArray⟩ _ (by rw [show (⟨t.toArray⟩ : ByteArray).size = t.length from size_of rfl]; exact hn)).mono ?_
  rintro e w2 ⟨rfl, hb2⟩
  have hc2 : w2.cell? ⟨b, 0, none⟩ = some (.string s1) := by
    rw [hb2.cell (p := ⟨b, 0, none⟩) (by rw [hsz2]; exact hbl)]
    exact World.cell?_setCell_same' _ _ _ (by rw [hc]; rfl)
  have hf2 : w2.frozen? ⟨b, 0, none⟩ = false := by
    rw [hb2.frozen (p := ⟨b, 0, none⟩) (by rw [hsz2]; exact hbl)]
    simp [hf]
  have HB : Hid _ := hb2
  have HS : Hid _ := hsz2
  clear hb2 hsz2 hc hf HM
  go_wp2
  go_ret
  refine ⟨rfl, ⟨s1.extract t.length s1.size, by rw [HE.out], ?_, ?_⟩, ?_, ?_⟩
  · simp; omega
  · exact World.cell?_setCell_same' _ _ _ (by rw [hc2]; rfl)
  · simp [hf2]
  · exact grownBy_trans (grownBy_trans (grownBy_set w b 0 _) (grownBy_below HB.out)) (grownBy_set w2 b 0 _)
end Go.Proofs.YtkmlooepakinfaaGreatDoor

/- What wire's readList does where the text begins with a packed list of texts. -/
namespace Go.Proofs.YtkmlooepakinfaaGreatDoor
open Go.RowKit Go.Shelf

def pkAll : List (List UInt8) → List UInt8
  | [] => []
  | t :: l => pk t.length ++ (t ++ pkAll l)
def strs (l : List (List UInt8)) : List Value := l.map fun t => .string ⟨t.toArray⟩
theorem infS : (Tryz.prog.info? 9).map (fun i => (i.zero, i.size, i.bytes)) = some (some (.string ⟨#[]⟩), 1, 16) := by kernel_rfl
end Go.Proofs.YtkmlooepakinfaaGreatDoor

/- What textsError answers: whether there are too many texts, or one is too long. -/
namespace Go.Proofs.YtkmlooepakinfaaGreatDoor
open Go.RowKit Go.Shelf
end Go.Proofs.YtkmlooepakinfaaGreatDoor

/- What ReadTexts answers at a packed list of texts. -/
namespace Go.Proofs.YtkmlooepakinfaaGreatDoor
open Go.RowKit Go.Shelf

theorem own_shape {w : World} {base : Nat} {e : TypeId} {size : Nat} {v : Value} {n : Nat} {xs : List Value} (h : w.ownsRow base e size v n xs) : ∃ a cap, v = .slice a n cap := by
  rcases h.2 with ⟨h1, h2⟩ | ⟨g, cap, cur, hv, _⟩
  · exact ⟨none, 0, by rw [h1, h2]⟩
  · exact ⟨_, _, hv⟩
theorem own_mono {w : World} {base base' : Nat} {e : TypeId} {size : Nat} {v : Value} {n : Nat} {xs : List Value} (h : w.ownsRow base e size v n xs) (hb : base' ≤ base) : w.ownsRow base' e size v n xs := by
  refine ⟨h.1, ?_⟩
  rcases h.2 with h2 | ⟨g, cap, cur, hv, hg, r⟩
  · exact Or.inl h2
  · exact Or.inr ⟨g, cap, cur, hv, Nat.le_trans hb hg, r⟩
theorem addr_add (g o j : Nat) : (⟨g, o, none⟩ : Addr).add j = ⟨g, o + j, none⟩ := by
  unfold Addr.add
  split <;> simp_all
end Go.Proofs.YtkmlooepakinfaaGreatDoor

/- What the document's own SameTexts answers; texts that are read as a slice. -/
namespace Go.Proofs.YtkmlooepakinfaaGreatDoor
open Go.RowKit Go.Shelf

/-- A value that is a slice of these texts. -/
def IsTexts (w : World) (v : Value) (ss : List ByteArray) : Prop :=
  ss.length ≤ 4611686018427387904 ∧ ∃ a cap, v = .slice a ss.length cap ∧ (ss = [] ∨ ∃ g o, a = some ⟨g, o, none⟩ ∧ ∀ j (hj : j < ss.length), w.cell? ⟨g, o + j, none⟩ = some (.string ss[j]))

theorem own_texts {w : World} {base : Nat} {v : Value} {l : List (List UInt8)} (h : w.ownsRow base 9 1 v l.length (strs l)) (hl : l.length ≤ 4611686018427387904) : IsTexts w v (l.map fun t => ⟨t.toArray⟩) := by
  refine ⟨by simpa using hl, ?_⟩
  have hcells := fun (g : Nat) (hg : v.ownBlock = some g) => h.cells hg
  rcases h.2 with ⟨h1, h2⟩ | ⟨g, cap, cur, hv, _⟩
  · exact ⟨none, 0, by rw [h1]; simp [h2], Or.inl (by rw [List.length_eq_zero_iff.1 h2]; rfl)⟩
  · refine ⟨some ⟨g, 0, none⟩, cap, by simpa using hv, Or.inr ⟨g, 0, rfl, fun j hj => ?_⟩⟩
    have hj' : j < l.length := by simpa using hj
    have := hcells g (by rw [hv]; rfl) j (.string (l.map fun t => (⟨t.toArray⟩ : ByteArray))[j]) (by simp [strs, List.getElem?_map, List.getElem?_eq_getElem hj'])
    rw [show (⟨g, 0, none⟩ : Addr).add j = ⟨g, 0 + j, none⟩ from addr_add g 0 j] at this
    exact this
end Go.Proofs.YtkmlooepakinfaaGreatDoor

/- What IsName answers, the program's and the document's own. -/
namespace Go.Proofs.YtkmlooepakinfaaGreatDoor
open Go.RowKit Go.Shelf

def nmB (c : Int) : Bool := decide (97 ≤ c ∧ c ≤ 122) || decide (48 ≤ c ∧ c ≤ 57) || (c == 95) || (c == 45) || (c == 46)

set_option maxHeartbeats 2000000 in
theorem isNameByte_any (c : Int) (w : World) (h0 : 0 ≤ c) (h1 : c < 256) :
    Calls Tryz.prog 68 #[.int .u8 c] w fun e w' => e = .returned (.bool (nmB c)) ∧ w' = w := by
  by_cases a1 : 97 ≤ c
  · by_cases a2 : c ≤ 122
    · go_enter Tryz.func68, Tryz.ntmps68
      go_wp2
      go_ret
      exact ⟨by simp [nmB, a1, a2], rfl⟩
    · have e1 : (c == 95) = false := by simp; omega
      have e2 : (c == 45) = false := by simp; omega
      have e3 : (c == 46) = false := by simp; omega
      have d1 : decide (c ≤ 57) = false := by simp; omega
      have d2 : decide (c ≤ 122) = false := by simp; omega
      have HF : Hid (nmB c = false) := by show _ = _; simp [nmB, e1, e2, e3]; omega
      clear a2
      go_enter Tryz.func68, Tryz.ntmps68
      go_wp2
      go_ret
      exact ⟨by rw [HF.out]; rfl, rfl⟩
  · by_cases a2 : 48 ≤ c ∧ c ≤ 57
    · obtain ⟨a2, a3⟩ := a2
      go_enter Tryz.func68, Tryz.ntmps68
      go_wp2
      go_ret
      exact ⟨by simp [nmB, a2, a3], rfl⟩
    · by_cases b1 : c = 95
      · subst b1
        go_enter Tryz.func68, Tryz.ntmps68
        go_wp2
        go_ret
        exact ⟨by rw [show nmB 95 = true from by decide]; rfl, rfl⟩
      · by_cases b2 : c = 45
        · subst b2
          go_enter Tryz.func68, Tryz.ntmps68
          go_wp2
          go_ret
          exact ⟨by rw [show nmB 45 = true from by decide]; rfl, rfl⟩
        · by_cases b3 : c = 46
          · subst b3
            go_enter Tryz.func68, Tryz.ntmps68
            go_wp2
            go_ret
            exact ⟨by rw [show nmB 46 = true from by decide]; rfl, rfl⟩
          · have e1 : (c == 95) = false := by simpa using b1
            have e2 : (c == 45) = false := by simpa using b2
            have e3 : (c == 46) = false := by simpa using b3
            have hf : nmB c = false := by simp [nmB, e1, e2, e3]; omega
            have HF : Hid _ := hf
            clear hf b1 b2 b3
            rcases Int.lt_or_le c 48 with a3 | a3
            · clear a2
              go_enter Tryz.func68, Tryz.ntmps68
              go_wp2
              go_ret
              exact ⟨by rw [HF.out]; rfl, rfl⟩
            · have a4 : decide (c ≤ 57) = false := by simp; omega
              clear a2
              go_enter Tryz.func68, Tryz.ntmps68
              go_wp2
              go_ret
              exact ⟨by rw [HF.out]; rfl, rfl⟩

def nameOk (s : ByteArray) : Bool := !(s.toList == []) && decide (s.size ≤ 20) && !(s.toList == [46]) && !(s.toList == [46, 46]) && (s.toList.all fun c => nmB c.toNat)

theorem toList_get (s : ByteArray) (k : Nat) (h : k < s.size) : s.toList[k]? = some s[k] := by
  rw [Lib.toList_data]
  have : k < s.data.toList.length := by rw [← size_of (s := s) rfl]; exact h
  rw [List.getElem?_eq_getElem this]
  rfl
theorem all_false (s : ByteArray) (k : Nat) (h : k < s.size) (f : UInt8 → Bool) (hf : f s[k] = false) : s.toList.all f = false := by
  rw [List.all_eq_false]
  exact ⟨s[k], List.mem_of_getElem? (toList_get s k h), by simp [hf]⟩
theorem all_true (s : ByteArray) (f : UInt8 → Bool) (hf : ∀ j (hj : j < s.size), f s[j] = true) : s.toList.all f = true := by
  rw [List.all_eq_true]
  intro c hc
  obtain ⟨j, hj, rfl⟩ := List.getElem_of_mem hc
  have hj' : j < s.size := by rw [Lib.toList_data] at hj; rw [size_of (s := s) rfl]; exact hj
  have := toList_get s j hj'
  rw [List.getElem?_eq_getElem hj] at this
  rw [Option.some.inj this]
  exact hf j hj'

set_option maxHeartbeats 1000000 in
set_option maxRecDepth 100000 in
theorem IsName_any (s : ByteArray) (w : World) (hs : s.size ≤ maxLen) :
    Calls Tryz.prog 43 #[.string s] w fun e w' => e = .returned (.bool (nameOk s)) ∧ w' = w := by
  have hsz : (s.size : Int) ≤ 9223372036854775807 := by unfold maxLen at hs; omega
  clear hs
  by_cases h1 : s.toList.isEmpty = true
  · have HF : Hid (nameOk s = false) := by show _ = _; rw [List.isEmpty_iff] at h1; simp [nameOk, h1]
    go_enter Tryz.func43, Tryz.ntmps43
    go_wp2
    go_ret
    exact ⟨by rw [HF.out]; rfl, rfl⟩
  have h1' : s.toList.isEmpty = false := by simpa using h1
  have h1n : (s.toList == []) = false := by cases h : s.toList <;> simp_all
  have H1 : Hid _ := h1n
  clear h1 h1n
  by_cases h2 : 20 < s.size
  · have h2' : (20 : Int) < s.size := by omega
    have HF : Hid (nameOk s = false) := by show _ = _; simp [nameOk, Nat.not_le.2 h2]
    clear h2
    go_enter Tryz.func43, Tryz.ntmps43
    go_wp2
    go_ret
    exact ⟨by rw [HF.out]; rfl, rfl⟩
  have h2' : (s.size : Int) ≤ 20 := by omega
  have H2 : Hid (s.size ≤ 20) := Nat.le_of_not_lt h2
  clear h2
  by_cases h3 : (s.toList == [46]) = true
  · have HF : Hid (nameOk s = false) := by show _ = _; simp [nameOk, h3]
    go_enter Tryz.func43, Tryz.ntmps43
    go_wp2
    go_ret
    exact ⟨by rw [HF.out]; rfl, rfl⟩
  have h3' : (s.toList == [46]) = false := by simpa using h3
  clear h3
  by_cases h4 : (s.toList == [46, 46]) = true
  · have HF : Hid (nameOk s = false) := by show _ = _; simp [nameOk, h4]
    go_enter Tryz.func43, Tryz.ntmps43
    go_wp2
    go_ret
    exact ⟨by rw [HF.out]; rfl, rfl⟩
  have h4' : (s.toList == [46, 46]) = false := by simpa using h4
  clear h4
  have HN : Hid (nameOk s = s.toList.all fun c => nmB c.toNat) := by show _ = _; simp only [nameOk, H1.out, h3', h4', H2.out]; simp
  go_enter Tryz.func43, Tryz.ntmps43
  go_wp2
  go_loop [21] (fun i => ∃ k : Nat, k ≤ s.size ∧ i = .int .i64 k ∧ ∀ j (hj : j < s.size), j < k → nmB s[j].toNat = true) (fun i => s.size - (intOf i).toNat)
  case atStart => exact ⟨0, Nat.zero_le _, rfl, by omega⟩
  case round =>
    obtain ⟨k, hk, rfl, hlo⟩ := hrel
    have HL : Hid _ := hlo
    clear hlo
    by_cases hlt : k < s.size
    · by_cases hb : nmB s[k].toNat = true
      · go_wp2_with (go_at_call 68; refine (isNameByte_any _ _ (by omega) (by have := s[k].toNat_lt; omega)).mono ?_; rintro e w' ⟨rfl, rfl⟩; rw [hb])
        refine ⟨⟨k + 1, by omega, by go_num, fun j hj hjk => ?_⟩, by simp [intOf]; omega⟩
        by_cases h : j < k
        · exact HL.out j hj h
        · obtain rfl : j = k := by omega
          exact hb
      · have hb' : nmB s[k].toNat = false := by simpa using hb
        clear hb
        have HF : Hid (nameOk s = false) := by show _ = _; rw [HN.out]; exact all_false s k hlt _ hb'
        go_wp2_with (go_at_call 68; refine (isNameByte_any _ _ (by omega) (by have := s[k].toNat_lt; omega)).mono ?_; rintro e w' ⟨rfl, rfl⟩; rw [hb'])
        go_ret
        exact ⟨by rw [HF.out]; rfl, rfl⟩
    · have HF : Hid (nameOk s = true) := by show _ = _; rw [HN.out]; exact all_true s _ (fun j hj => HL.out j hj (by omega))
      go_wp2
      go_ret
      exact ⟨by rw [HF.out]; rfl, rfl⟩
end Go.Proofs.YtkmlooepakinfaaGreatDoor

/- Parts between slashes: as the library splits a text, and as one reads byte by byte. -/
namespace Go.Proofs.YtkmlooepakinfaaGreatDoor
open Go.RowKit Go.Shelf

/-- The parts of a text between slashes, behind cur. -/
def parts : List UInt8 → List UInt8 → List (List UInt8)
  | cur, [] => [cur]
  | cur, c :: l => if c = 47 then cur :: parts [] l else parts (cur ++ [c]) l

theorem parts_ne (l : List UInt8) : ∀ cur, parts cur l ≠ [] := by
  induction l with
  | nil => intro cur h; cases h
  | cons c l ih =>
    intro cur
    unfold parts
    by_cases h : c = 47
    · rw [if_pos h]; intro h'; cases h'
    · rw [if_neg h]; exact ih _
theorem parts_slash (l : List UInt8) : ∀ cur, parts cur (l ++ [47]) = parts cur l ++ [[]] := by
  induction l with
  | nil => intro cur; rfl
  | cons c l ih =>
    intro cur
    rw [List.cons_append]
    unfold parts
    by_cases h : c = 47
    · rw [if_pos h, if_pos h, ih]; rfl
    · rw [if_neg h, if_neg h, ih]
theorem parts_snoc (l : List UInt8) (c : UInt8) (hc : c ≠ 47) : ∀ cur, ∃ ps p, parts cur l = ps ++ [p] ∧ parts cur (l ++ [c]) = ps ++ [p ++ [c]] := by
  induction l with
  | nil => intro cur; exact ⟨[], cur, rfl, by show (if c = 47 then _ else _) = _; rw [if_neg hc]; rfl⟩
  | cons b l ih =>
    intro cur
    rw [List.cons_append]
    unfold parts
    by_cases h : b = 47
    · rw [if_pos h, if_pos h]
      obtain ⟨ps, p, e1, e2⟩ := ih []
      exact ⟨cur :: ps, p, by rw [e1]; rfl, by rw [e2]; rfl⟩
    · rw [if_neg h, if_neg h]
      exact ih _
theorem parts_len (l : List UInt8) : ∀ cur, (parts cur l).length ≤ l.length + 1 := by
  induction l with
  | nil => intro cur; exact Nat.le_refl _
  | cons c l ih =>
    intro cur
    unfold parts
    by_cases h : c = 47
    · rw [if_pos h]; have := ih []; simp only [List.length_cons]; omega
    · rw [if_neg h]; have := ih (cur ++ [c]); simp only [List.length_cons]; omega
theorem parts_mem (l : List UInt8) : ∀ cur, ∀ p ∈ parts cur l, p.length ≤ cur.length + l.length := by
  induction l with
  | nil => intro cur p hp; obtain rfl := List.mem_singleton.1 hp; simp
  | cons c l ih =>
    intro cur p hp
    unfold parts at hp
    by_cases h : c = 47
    · rw [if_pos h] at hp
      rcases List.mem_cons.1 hp with rfl | hp
      · simp
      · have := ih [] p hp; simp only [List.length_cons, List.length_nil] at *; omega
    · rw [if_neg h] at hp
      have := ih _ p hp
      simp only [List.length_append, List.length_cons, List.length_nil] at *
      omega

theorem parts_miss (s : List UInt8) : ∀ cur, Lib.indexByte s 47 = -1 → parts cur s = [cur ++ s] := by
  induction s with
  | nil => intro cur _; simp [parts]
  | cons b l ih =>
    intro cur h
    unfold Lib.indexByte at h
    by_cases hb : b = 47
    · rw [hb] at h; simp at h
    · have hb' : (b == 47) = false := beq_eq_false_iff_ne.2 hb
      rw [hb'] at h
      unfold parts
      rw [if_neg hb]
      have hl : Lib.indexByte l 47 = -1 := by
        by_cases h1 : Lib.indexByte l 47 = -1
        · exact h1
        · have := Lib.indexByte_ge l 47
          simp [h1] at h
          omega
      rw [ih _ hl]
      simp
theorem parts_hit (s : List UInt8) : ∀ cur (i : Nat), Lib.indexByte s 47 = i → parts cur s = (cur ++ s.take i) :: parts [] (s.drop (i + 1)) := by
  induction s with
  | nil => intro cur i h; simp [Lib.indexByte] at h
  | cons b l ih =>
    intro cur i h
    unfold Lib.indexByte at h
    by_cases hb : b = 47
    · subst hb
      simp at h
      obtain rfl : i = 0 := by omega
      simp [parts]
    · have hb' : (b == 47) = false := beq_eq_false_iff_ne.2 hb
      rw [hb'] at h
      show (if b = 47 then cur :: parts [] l else parts (cur ++ [b]) l) = _
      rw [if_neg hb]
      have hge := Lib.indexByte_ge l 47
      by_cases h1 : Lib.indexByte l 47 = -1
      · simp [h1] at h
      · simp [h1] at h
        obtain ⟨k, rfl⟩ : ∃ k, i = k + 1 := ⟨i - 1, by omega⟩
        rw [ih (cur ++ [b]) k (by omega)]
        simp

theorem split_parts : ∀ (n : Nat) (s : List UInt8), s.length ≤ n → Lib.splitK [47] 0 (Lib.count s [47]) s = parts [] s := by
  intro n
  induction n with
  | zero =>
    intro s hs
    obtain rfl : s = [] := List.length_eq_zero_iff.1 (by omega)
    rfl
  | succ n ih =>
    intro s hs
    by_cases h : Lib.index s [47] = -1
    · rw [Lib.count_miss h, parts_miss s [] (by rw [← Lib.index_one]; exact h)]
      rfl
    · have hge := Lib.index_ge s [47]
      obtain ⟨i, hi⟩ : ∃ i : Nat, Lib.index s [47] = i := ⟨(Lib.index s [47]).toNat, by omega⟩
      have hm : ¬ (Lib.index s [47] == -1) = true := fun e => h (beq_iff_eq.1 e)
      have hr := Lib.index_room s [47] (by omega)
      rw [Lib.count_hit (by simp) hi, Nat.add_comm, Lib.splitK, if_neg hm, hi]
      have e : ((i : Int)).toNat = i := by omega
      rw [e, parts_hit s [] i (by rw [← Lib.index_one]; exact hi)]
      rw [hi] at hr
      have hd : (s.drop (i + 1)).length ≤ n := by rw [List.length_drop]; simp at hr; omega
      rw [show ([47] : List UInt8).length = 1 from rfl, ih _ hd]
      simp

abbrev slash : ByteArray := ⟨#[47]⟩
def piecesB (s : ByteArray) : List ByteArray := (parts [] s.data.toList).map fun p => ⟨p.toArray⟩
theorem splitB_pieces (s : ByteArray) : Lib.splitB slash 0 (Lib.countB s slash) s = piecesB s := by
  have h := Lib.splitB_data slash 0 (Lib.countB s slash) s
  have h2 : Lib.splitK slash.data.toList 0 (Lib.countB s slash) s.data.toList = parts [] s.data.toList := split_parts _ _ (Nat.le_refl _)
  rw [h2] at h
  unfold piecesB
  rw [← h, List.map_map]
  conv => lhs; rw [← List.map_id (Lib.splitB slash 0 (Lib.countB s slash) s)]
  exact List.map_congr_left fun x _ => rfl
def pathOk (s : ByteArray) : Bool := decide (s.size ≤ 100) && (piecesB s).all nameOk
end Go.Proofs.YtkmlooepakinfaaGreatDoor

/- What the document's own IsName answers. -/
namespace Go.Proofs.YtkmlooepakinfaaGreatDoor
open Go.RowKit Go.Shelf

theorem nm_cls (c : Int) (h : nmB c = true) : (97 ≤ c ∧ c ≤ 122) ∨ (c < 97 ∧ 48 ≤ c ∧ c ≤ 57) ∨ c = 95 ∨ c = 45 ∨ c = 46 := by
  simp [nmB] at h
  omega
theorem nm_cls_no (c : Int) (h : nmB c = false) : ((c == 95) = false ∧ (c == 45) = false ∧ (c == 46) = false) ∧ (c < 48 ∨ (48 ≤ c ∧ decide (c ≤ 57) = false ∧ c < 97) ∨ (97 ≤ c ∧ decide (c ≤ 122) = false ∧ decide (c ≤ 57) = false)) := by
  simp [nmB] at h ⊢
  omega

theorem name_cls (s : ByteArray) : (s.size = 0 ∧ (s.toList.all (fun c => nmB c.toNat) = true → nameOk s = false)) ∨
    (1 ≤ (s.size : Int) ∧ decide ((s.size : Int) ≤ 20) = false ∧ (s.toList.all (fun c => nmB c.toNat) = true → nameOk s = false)) ∨
    (1 ≤ (s.size : Int) ∧ (s.size : Int) ≤ 20 ∧ (s.toList == [46]) = true ∧ (s.toList.all (fun c => nmB c.toNat) = true → nameOk s = false)) ∨
    (1 ≤ (s.size : Int) ∧ (s.size : Int) ≤ 20 ∧ (s.toList == [46]) = false ∧ (s.toList == [46, 46]) = true ∧ (s.toList.all (fun c => nmB c.toNat) = true → nameOk s = false)) ∨
    (1 ≤ (s.size : Int) ∧ (s.size : Int) ≤ 20 ∧ (s.toList == [46]) = false ∧ (s.toList == [46, 46]) = false ∧ (s.toList.all (fun c => nmB c.toNat) = true → nameOk s = true)) := by
  have hl : s.toList.length = s.size := by rw [Lib.toList_data]; exact (size_of (s := s) rfl).symm
  by_cases h0 : s.size = 0
  · refine Or.inl ⟨h0, fun _ => ?_⟩
    have : s.toList = [] := List.length_eq_zero_iff.1 (by omega)
    simp [nameOk, this]
  have h1 : (s.toList == []) = false := by
    rw [beq_eq_false_iff_ne]
    intro h
    rw [h] at hl
    simp at hl
    omega
  refine Or.inr ?_
  by_cases h2 : s.size ≤ 20
  · refine Or.inr ?_
    by_cases h3 : (s.toList == [46]) = true
    · exact Or.inl ⟨by omega, by omega, h3, fun _ => by simp [nameOk, h3]⟩
    have h3' : (s.toList == [46]) = false := by simpa using h3
    refine Or.inr ?_
    by_cases h4 : (s.toList == [46, 46]) = true
    · exact Or.inl ⟨by omega, by omega, h3', h4, fun _ => by simp [nameOk, h4]⟩
    have h4' : (s.toList == [46, 46]) = false := by simpa using h4
    exact Or.inr ⟨by omega, by omega, h3', h4', fun h => by simp only [nameOk, h1, h3', h4', h, h2]; simp⟩
  · exact Or.inl ⟨by omega, by simp; omega, fun _ => by simp [nameOk, h2]⟩
end Go.Proofs.YtkmlooepakinfaaGreatDoor

/- What the document's own PackNumber answers. -/
namespace Go.Proofs.YtkmlooepakinfaaGreatDoor
open Go.RowKit Go.Shelf

theorem conv1 (g : Nat) (c : Int) (W : World) (h : W.cell? ⟨g, 0, none⟩ = some (.int .u8 c)) : (convert 131 9 (.slice (some ⟨g, 0, none⟩) 1 1)).run Tryz.prog W = .ok (.string ⟨#[UInt8.ofNat c.toNat]⟩) W := by
  rw [run_convert_bytes_string W 131 9 5 _ _ _ Tryz.underlying131 Tryz.underlying5 Tryz.underlying9]
  rw [run_bytesToString W ⟨g, 0, none⟩ 1 1 [c] (by simp [go_sem, loadCells, h])]
  rfl
end Go.Proofs.YtkmlooepakinfaaGreatDoor

/- What wire's packer does with texts, and Texts. -/
namespace Go.Proofs.YtkmlooepakinfaaGreatDoor
open Go.RowKit Go.Shelf

set_option maxHeartbeats 2000000 in
set_option maxRecDepth 100000 in
theorem ws_any (B b : Nat) (bs : List Value) (s : ByteArray) (w : World) (h : PkIs B b bs w) (hlen : bs.length + s.size ≤ 140737488355328) (hBw : B ≤ w.heap.size) :
    Calls Tryz.prog 157 #[.pointer (some ⟨b, 0, none⟩), .string s] w fun e w' => e = .returned (.tuple #[.int .i64 s.size, .nilIface]) ∧ (PkAt B b (.pointer (some ⟨b, 0, none⟩)) (bs ++ Lib.strCells s) w' ∧ Kp B b w w') := by
  obtain ⟨i0, hi, hz0, hz1, hz2⟩ := info_parts infB
  go_enter Tryz.func157, Tryz.ntmps157
  go_wp2_with (go_at_call 160; refine (cc_any B b bs _ h).mono ?_)
  rintro e w1 ⟨rfl, h1, hb1, hk1⟩
  obtain ⟨hB, v, hbk, hown, hne⟩ := h1
  have c0 : w1.cell? ⟨b, 0, none⟩ = some (.pointer (some ⟨b, 0, none⟩)) := by rw [Lib.cell_of_heap hbk]; rfl
  have c1 : w1.cell? ⟨b, 1, none⟩ = some v := by rw [Lib.cell_of_heap hbk]; rfl
  go_wp2_with (at_builtin; refine Lib.wpList_append_own_string _ rfl _ _ 131 9 rfl B 5 i0 Tryz.underlying131 Tryz.underlying9 hi hz0 hz1 hz2 _ _ _ rfl hown s rfl ?c3 ?c4 ?c5 ?_)
  case c3 => unfold maxLen; omega
  case c4 => omega
  case c5 => have := hb1.size; omega
  intro v' w2 hown' hgrow _
  have hlt : b < w1.heap.size := by
    rcases Nat.lt_or_ge b w1.heap.size with h' | h'
    · exact h'
    · simp [Array.getElem?_eq_none h'] at hbk
  have hb2 : w2.heap[b]? = some (.cells #[.pointer (some ⟨b, 0, none⟩), v] 160 (0, 0)) := by
    rw [hgrow.block b hlt (fun e => hne e.symm)]
    exact hbk
  have d0 : w2.cell? ⟨b, 0, none⟩ = some (.pointer (some ⟨b, 0, none⟩)) := by rw [Lib.cell_of_heap hb2]; rfl
  have d1 : w2.cell? ⟨b, 1, none⟩ = some v := by rw [Lib.cell_of_heap hb2]; rfl
  have f1 : w2.frozen? ⟨b, 1, none⟩ = false := Lib.frozen_of_heap hb2 1
  obtain ⟨ao, n', cap, rfl⟩ : ∃ ao n' cap, v' = .slice ao n' cap := by
    rcases hown'.2 with ⟨hv, _⟩ | ⟨g, cap, cur, hv, _⟩
    · exact ⟨_, _, _, hv⟩
    · exact ⟨_, _, _, hv⟩
  go_wp2
  go_ret2
  refine ⟨rfl, ?_, ?_, (hk1.grown hgrow (own_kind hown)).setCell ⟨b, 1, none⟩ rfl _⟩
  · exact Lib.BuilderAt.put (T := 160) (e := 5) hB hb2 (bs' := bs ++ Lib.strCells s) (by simpa [Lib.strCells_length] using hown') (by decide)
  · exact (hb1.grown hgrow (by have := hb1.size; omega) (fun k hk => (hown.lt k hk).1)).setCell (p := ⟨b, 1, none⟩) hB _

def pkT (s : ByteArray) : List UInt8 := pk s.size ++ s.data.toList
def pkSS : List ByteArray → List UInt8
  | [] => []
  | s :: l => pkT s ++ pkSS l
theorem pkSS_append (l m : List ByteArray) : pkSS (l ++ m) = pkSS l ++ pkSS m := by
  induction l with
  | nil => rfl
  | cons s l ih => simp only [List.cons_append, pkSS, ih, List.append_assoc]
theorem pkSS_all (l : List (List UInt8)) : pkSS (l.map fun t => ⟨t.toArray⟩) = pkAll l := by
  induction l with
  | nil => rfl
  | cons t l ih =>
    simp only [List.map_cons, pkSS, pkAll, ih, pkT]
    rw [show (⟨t.toArray⟩ : ByteArray).size = t.length from size_of rfl]
    simp
theorem byteCells_app (a b : List UInt8) : Lib.byteCells (a ++ b) = Lib.byteCells a ++ Lib.byteCells b := by simp [Lib.byteCells]

set_option maxHeartbeats 1000000 in
set_option maxRecDepth 100000 in
theorem pk_text (B b : Nat) (bs : List Value) (s : ByteArray) (w : World) (h : PkIs B b bs w) (hs : s.size ≤ 9007199254740991) (hlen : bs.length + (pkT s).length ≤ 140737488355328) (hBw : B ≤ w.heap.size) :
    Calls Tryz.prog 146 #[.pointer (some ⟨b, 0, none⟩), .string s] w fun e w' => e = .returned (.tuple #[]) ∧ (PkIs B b (bs ++ Lib.byteCells (pkT s)) w' ∧ Kp B b w w') := by
  have hl : (pkT s).length = (pk s.size).length + s.size := by unfold pkT; rw [List.length_append, size_of (s := s) rfl]
  go_enter Tryz.func146, Tryz.ntmps146
  go_wp2_with fail
  refine (number_any B b s.size bs w h hs (by omega) hBw).mono ?_
  rintro e w1 ⟨rfl, h1, hb1⟩
  go_wp2_with fail
  refine (ws_any B b _ s w1 h1 (by simp [Lib.byteCells]; omega) (Nat.le_trans hBw hb1.size)).mono ?_
  rintro e w2 ⟨rfl, h2, hb2⟩
  go_wp2
  go_end0
  refine ⟨rfl, ?_, hb1.trans hb2⟩
  unfold pkT
  rw [byteCells_app, ← List.append_assoc]
  exact Or.inr h2
end Go.Proofs.YtkmlooepakinfaaGreatDoor

/- What Texts answers, errors too. -/
namespace Go.Proofs.YtkmlooepakinfaaGreatDoor
open Go.RowKit Go.Shelf

/-- A slice of these texts that lies in old memory, below block B. -/
def OldTexts (B : Nat) (w : World) (v : Value) (ss : List ByteArray) : Prop :=
  ∃ a cap, v = .slice a ss.length cap ∧ (ss = [] ∨ ∃ g o, a = some ⟨g, o, none⟩ ∧ g < B ∧ ∀ j (hj : j < ss.length), w.cell? ⟨g, o + j, none⟩ = some (.string ss[j]))
theorem old_of (w : World) (v : Value) (ss : List ByteArray) (h : IsTexts w v ss) : OldTexts w.heap.size w v ss := by
  obtain ⟨_, a, cap, rfl, hs⟩ := h
  refine ⟨a, cap, rfl, ?_⟩
  rcases hs with rfl | ⟨g, o, rfl, hc⟩
  · exact Or.inl rfl
  by_cases h0 : ss.length = 0
  · exact Or.inl (List.length_eq_zero_iff.1 h0)
  · exact Or.inr ⟨g, o, rfl, World.block_lt_of_cell? w ⟨g, o + 0, none⟩ (hc 0 (by omega)), hc⟩
theorem texts_below {B : Nat} {w w' : World} {v : Value} {ss : List ByteArray} (h : OldTexts B w v ss) (hb : Below B w w') : OldTexts B w' v ss := by
  obtain ⟨a, cap, rfl, hs⟩ := h
  refine ⟨a, cap, rfl, ?_⟩
  rcases hs with rfl | ⟨g, o, rfl, hg, hc⟩
  · exact Or.inl rfl
  · exact Or.inr ⟨g, o, rfl, hg, fun j hj => (hb.cell (p := ⟨g, o + j, none⟩) hg).trans (hc j hj)⟩
theorem texts_of {B : Nat} {w : World} {v : Value} {ss : List ByteArray} (h : OldTexts B w v ss) (hn : ss.length ≤ 4611686018427387904) : IsTexts w v ss := by
  obtain ⟨a, cap, rfl, hs⟩ := h
  refine ⟨hn, a, cap, rfl, ?_⟩
  rcases hs with rfl | ⟨g, o, rfl, hg, hc⟩
  · exact Or.inl rfl
  · exact Or.inr ⟨g, o, rfl, hc⟩

def okTexts (ss : List ByteArray) : Prop := ss.length ≤ 2000 ∧ ∀ s ∈ ss, s.size ≤ 100000

theorem pkSS_len (ss : List ByteArray) (hs : ∀ s ∈ ss, s.size ≤ 100000) : (pkSS ss).length ≤ ss.length * 100008 := by
  induction ss with
  | nil => simp [pkSS]
  | cons s l ih =>
    have h1 := ih (fun t ht => hs t (List.mem_cons_of_mem _ ht))
    have h2 := hs s (List.mem_cons_self ..)
    have h3 := pk_len8 s.size (by omega)
    have h4 := size_of (s := s) rfl
    simp only [pkSS, pkT, List.length_append, List.length_cons]
    omega
theorem pkTexts_len (ss : List ByteArray) (h : okTexts ss) : (pk ss.length ++ pkSS ss).length ≤ 200016008 := by
  have h1 := pkSS_len ss h.2
  have h2 := pk_len8 ss.length (by have := h.1; omega)
  have h3 := h.1
  rw [List.length_append]
  omega
end Go.Proofs.YtkmlooepakinfaaGreatDoor

/- What the document's own CheckList, PackText and PackTexts answer. -/
namespace Go.Proofs.YtkmlooepakinfaaGreatDoor
open Go.RowKit Go.Shelf

def longIn (ss : List ByteArray) : Prop := ∃ s ∈ ss, 100000 < s.size
def shortAll (ss : List ByteArray) : Prop := ∀ s ∈ ss, s.size ≤ 100000
def okList (m : Nat) (ss : List ByteArray) : Prop := ss.length ≤ m ∧ ∀ s ∈ ss, s.size ≤ 100000

theorem addl (l : List UInt8) (b : ByteArray) (h : l.length + b.size ≤ 9223372036854775807) (W : World) : (Op.stringOp .add ⟨l.toArray⟩ b).run Tryz.prog W = .ok (.string ⟨(l ++ b.data.toList).toArray⟩) W := by
  refine (run_string_add_sum (w := W) _ _ (by rw [show (⟨l.toArray⟩ : ByteArray).size = l.length from size_of rfl]; exact h)).trans ?_
  have hb : b = ⟨b.data.toList.toArray⟩ := bytes_eq rfl
  rw [hb, ByteArray.mk_append_mk]
theorem addll (l m : List UInt8) (h : l.length + m.length ≤ 9223372036854775807) (W : World) : (Op.stringOp .add ⟨l.toArray⟩ ⟨m.toArray⟩).run Tryz.prog W = .ok (.string ⟨(l ++ m).toArray⟩) W := by
  have := addl l ⟨m.toArray⟩ (by rw [show (⟨m.toArray⟩ : ByteArray).size = m.length from size_of rfl]; exact h) W
  simpa using this
end Go.Proofs.YtkmlooepakinfaaGreatDoor

/- What strings.Split, IsPath, and the document's own Parts and IsPath answer. -/
namespace Go.Proofs.YtkmlooepakinfaaGreatDoor
open Go.RowKit Go.Shelf

def laysS_ren : Ren := ⟨fun | 138 => 104 | 143 => 105 | 146 => 42 | 195 => 133 | 197 => 134 | 217 => 137 | 218 => 135 | 219 => 111 | 221 => 67 | 224 => 139 | 225 => 138 | 260 => 152 | 266 => 153 | 267 => 140 | 268 => 103 | 314 => 154 | n => n, fun | 0 => 0 | 3 => 3 | 4 => 4 | 5 => 5 | 9 => 9 | 21 => 21 | 31 => 30 | 46 => 79 | 51 => 95 | 105 => 172 | 119 => 200 | 138 => 202 | 139 => 203 | 146 => 191 | n => n, fun | 1 => 2 | 3 => 3 | 4 => 4 | n => n⟩
theorem laysS : Go.Proofs.Lays.n146 Tryz.prog laysS_ren := {
  mixed := by kernel_rfl
  f138 := Tryz.func104.trans (congrArg some (by kernel_rfl))
  f143 := Tryz.func105.trans (congrArg some (by kernel_rfl))
  f146 := Tryz.func42.trans (congrArg some (by kernel_rfl))
  f195 := Tryz.func133.trans (congrArg some (by kernel_rfl))
  f197 := Tryz.func134.trans (congrArg some (by kernel_rfl))
  f217 := Tryz.func137.trans (congrArg some (by kernel_rfl))
  f218 := Tryz.func135.trans (congrArg some (by kernel_rfl))
  f219 := Tryz.func111.trans (congrArg some (by kernel_rfl))
  f221 := Tryz.func67.trans (congrArg some (by kernel_rfl))
  f224 := Tryz.func139.trans (congrArg some (by kernel_rfl))
  f225 := Tryz.func138.trans (congrArg some (by kernel_rfl))
  f260 := Tryz.func152.trans (congrArg some (by kernel_rfl))
  f266 := Tryz.func153.trans (congrArg some (by kernel_rfl))
  f267 := Tryz.func140.trans (congrArg some (by kernel_rfl))
  f268 := Tryz.func103.trans (congrArg some (by kernel_rfl))
  f314 := Tryz.func154.trans (congrArg some (by kernel_rfl))
  t0 := Tryz.underlying0
  a0 := Tryz.isAgg0
  z0 := Tryz.sizeOf0
  v0 := Tryz.zeroValue0
  t3 := Tryz.underlying3
  a3 := Tryz.isAgg3
  z3 := Tryz.sizeOf3
  v3 := Tryz.zeroValue3
  t4 := Tryz.underlying4
  a4 := Tryz.isAgg4
  z4 := Tryz.sizeOf4
  v4 := Tryz.zeroValue4
  t5 := Tryz.underlying5
  a5 := Tryz.isAgg5
  z5 := Tryz.sizeOf5
  v5 := Tryz.zeroValue5
  t9 := Tryz.underlying9
  a9 := Tryz.isAgg9
  z9 := Tryz.sizeOf9
  v9 := Tryz.zeroValue9
  t21 := Tryz.underlying21
  a21 := Tryz.isAgg21
  z21 := Tryz.sizeOf21
  v21 := Tryz.zeroValue21
  t31 := Tryz.underlying30
  a31 := Tryz.isAgg30
  z31 := Tryz.sizeOf30
  v31 := Tryz.zeroValue30
  t46 := Tryz.underlying79
  a46 := Tryz.isAgg79
  z46 := Tryz.sizeOf79
  v46 := Tryz.zeroValue79
  t51 := Tryz.underlying95
  a51 := Tryz.isAgg95
  z51 := Tryz.sizeOf95
  v51 := Tryz.zeroValue95
  t105 := Tryz.underlying172
  a105 := Tryz.isAgg172
  z105 := Tryz.sizeOf172
  v105 := Tryz.zeroValue172
  t119 := Tryz.underlying200
  a119 := Tryz.isAgg200
  z119 := Tryz.sizeOf200
  t138 := Tryz.underlying202
  a138 := Tryz.isAgg202
  z138 := Tryz.sizeOf202
  v138 := Tryz.zeroValue202
  t139 := Tryz.underlying203
  a139 := Tryz.isAgg203
  z139 := Tryz.sizeOf203
  v139 := Tryz.zeroValue203
  t146 := Tryz.underlying191
  a146 := Tryz.isAgg191
  z146 := Tryz.sizeOf191
  v146 := Tryz.zeroValue191
  g1 := by kernel_rfl
  g3 := by kernel_rfl
  g4 := by kernel_rfl }

/-- The library's own variable holds some number. -/
def MaxIs (w : World) : Prop := ∃ m, w.cell? ⟨2, 0, none⟩ = some (.int .i64 m)
theorem MaxIs.below {B : Nat} {w w' : World} (h : MaxIs w) (hb : Below B w w') (hB : 2 < B) : MaxIs w' := by
  obtain ⟨m, hm⟩ := h
  exact ⟨m, (hb.cell (p := ⟨2, 0, none⟩) hB).trans hm⟩
theorem MaxIs.lt {w : World} (h : MaxIs w) : 2 < w.heap.size := by
  obtain ⟨m, hm⟩ := h
  exact World.block_lt_of_cell? w ⟨2, 0, none⟩ hm
theorem MaxIs.up {w w' : World} (h : MaxIs w) (hb : Below w.heap.size w w') : MaxIs w' := h.below hb h.lt

theorem split_any (s : ByteArray) (w : World) (hs : s.size < 4294967281) (hm : MaxIs w) :
    Calls Tryz.prog 42 #[.string s, .string slash] w fun e w' => e = .returned (.slice (some ⟨w.heap.size, 0, none⟩) (piecesB s).length (piecesB s).length) ∧ w' = w.alloc (.cells ((piecesB s).map Value.string).toArray 9) := by
  obtain ⟨m, hm⟩ := hm
  have h := Any.strings_Split laysS (by kernel_rfl) s slash m w hs hm (by decide)
  have e1 := Lib.splitB_all slash (by decide) 0 (Lib.countB s slash) s rfl
  rw [splitB_pieces] at e1
  rw [splitB_pieces, ← e1] at h
  exact h

theorem pieces_len (s : ByteArray) : (piecesB s).length ≤ s.size + 1 := by
  have := parts_len s.data.toList []
  rw [show s.size = s.data.toList.length from size_of rfl]
  simpa [piecesB] using this
theorem pieces_size (s : ByteArray) : ∀ p ∈ piecesB s, p.size ≤ s.size := by
  intro p hp
  obtain ⟨q, hq, rfl⟩ := List.mem_map.1 hp
  have := parts_mem s.data.toList [] q hq
  rw [show (⟨q.toArray⟩ : ByteArray).size = q.length from size_of rfl, show s.size = s.data.toList.length from size_of rfl]
  simpa using this

theorem all_no (l : List ByteArray) (k : Nat) (hk : k < l.length) (h : nameOk l[k] = false) : l.all nameOk = false := by
  rw [List.all_eq_false]
  exact ⟨l[k], List.getElem_mem hk, by simp [h]⟩
theorem all_yes (l : List ByteArray) (h : ∀ j (hj : j < l.length), nameOk l[j] = true) : l.all nameOk = true := by
  rw [List.all_eq_true]
  intro x hx
  obtain ⟨j, hj, rfl⟩ := List.getElem_of_mem hx
  exact h j hj

set_option maxHeartbeats 2000000 in
set_option maxRecDepth 100000 in
theorem IsPath_any (s : ByteArray) (w : World) (hm : MaxIs w) :
    Calls Tryz.prog 20 #[.string s] w fun e w' => e = .returned (.bool (pathOk s)) ∧ Below w.heap.size w w' := by
  by_cases hsz : 100 < s.size
  · have hz : (100 : Int) < (s.size : Int) := by omega
    have HP : Hid (pathOk s = false) := by show _ = _; unfold pathOk; rw [decide_eq_false (by omega), Bool.false_and]
    go_enter Tryz.func20, Tryz.ntmps20
    go_wp2
    go_ret
    exact ⟨by rw [HP.out]; rfl, Below.refl _ _⟩
  have hz : (s.size : Int) ≤ 100 := by omega
  have hs : s.size ≤ 100 := by omega
  have HM : Hid (MaxIs w) := hm
  have HP : Hid (pathOk s = (piecesB s).all nameOk) := by show _ = _; unfold pathOk; rw [decide_eq_true hs, Bool.true_and]
  have HL : Hid (∀ p ∈ piecesB s, p.size ≤ maxLen) := fun p hp => by
    have := pieces_size s p hp
    unfold maxLen
    omega
  have hpl := pieces_len s
  have HC : Hid (∀ j (hj : j < (piecesB s).length), (w.alloc (.cells ((piecesB s).map Value.string).toArray 9)).cell? ⟨w.heap.size, 0 + j, none⟩ = some (.string (piecesB s)[j])) := fun j hj => by
    rw [Lib.cell_of_heap (heap_alloc_new w _)]
    simp [hj]
  have HB : Hid (Below w.heap.size w (w.alloc (.cells ((piecesB s).map Value.string).toArray 9))) := (Below.refl _ _).alloc (Nat.le_refl _) _
  have hpl1 : ((piecesB s).length : Int) ≤ 101 := by omega
  go_enter Tryz.func20, Tryz.ntmps20
  go_wp2_with fail
  refine (split_any s w (by omega) HM.out).mono ?_
  rintro e w1 ⟨rfl, rfl⟩
  generalize hps : piecesB s = ps at HP HL hpl HC HB hpl1
  clear hps
  generalize hw1 : w.alloc (.cells (ps.map Value.string).toArray 9) = w1 at HC HB
  clear hw1
  go_wp2_with fail
  go_loopw [11] (fun i wr => ∃ k : Nat, k ≤ ps.length ∧ i = .int .i64 k ∧ (∀ j, (hj : j < ps.length) → j < k → nameOk ps[j] = true) ∧ wr = w1) (fun i _ => ps.length - (intOf i).toNat)
  case atStart => exact ⟨0, by omega, rfl, by omega, rfl⟩
  case round =>
    obtain ⟨k, hk, rfl, hlo, rfl⟩ := hrel
    have HLO : Hid _ := hlo
    clear hlo
    by_cases hlt : k < ps.length
    · have c0 := HC.out k hlt
      rw [Nat.zero_add] at c0
      have i2 : (k : Int) < ps.length := by omega
      by_cases h1 : nameOk ps[k] = true
      · go_wp2_with fail
        refine (IsName_any ps[k] _ (HL.out _ (List.getElem_mem hlt))).mono ?_
        rintro e w2 ⟨rfl, rfl⟩
        rw [h1]
        go_wp2
        refine ⟨⟨k + 1, by omega, by go_num, fun j hj hjk => ?_, by simp⟩, by simp [intOf]; omega⟩
        by_cases h : j < k
        · exact HLO.out j hj h
        · obtain rfl : j = k := by omega
          assumption
      · have h1' : nameOk ps[k] = false := by simpa using h1
        have H1 : Hid _ := h1'
        clear h1
        go_wp2_with fail
        refine (IsName_any ps[k] _ (HL.out _ (List.getElem_mem hlt))).mono ?_
        rintro e w2 ⟨rfl, rfl⟩
        rw [h1']
        go_wp2
        go_ret
        exact ⟨by rw [HP.out, all_no ps k hlt H1.out]; rfl, HB.out⟩
    · go_wp2
      go_ret
      exact ⟨by rw [HP.out, all_yes ps (fun j hj => HLO.out j hj (by omega))]; rfl, HB.out⟩

theorem extract_one (s : ByteArray) (k : Nat) (hk : k < s.size) : (s.extract k (k + 1)).data.toList = [s[k]] := by
  have h : k < s.data.toList.length := by rw [← size_of (s := s) rfl]; exact hk
  rw [Lib.extract_data, show k + 1 - k = 1 by omega, List.drop_eq_getElem_cons h]
  rfl
theorem own_cells {w : World} {base : Nat} {e : TypeId} {v : Value} {ps : List ByteArray} (h : w.ownsRow base e 1 v ps.length (ps.map Value.string)) (hne : 0 < ps.length) : ∃ g cap, v = .slice (some ⟨g, 0, none⟩) ps.length cap ∧ ∀ j (hj : j < ps.length), w.cell? ⟨g, j, none⟩ = some (.string ps[j]) := by
  have hcells := fun (g : Nat) (hg : v.ownBlock = some g) => h.cells hg
  rcases h.2 with ⟨_, h2⟩ | ⟨g, cap, cur, hv, _⟩
  · omega
  · refine ⟨g, cap, hv, fun j hj => ?_⟩
    have := hcells g (by rw [hv]; rfl) j (.string ps[j]) (by simp [hj])
    rwa [addr_add, Nat.zero_add] at this
theorem own_block {w : World} {base : Nat} {e : TypeId} {size : Nat} {v : Value} {k : Nat} {xs : List Value} (h : w.ownsRow base e size v (k + 1) xs) : ∃ g cap, v = .slice (some ⟨g, 0, none⟩) (k + 1) cap := by
  rcases h.2 with ⟨_, h2⟩ | ⟨g, cap, cur, hv, _⟩
  · omega
  · exact ⟨g, cap, hv⟩
end Go.Proofs.YtkmlooepakinfaaGreatDoor

/- A law whose row lists variables of the program: its wrap, the world's shape kept. -/
namespace Go.Proofs.YtkmlooepakinfaaGreatDoor
open Go.ChangeShapes Go.WideShapes Go.ChangeAt Go.RowKit Go.Shelf

/-- What is asked of a call in a world that can be met. -/
def Meets {H : Type} (enc : TypeId × Value → H) (f : FuncId) (fn : Func) (s : ChangeSpec) (laid : List (String × DataW Unit)) : Prop :=
  ∀ (W : World) (base : Nat) (args : Array Value) (ds gs : List (DataW H)) (before : List MemPlace),
    (∀ (j : Nat) t v, fn.params[j]? = some t → args[j]? = some v → Value.okWide Tryz.prog W .any base t v) →
    DataW.Whole enc Tryz.prog fn.params.toList s.vars false W args.toList ds gs before →
    (DataW.weightsEach Tryz.prog (fn.params.toList ++ s.plain.varTypes Tryz.prog) (ds ++ gs)).all (· ≤ reachBytes) = true →
    laidMetH Tryz.prog laid W → W.ShapedOpen Tryz.prog →
    Calls Tryz.prog f args W fun e W' => ∃ v, e = .returned v ∧ s.post enc Tryz.prog fn false true false false W args v W'

set_option maxRecDepth 100000 in
theorem returns_laid {H : Type} {enc : TypeId × Value → H} {os : Os} {f : FuncId} {fn : Func} {s : ChangeSpec} {conds : List PathCond} {laid : List (String × DataW Unit)}
    (own : ownKnob Tryz.prog.godebug = none) (started : os.Started) (noInit : Tryz.checked.prog.inits.idxOf? f = none) (hfn : Tryz.checked.prog.funcs[f]? = some fn)
    (start : ∃ (w : World) (tape : Tape) (i : Input), w.os = os ∧ (w.forCall tape i).Shaped Tryz.checked.prog ∧ i.vars = [] ∧ Input.okWide Tryz.checked.prog (w.forCall tape i) .any w.heap.size f i ∧
      ((s.pre enc Tryz.checked.prog fn conds false (w.forCall tape i).memory i.args ∧ laidMetH Tryz.prog laid (w.forCall tape i).memory) ∧ sizedMet enc Tryz.checked.prog fn (OpenSpec.ofChange s) false (w.forCall tape i).memory i.args) ∧ Assume.holds {} Tryz.checked.prog (lone (Frame.enter Tryz.checked.prog f i.args .normal) [] (w.forCall tape i)))
    (meets : Meets enc f fn s laid) :
    ReturnsInHanded {} Tryz.checked os f .any (fun w args => (s.pre enc Tryz.prog fn conds false w args ∧ laidMetH Tryz.prog laid w) ∧ sizedMet enc Tryz.prog fn (OpenSpec.ofChange s) false w args) (s.post enc Tryz.prog fn false true false false) := by
  refine returnsInHanded_of_calls own started noInit start fun w tape i _ shape _ wide met _ => ?_
  obtain ⟨_, _, _, fn', h, _, _, _, _, vals⟩ := wide
  cases Option.some.inj (h.symm.trans hfn)
  obtain ⟨⟨⟨ds, gs, before, whole, _⟩, lies⟩, sized⟩ := met
  refine (meets (w.forCall tape i) w.heap.size i.args ds gs before vals (DataW.Whole.of_heap (w' := w.forCall tape i) (by rfl) whole) (sized.weights whole) (laidMetH.of_heap (by rfl) lies) shape).mono ?_
  rintro e W' ⟨v, rfl, post⟩
  exact ChangeSpec.post_blind post

set_option maxRecDepth 100000 in
theorem max_of_shaped {W : World} (h : W.ShapedOpen Tryz.prog) : MaxIs W :=
  cell_of_shapedOpen_int (t := 3) (zero := #[.int .i64 0]) h (by decide +kernel) (by kernel_rfl) rfl (by kernel_rfl) (by kernel_rfl) Tryz.underlying3
end Go.Proofs.YtkmlooepakinfaaGreatDoor

/- Meets, of the program and of the document. -/
namespace Go.Proofs.YtkmlooepakinfaaGreatDoor
open Go.RowKit

/-- One path inside the other. -/
def inB (p d : ByteArray) : Bool := decide (d.size < p.size) && decide (p.data.toList.getD d.size 0 = 47) && decide ((p.extract 0 d.size).toList = d.toList)
def meetB (a b : ByteArray) : Bool := decide (a.toList = b.toList) || inB a b || inB b a
theorem meet_comm (a b : ByteArray) : meetB a b = meetB b a := by
  unfold meetB
  rw [Bool.or_assoc, Bool.or_assoc, Bool.or_comm (inB a b)]
  congr 1
  rw [Bool.eq_iff_iff]
  simp only [decide_eq_true_eq]
  exact eq_comm
theorem meet_self (a : ByteArray) : meetB a a = true := by unfold meetB; simp
theorem at_getD (p : ByteArray) (k : Nat) (h : k < p.size) : p[k] = p.data.toList.getD k 0 := by
  have h' : k < p.data.toList.length := by rw [Array.length_toList]; exact h
  rw [List.getD_eq_getElem?_getD, List.getElem?_eq_getElem h']
  rfl
theorem is47 (x : UInt8) : ((x.toNat : Int) == 47) = decide (x = 47) := by
  rw [Bool.eq_iff_iff]
  simp only [beq_iff_eq, decide_eq_true_eq]
  constructor
  · intro h
    exact UInt8.toNat_inj.1 (by show x.toNat = 47; omega)
  · intro h
    rw [h]
    rfl

set_option maxHeartbeats 2000000 in
set_option maxRecDepth 100000 in
theorem isInside_any (p d : ByteArray) (w : World) :
    Calls Tryz.prog 21 #[.string p, .string d] w fun e w' => e = .returned (.bool (inB p d)) ∧ w' = w := by
  by_cases h1 : d.size < p.size
  · have h2 : (d.size : Int) < (p.size : Int) := by omega
    have hq : (((p[d.size]).toNat : Int) == 47) = decide (p.data.toList.getD d.size 0 = 47) := by rw [is47, at_getD]
    have hle : d.size ≤ p.size := by omega
    by_cases h3 : p.data.toList.getD d.size 0 = 47
    · rw [decide_eq_true h3] at hq
      by_cases h4 : (p.extract 0 d.size).toList = d.toList
      · have h5 : ((p.extract 0 d.size).toList == d.toList) = true := beq_iff_eq.2 h4
        have e : inB p d = true := by unfold inB; simp only [h1, h3, h4, decide_true, Bool.and_self]
        rw [e]
        clear e h3 h4
        go_enter Tryz.func21, Tryz.ntmps21
        go_wp2
        go_ret
        exact ⟨rfl, rfl⟩
      · have h5 : ((p.extract 0 d.size).toList == d.toList) = false := beq_eq_false_iff_ne.2 h4
        have e : inB p d = false := by unfold inB; rw [decide_eq_false h4, Bool.and_false]
        rw [e]
        clear e h3 h4
        go_enter Tryz.func21, Tryz.ntmps21
        go_wp2
        go_ret
        exact ⟨rfl, rfl⟩
    · rw [decide_eq_false h3] at hq
      have e : inB p d = false := by unfold inB; rw [decide_eq_false h3, Bool.and_false, Bool.false_and]
      rw [e]
      clear e h3
      go_enter Tryz.func21, Tryz.ntmps21
      go_wp2
      go_ret
      exact ⟨rfl, rfl⟩
  · have h2 : ¬ (d.size : Int) < (p.size : Int) := by omega
    have e : inB p d = false := by unfold inB; simp [h1]
    rw [e]
    clear e h1
    go_enter Tryz.func21, Tryz.ntmps21
    go_wp2
    go_ret
    exact ⟨rfl, rfl⟩
end Go.Proofs.YtkmlooepakinfaaGreatDoor

/- Check: what is wrong with one file. -/
namespace Go.Proofs.YtkmlooepakinfaaGreatDoor
open Go.RowKit

/-- A file: its path, its text, whether it runs. -/
structure Fl where
  pa : ByteArray
  tx : ByteArray
  rn : Bool
def encF (f : Fl) : Value := .agg #[.string f.pa, .string f.tx, .bool f.rn]
def flE (f : Fl) : Int := if pathOk f.pa = false then 1 else if 100000 < f.tx.size then 2 else 0

theorem tisTooLong_any (s : ByteArray) (w : World) :
    Calls Tryz.prog 31 #[.string s] w fun e w' => e = .returned (.bool (decide (100000 < s.size))) ∧ w' = w := by
  by_cases h : 100000 < s.size
  · have h2 : (100000 : Int) < (s.size : Int) := by omega
    rw [decide_eq_true h]
    clear h
    go_enter Tryz.func31, Tryz.ntmps31
    go_wp2
    go_ret
    exact ⟨rfl, rfl⟩
  · have h2 : ¬ (100000 : Int) < (s.size : Int) := by omega
    rw [decide_eq_false h]
    clear h
    go_enter Tryz.func31, Tryz.ntmps31
    go_wp2
    go_ret
    exact ⟨rfl, rfl⟩

def flW (w : World) (f : Fl) : World := w.alloc (.cells #[.string f.pa, .string f.tx, .bool f.rn] 25)
theorem flW_bel (w : World) (f : Fl) : Below w.heap.size w (flW w f) := (Below.refl _ w).alloc (Nat.le_refl _) _
set_option maxHeartbeats 2000000 in
set_option maxRecDepth 100000 in
theorem fileError_any (f : Fl) (w : World) (hm : MaxIs (flW w f)) :
    Calls Tryz.prog 25 #[encF f] w fun e w' => e = .returned (.int .i64 (flE f)) ∧ Below w.heap.size w w' := by
  obtain ⟨p, t, r⟩ := f
  have hx := heap_alloc_new w (.cells #[.string p, .string t, .bool r] 25)
  have hz : (flW w ⟨p, t, r⟩).heap.size = w.heap.size + 1 := World.size_alloc _ _
  have HB : Hid (Below w.heap.size w (flW w ⟨p, t, r⟩)) := flW_bel w _
  have HI : Hid (Calls Tryz.prog 20 #[.string p] (flW w ⟨p, t, r⟩) fun e w' => e = .returned (.bool (pathOk p)) ∧ w'.cell? ⟨w.heap.size, 1, none⟩ = some (.string t) ∧ Hid (Below w.heap.size w w')) := by
    refine (IsPath_any p _ hm).mono ?_
    rintro e w' ⟨rfl, hb⟩
    refine ⟨rfl, ?_, HB.out.trans (hb.mono (by omega))⟩
    rw [hb.cell (p := ⟨w.heap.size, 1, none⟩) (by show w.heap.size < _; omega)]
    exact Lib.cell_of_heap hx 1
  have HT : Hid (∀ W, Calls Tryz.prog 31 #[.string t] W fun e w' => e = .returned (.bool (decide (100000 < t.size))) ∧ w' = W) := fun W => tisTooLong_any t W
  unfold encF flE
  unfold flW at HI
  simp only
  clear hm hz hx HB
  cases hp : pathOk p with
  | false =>
    rw [hp] at HI
    rw [if_pos rfl]
    clear hp
    go_enter Tryz.func25, Tryz.ntmps25
    go_wp2_with (first
      | (go_at_call 20; refine HI.out.mono ?_; rintro e w1 ⟨rfl, c1, R1⟩)
      | (go_at_call 31; refine (HT.out _).mono ?_; rintro e w2 ⟨rfl, hw⟩; subst w2)
      | go_in)
    go_ret
    exact ⟨rfl, R1.out⟩
  | true =>
    rw [hp] at HI
    rw [if_neg (by decide)]
    clear hp
    by_cases h : 100000 < t.size
    · rw [if_pos h]
      rw [decide_eq_true h] at HT
      clear h
      go_enter Tryz.func25, Tryz.ntmps25
      go_wp2_with (first
        | (go_at_call 20; refine HI.out.mono ?_; rintro e w1 ⟨rfl, c1, R1⟩)
        | (go_at_call 31; refine (HT.out _).mono ?_; rintro e w2 ⟨rfl, hw⟩; subst w2)
        | go_in)
      go_ret
      exact ⟨rfl, R1.out⟩
    · rw [if_neg h]
      rw [decide_eq_false h] at HT
      clear h
      go_enter Tryz.func25, Tryz.ntmps25
      go_wp2_with (first
        | (go_at_call 20; refine HI.out.mono ?_; rintro e w1 ⟨rfl, c1, R1⟩)
        | (go_at_call 31; refine (HT.out _).mono ?_; rintro e w2 ⟨rfl, hw⟩; subst w2)
        | go_in)
      go_ret
      exact ⟨rfl, R1.out⟩
end Go.Proofs.YtkmlooepakinfaaGreatDoor

/- Paths compared: cmp.Compare at texts; comparePaths. -/
namespace Go.Proofs.YtkmlooepakinfaaGreatDoor
open Go.RowKit

def cmpB (x y : ByteArray) : Int := if Op.bytesLess x.toList y.toList = true then -1 else if x.toList = y.toList then 0 else 1

theorem isNaN_s (x : ByteArray) (w : World) :
    Calls Tryz.prog 80 #[.string x] w fun e w' => e = .returned (.bool false) ∧ w' = w := by
  go_enter Tryz.func80, Tryz.ntmps80
  go_wp2
  go_ret
  exact ⟨by simp, rfl⟩
set_option maxHeartbeats 2000000 in
set_option maxRecDepth 100000 in
theorem Compare_s (x y : ByteArray) (w : World) :
    Calls Tryz.prog 46 #[.string x, .string y] w fun e w' => e = .returned (.int .i64 (cmpB x y)) ∧ w' = w := by
  have HN : Hid (∀ (z : ByteArray) (W : World), Calls Tryz.prog 80 #[.string z] W fun e w' => e = .returned (.bool false) ∧ w' = W) := isNaN_s
  unfold cmpB
  by_cases h1 : Op.bytesLess x.toList y.toList = true
  · rw [if_pos h1]
    go_enter Tryz.func46, Tryz.ntmps46
    go_wp2_with (first | (go_at_call 80; refine (HN.out _ _).mono ?_; rintro e w1 ⟨rfl, hw⟩; subst w1) | go_in)
    go_ret
    exact ⟨rfl, rfl⟩
  · rw [if_neg h1]
    have h1' : Op.bytesLess x.toList y.toList = false := by simpa using h1
    clear h1
    by_cases h2 : x.toList = y.toList
    · rw [if_pos h2]
      have h2' : (x.toList == y.toList) = true := beq_iff_eq.2 h2
      clear h2
      go_enter Tryz.func46, Tryz.ntmps46
      go_wp2_with (first | (go_at_call 80; refine (HN.out _ _).mono ?_; rintro e w1 ⟨rfl, hw⟩; subst w1) | go_in)
      go_ret
      exact ⟨rfl, rfl⟩
    · rw [if_neg h2]
      have h2' : (x.toList == y.toList) = false := beq_eq_false_iff_ne.2 h2
      clear h2
      go_enter Tryz.func46, Tryz.ntmps46
      go_wp2_with (first | (go_at_call 80; refine (HN.out _ _).mono ?_; rintro e w1 ⟨rfl, hw⟩; subst w1) | go_in)
      go_ret
      exact ⟨rfl, rfl⟩

set_option maxHeartbeats 2000000 in
set_option maxRecDepth 100000 in
theorem comparePaths_any (f g : Fl) (w : World) :
    Calls Tryz.prog 27 #[encF f, encF g] w fun e w' => e = .returned (.int .i64 (cmpB f.pa g.pa)) ∧ Below w.heap.size w w' := by
  obtain ⟨p, t, r⟩ := f
  obtain ⟨p2, t2, r2⟩ := g
  have HC : Hid (∀ W, Calls Tryz.prog 46 #[.string p, .string p2] W fun e w' => e = .returned (.int .i64 (cmpB p p2)) ∧ w' = W) := Compare_s p p2
  have HB : Hid (∀ o1 o2 : Obj, Below w.heap.size w ((w.alloc o1).alloc o2)) := fun o1 o2 => by
    have h1 : Below w.heap.size w (w.alloc o1) := (Below.refl _ w).alloc (Nat.le_refl _) _
    exact h1.alloc (by rw [World.size_alloc]; omega) _
  unfold encF
  simp only
  generalize cmpB p p2 = r9 at *
  go_enter Tryz.func27, Tryz.ntmps27
  go_wp2_with (first | (go_at_call 46; refine (HC.out _).mono ?_; rintro e w1 ⟨rfl, hw⟩; subst w1) | go_in)
  go_ret
  exact ⟨rfl, HB.out _ _⟩
end Go.Proofs.YtkmlooepakinfaaGreatDoor

/- A tree, plain: what Check answers. -/
namespace Go.Proofs.YtkmlooepakinfaaGreatDoor
open Go.RowKit Go.Shelf Go.Maps

theorem tlt : ∀ a b : List UInt8, Op.bytesLess a b = decide (a < b)
  | [], [] => by simp [Op.bytesLess]
  | [], b :: s => by simp [Op.bytesLess]
  | a :: r, [] => by simp [Op.bytesLess]
  | a :: r, b :: s => by
    rw [Op.bytesLess, tlt r s]
    rw [Bool.eq_iff_iff]
    simp [List.cons_lt_cons_iff]

/-- A path's bytes. -/
def pth (f : Fl) : List UInt8 := f.pa.data.toList
/-- The first that is wrong. -/
def flEs : List Fl → Int
  | [] => 0
  | f :: l => if flE f = 0 then flEs l else flE f
theorem flEs_yes (ns : List Fl) (h : ∀ j (hj : j < ns.length), flE ns[j] = 0) : flEs ns = 0 := by
  induction ns with
  | nil => rfl
  | cons n l ih =>
    have h0 : flE n = 0 := h 0 (by simp)
    show (if flE n = 0 then flEs l else flE n) = 0
    rw [if_pos h0]
    exact ih (fun j hj => h (j + 1) (by simp; omega))
theorem flEs_no (ns : List Fl) (k : Nat) (hk : k < ns.length) (h : ∀ j (hj : j < ns.length), j < k → flE ns[j] = 0) (hne : flE ns[k] ≠ 0) : flEs ns = flE ns[k] := by
  induction ns generalizing k with
  | nil => simp at hk
  | cons n l ih =>
    show (if flE n = 0 then flEs l else flE n) = _
    cases k with
    | zero => exact if_neg (show ¬ flE n = 0 from hne)
    | succ k =>
      have h0 : flE n = 0 := h 0 (by simp) (by omega)
      rw [if_pos h0]
      exact ih k (by simpa using hk) (fun j hj hjk => h (j + 1) (by simp; omega) (by omega)) hne
theorem flEs_all {ns : List Fl} (h : flEs ns = 0) : ∀ f ∈ ns, flE f = 0 := by
  induction ns with
  | nil => intro f hf; cases hf
  | cons n l ih =>
    rw [show flEs (n :: l) = (if flE n = 0 then flEs l else flE n) from rfl] at h
    by_cases h0 : flE n = 0
    · rw [if_pos h0] at h
      intro f hf
      rcases List.mem_cons.1 hf with rfl | hf
      · exact h0
      · exact ih h f hf
    · rw [if_neg h0] at h
      exact absurd h h0
theorem flE_pa {f : Fl} (h : flE f = 0) : pathOk f.pa = true ∧ f.tx.size ≤ 100000 := by
  unfold flE at h
  by_cases h1 : pathOk f.pa = false
  · rw [if_pos h1] at h; exact absurd h (by decide)
  · rw [if_neg h1] at h
    by_cases h2 : 100000 < f.tx.size
    · rw [if_pos h2] at h; exact absurd h (by decide)
    · exact ⟨by simpa using h1, by omega⟩

/-- Do the paths rise? -/
def upF (L : List Fl) : Bool := decide (L.Pairwise fun f g => pth f < pth g)
/-- Does a path of the one go through a file of the other? -/
def thruF (L M : List Fl) : Bool := L.any fun f => M.any fun g => inB f.pa g.pa
/-- What Check answers. -/
def chF (L : List Fl) : Int := if 60 < L.length then 2 else if flEs L = 0 then (if (upF L && !thruF L L) = true then 0 else 6) else flEs L

/-- No path is less than the one ahead of it. -/
def adjF (L : List Fl) : Prop := ∀ j (hj : j + 1 < L.length), ¬ pth L[j + 1] < pth L[j]
theorem adjF_pw : ∀ L : List Fl, adjF L → L.Pairwise fun f g => pth f ≤ pth g
  | [], _ => .nil
  | [a], _ => List.pairwise_singleton _ _
  | a :: b :: l, h => by
    have h0 : pth a ≤ pth b := List.not_lt.1 (h 0 (by simp))
    have ih := adjF_pw (b :: l) (fun j hj => h (j + 1) (by simp at hj ⊢; omega))
    rw [List.pairwise_cons]
    refine ⟨fun x hx => ?_, ih⟩
    rcases List.mem_cons.1 hx with rfl | hx
    · exact h0
    · exact List.le_trans h0 ((List.pairwise_cons.1 ih).1 x hx)
theorem up_of {L : List Fl} (h : adjF L) (hn : (L.map pth).Nodup) : upF L = true := by
  unfold upF
  rw [decide_eq_true_eq]
  have h1 := adjF_pw L h
  have h2 : L.Pairwise fun f g => pth f ≠ pth g := List.pairwise_map.1 hn
  refine (h1.and h2).imp fun {f g} hh => ?_
  obtain ⟨ha, hb⟩ := hh
  rcases Decidable.em (pth f < pth g) with h | h
  · exact h
  · exact absurd (List.le_antisymm ha (List.not_lt.1 h)) hb
theorem up_pw {L : List Fl} (h : upF L = true) : L.Pairwise fun f g => pth f < pth g := of_decide_eq_true h
theorem up_nodup {L : List Fl} (h : upF L = true) : (L.map pth).Nodup :=
  List.pairwise_map.2 ((up_pw h).imp fun hh e => by rw [e] at hh; exact List.lt_irrefl _ hh)
theorem up_adj {L : List Fl} (h : upF L = true) : adjF L := fun j hj hlt => by
  have := List.pairwise_iff_getElem.1 (up_pw h) j (j + 1) (by omega) hj (by omega)
  exact List.lt_irrefl _ (List.lt_trans this hlt)

theorem snocInd {α : Type} {P : List α → Prop} (h0 : P []) (h1 : ∀ l a, P l → P (l ++ [a])) (l : List α) : P l := by
  rw [← List.reverse_reverse l]
  induction l.reverse with
  | nil => exact h0
  | cons a r ih => rw [List.reverse_cons]; exact h1 _ _ ih

/-- A file, as a map's datum. -/
def fD (f : Fl) : DataW Unit := .agg [.lit (.string (pth f)), .lit (.string f.tx.data.toList), .lit (.bool f.rn)]
/-- Files by their paths. -/
def byD (L : List Fl) : DataW Unit := L.foldl (fun D f => D.put (.string (pth f)) (fD f)) (.map [])
theorem byD_snoc (L : List Fl) (f : Fl) : byD (L ++ [f]) = (byD L).put (.string (pth f)) (fD f) := by simp [byD, List.foldl_append]
theorem byD_tidy (L : List Fl) : Tidy (byD L) := by
  refine snocInd (P := fun L => Tidy (byD L)) tidy_empty (fun l a ih => ?_) L
  rw [byD_snoc]
  exact ih.put (by exact trivial) _
theorem has_byD (L : List Fl) (k : List UInt8) : Maps.has (byD L) (.string k) = L.any (fun f => decide (pth f = k)) := by
  refine snocInd (P := fun L => Maps.has (byD L) (.string k) = L.any (fun f => decide (pth f = k))) rfl (fun l a ih => ?_) L
  rw [byD_snoc, List.any_append, ← ih]
  by_cases h : pth a = k
  · subst h
    rw [has_put_same (byD_tidy l).isMap (by exact trivial)]
    simp
  · rw [has_put_other (fun e => h (by injection e with e; exact e.symm))]
    simp [h]
theorem size_byD (L : List Fl) : Maps.size (byD L) ≤ L.length ∧ (Maps.size (byD L) = L.length ↔ (L.map pth).Nodup) := by
  refine snocInd (P := fun L => Maps.size (byD L) ≤ L.length ∧ (Maps.size (byD L) = L.length ↔ (L.map pth).Nodup)) ⟨Nat.le_refl _, by simp [byD, Maps.size]⟩ (fun l a ih => ?_) L
  rw [byD_snoc, size_put (byD_tidy l), has_byD, List.length_append, List.map_append]
  obtain ⟨h1, h2⟩ := ih
  have e1 : [a].length = 1 := rfl
  rw [e1]
  by_cases h : l.any (fun f => decide (pth f = pth a)) = true
  · rw [if_pos h]
    refine ⟨by omega, ⟨fun e => by omega, fun e => ?_⟩⟩
    exfalso
    obtain ⟨f, hf, he⟩ := List.any_eq_true.1 h
    rw [List.nodup_append] at e
    exact e.2.2 (pth f) (List.mem_map.2 ⟨f, hf, rfl⟩) (pth a) (by simp) (by simpa using he)
  · rw [if_neg h]
    refine ⟨by omega, ⟨fun e => ?_, fun e => ?_⟩⟩
    · rw [List.nodup_append]
      refine ⟨h2.1 (by omega), by simp, fun x hx y hy e => ?_⟩
      obtain ⟨f, hf, rfl⟩ := List.mem_map.1 hx
      have hy' : y = pth a := by simpa using hy
      exact h (List.any_eq_true.2 ⟨f, hf, by rw [e, hy']; simp⟩)
    · have := h2.2 (List.nodup_append.1 e).1
      omega
theorem at_byD {L : List Fl} (hn : (L.map pth).Nodup) {f : Fl} (hf : f ∈ L) (z : DataW Unit) : (byD L).atKey (.string (pth f)) z = fD f := by
  refine snocInd (P := fun L => (L.map pth).Nodup → f ∈ L → (byD L).atKey (.string (pth f)) z = fD f) (fun _ h => by cases h) (fun l a ih => ?_) L hn hf
  intro hn hf
  rw [byD_snoc]
  rw [List.map_append, List.nodup_append] at hn
  rcases List.mem_append.1 hf with h | h
  · have hne : pth f ≠ pth a := hn.2.2 _ (List.mem_map.2 ⟨f, h, rfl⟩) _ (by simp)
    rw [atKey_put_other (fun e => hne (by injection e))]
    exact ih hn.1 h
  · have e : f = a := by simpa using h
    subst e
    exact atKey_put_same (byD_tidy l).isMap (by exact trivial) _ _
theorem atNo_byD {L : List Fl} {k : List UInt8} (h : ∀ f ∈ L, pth f ≠ k) (z : DataW Unit) : (byD L).atKey (.string k) z = z := by
  refine atKey_of_not_has ?_ z
  rw [has_byD, List.any_eq_false]
  intro f hf
  simpa using h f hf

/-- Where a path's slash is, a file stands. -/
theorem inB_iff (p d : ByteArray) : inB p d = true ↔ ∃ i, i < p.size ∧ p.data.toList.getD i 0 = 47 ∧ d.data.toList = (p.extract 0 i).data.toList := by
  unfold inB
  rw [Bool.and_eq_true, Bool.and_eq_true, decide_eq_true_eq, decide_eq_true_eq, decide_eq_true_eq, Lib.toList_data, Lib.toList_data]
  constructor
  · rintro ⟨⟨h1, h2⟩, h3⟩
    exact ⟨d.size, h1, h2, h3.symm⟩
  · rintro ⟨i, h1, h2, h3⟩
    have h4 : d.size = i := by
      have := congrArg List.length h3
      rw [Array.length_toList, Array.length_toList] at this
      have e2 : (p.extract 0 i).data.size = i := by
        show (p.extract 0 i).size = i
        rw [ByteArray.size_extract]
        omega
      rw [e2] at this
      exact this
    rw [h4]
    exact ⟨⟨h1, h2⟩, h3.symm⟩
end Go.Proofs.YtkmlooepakinfaaGreatDoor

/- Check: files in memory; by their paths; do they rise? -/
namespace Go.Proofs.YtkmlooepakinfaaGreatDoor
open Go.RowKit Go.Shelf Go.Maps Go.WideMaps

theorem lawS : Keyed Tryz.prog 9 := string_keyed Tryz.underlying9
/-- The files L lie in block g from offset o on. -/
def FlAt (g o : Nat) (L : List Fl) (w : World) : Prop := ∀ j (hj : j < L.length), w.cell? ⟨g, o + j * 3, none⟩ = some (.string L[j].pa) ∧ w.cell? ⟨g, o + j * 3 + 1, none⟩ = some (.string L[j].tx) ∧ w.cell? ⟨g, o + j * 3 + 2, none⟩ = some (.bool L[j].rn)
theorem FlAt.below {B g o : Nat} {L : List Fl} {w w' : World} (h : FlAt g o L w) (hb : Below B w w') (hg : g < B) : FlAt g o L w' := fun j hj =>
  ⟨(hb.cell (p := ⟨g, o + j * 3, none⟩) hg).trans (h j hj).1, (hb.cell (p := ⟨g, o + j * 3 + 1, none⟩) hg).trans (h j hj).2.1, (hb.cell (p := ⟨g, o + j * 3 + 2, none⟩) hg).trans (h j hj).2.2⟩
/-- A slice that begins at ao has the files L. -/
def IsFl (w : World) (ao : Option Addr) (L : List Fl) : Prop := L = [] ∨ ∃ g o, ao = some ⟨g, o, none⟩ ∧ g < w.heap.size ∧ FlAt g o L w
theorem IsFl.below {B : Nat} {ao : Option Addr} {L : List Fl} {w w' : World} (h : IsFl w ao L) (hb : Below B w w') (hB : w.heap.size ≤ B) : IsFl w' ao L := by
  rcases h with h | ⟨g, o, h1, h2, h3⟩
  · exact .inl h
  · exact .inr ⟨g, o, h1, Nat.lt_of_lt_of_le h2 hb.size, h3.below hb (by omega)⟩

/-- How a file in a map reads. -/
def fileE (v : Value) : Option (DataW Unit × List MemPlace) := match v with
  | .agg a => match a.toList with
    | [.string p, .string t, .bool r] => some (fD ⟨p, t, r⟩, [])
    | _ => none
  | _ => none
theorem fileE_mk (f : Fl) : fileE (encF f) = some (fD f, []) := rfl
theorem fileE_inv {v : Value} {d : DataW Unit} {ps : List MemPlace} (h : fileE v = some (d, ps)) : ∃ f, v = encF f ∧ d = fD f := by
  unfold fileE at h
  split at h
  · rename_i a
    split at h
    · rename_i p t r e
      injection h with h
      injection h with h1 h2
      refine ⟨⟨p, t, r⟩, ?_, h1.symm⟩
      show Value.agg a = Value.agg #[.string p, .string t, .bool r]
      rw [← Array.toArray_toList (xs := a), e]
    · cases h
  · cases h
theorem fD_inj {f g : Fl} (h : fD f = fD g) : f = g := by
  obtain ⟨p, t, r⟩ := f
  obtain ⟨p2, t2, r2⟩ := g
  unfold fD at h
  injection h with h
  injection h with h1 h
  injection h with h2 h
  injection h with h3 _
  injection h1 with h1
  injection h1 with h1
  injection h2 with h2
  injection h2 with h2
  injection h3 with h3
  injection h3 with h3
  have e1 : p = p2 := by
    have := Array.toList_inj.1 (show p.data.toList = p2.data.toList from h1)
    obtain ⟨x⟩ := p; obtain ⟨y⟩ := p2; exact congrArg ByteArray.mk this
  have e2 : t = t2 := by
    have := Array.toList_inj.1 (show t.data.toList = t2.data.toList from h2)
    obtain ⟨x⟩ := t; obtain ⟨y⟩ := t2; exact congrArg ByteArray.mk this
  rw [e1, e2, show r = r2 from h3]
theorem zeroF (w : World) : (zeroValue 25).run Tryz.prog w = .ok (encF ⟨⟨#[]⟩, ⟨#[]⟩, false⟩) w := by kernel_rfl

theorem makeMap_n {t k e : TypeId} (ht : Tryz.prog.underlying t = some (.map k e)) (n : Nat) (w : World) : (Instr.makeMap t (some (.int .i64 (n : Int)))).run Tryz.prog w = .ok (.map (some w.heap.size)) (w.alloc (.map #[] 0)) := by
  simp [Instr.makeMap, run_underlying ht, asInt, asIntOf]

set_option maxHeartbeats 2000000 in
set_option maxRecDepth 100000 in
theorem byPath_any (ao : Option Addr) (cap : Nat) (L : List Fl) (w : World) (hn : L.length ≤ 1000000) (hl : IsFl w ao L) (hs : ∀ f ∈ L, f.pa.size ≤ maxLen) :
    Calls Tryz.prog 17 #[.slice ao L.length cap] w fun e w' => e = .returned (.map (some w.heap.size)) ∧ w'.ownsMap Tryz.prog 9 fileE w.heap.size L.length (byD L) ∧ Below w.heap.size w w' := by
  have HL : Hid (IsFl w ao L) := hl
  have HS : Hid (∀ f ∈ L, f.pa.size ≤ maxLen) := hs
  have hn1 : (L.length : Int) ≤ 1000000 := by omega
  have hmm := makeMap_n Tryz.underlying44
  clear hl hs
  go_enter Tryz.func17, Tryz.ntmps17
  go_wp2
  go_loopw [11] (fun i wr => ∃ k : Nat, k ≤ L.length ∧ i = .int .i64 k ∧ wr.ownsMap Tryz.prog 9 fileE w.heap.size k (byD (L.take k)) ∧ Below w.heap.size w wr) (fun i _ => L.length - (intOf i).toNat)
  case atStart => exact ⟨0, by omega, rfl, World.ownsMap_made _ _ _ _, (Below.refl _ _).alloc (Nat.le_refl _) _⟩
  case round =>
    obtain ⟨k, hk, rfl, hown, hb⟩ := hrel
    by_cases hlt : k < L.length
    · have HLB := HL.out.below hb (Nat.le_refl _)
      rcases HLB with h | ⟨g, o, rfl, hg, hc⟩
      · exfalso; rw [h] at hlt; exact absurd hlt (by simp)
      have hgs : g < w.heap.size := by
        rcases HL.out with h | ⟨g2, o2, e, h2, _⟩
        · exfalso; rw [h] at hlt; exact absurd hlt (by simp)
        · injection e with e; injection e with e1 _; rw [e1]; exact h2
      obtain ⟨c0, c1, c2⟩ := hc k hlt
      have hsz : L[k].pa.size ≤ maxLen := HS.out _ (List.getElem_mem hlt)
      have HE : Hid (byD (L.take (k + 1)) = (byD (L.take k)).put (.string (pth L[k])) (fD L[k])) := by
        show _ = _
        rw [List.take_succ_eq_append_getElem hlt, byD_snoc]
      have HB : Hid (Below w.heap.size w wr) := hb
      have hwz := hb.size
      generalize hx : L[k] = x at c0 c1 c2 hsz HE
      clear hx
      obtain ⟨p, t, r⟩ := x
      simp only at c0 c1 c2 hsz
      have hkey := keyOf_string_mk Tryz.underlying9 hsz
      have hown2 := hown.alloc (.cells #[.string p, .string t, .bool r] 25)
      clear hb hown hc
      go_wp2_with (first
        | (at_mapUpdate; refine wpList_mapUpdate_own _ rfl _ _ _ 44 rfl 9 25 lawS Tryz.underlying44 _ w.heap.size k (byD (L.take k)) rfl hown2 (by unfold maxLen; omega) _ _ _ rfl rfl hkey _ [] (fileE_mk ⟨p, t, r⟩) ?_; intro w1 hown1 hgrow1)
        | go_in)
      refine ⟨⟨k + 1, by omega, by go_num, by rw [HE.out]; exact hown1, ?_⟩, by simp [intOf]; omega⟩
      exact ((HB.out.alloc (by omega) _).grown hgrow1 (by rw [World.size_alloc]; omega) (fun j hj => by cases hj; exact Nat.le_refl _))
    · obtain rfl : k = L.length := by omega
      have HB : Hid (Below w.heap.size w wr) := hb
      have HO : Hid (wr.ownsMap Tryz.prog 9 fileE w.heap.size L.length (byD L)) := by
        rw [List.take_length] at hown
        exact hown
      clear hb hown
      go_wp2
      go_ret
      exact ⟨rfl, HO.out, HB.out⟩
end Go.Proofs.YtkmlooepakinfaaGreatDoor

/- Check: do paths rise? -/
namespace Go.Proofs.YtkmlooepakinfaaGreatDoor
open Go.RowKit Go.Shelf Go.Maps Go.WideMaps

theorem cmpB_neg (x y : ByteArray) : decide (cmpB x y < 0) = decide (x.data.toList < y.data.toList) := by
  unfold cmpB
  rw [Lib.toList_data, Lib.toList_data, tlt]
  by_cases h : x.data.toList < y.data.toList
  · simp [h]
  · by_cases h2 : x.data.toList = y.data.toList
    · simp [h2, List.lt_irrefl]
    · simp [h, h2]

/-- How the look ends. -/
def SortedP (L : List Fl) (w : World) (e : Ending) (w' : World) : Prop := ∃ b, e = .returned (.bool b) ∧ (b = true ↔ adjF L) ∧ Below w.heap.size w w'

set_option maxHeartbeats 2000000 in
set_option maxRecDepth 100000 in
theorem isSorted_any (ao : Option Addr) (cap : Nat) (L : List Fl) (w : World) (hn : L.length ≤ 1000000) (hl : IsFl w ao L) :
    Calls Tryz.prog 26 #[.slice ao L.length cap, .func (.func 27) #[] #[]] w (SortedP L w) := by
  have HL : Hid (IsFl w ao L) := hl
  have hn1 : (L.length : Int) ≤ 1000000 := by omega
  clear hl
  go_enter Tryz.func26, Tryz.ntmps26
  go_wp2
  go_loopw [5] (fun i wr => ∃ k : Nat, k ≤ L.length ∧ i = .int .i64 ((k : Int) - 1) ∧ (∀ j, (hj : j + 1 < L.length) → k ≤ j + 1 → ¬ pth L[j + 1] < pth L[j]) ∧ Below w.heap.size w wr) (fun i _ => (intOf i + 1).toNat)
  case atStart => exact ⟨L.length, Nat.le_refl _, by go_num, fun j hj hjk => by omega, Below.refl _ _⟩
  case round =>
    obtain ⟨k, hk, rfl, hlo, hb⟩ := hrel
    have HO : Hid (∀ j, (hj : j + 1 < L.length) → k ≤ j + 1 → ¬ pth L[j + 1] < pth L[j]) := hlo
    have HB : Hid (Below w.heap.size w wr) := hb
    have hsz := hb.size
    clear hlo
    by_cases hlt : 2 ≤ k
    · obtain ⟨m, rfl⟩ : ∃ m, k = m + 2 := ⟨k - 2, by omega⟩
      have HLB := HL.out.below hb (Nat.le_refl _)
      clear hb
      rcases HLB with h | ⟨g, o, rfl, hgr, hc⟩
      · exfalso; rw [h] at hk; simp at hk
      obtain ⟨a0, a1, a2⟩ := hc m (by omega)
      obtain ⟨b0, b1, b2⟩ := hc (m + 1) (by omega)
      have i0 : (((m + 2 : Nat) : Int) - 1) = (m : Int) + 1 := by omega
      rw [i0]
      have i1 : (0 : Int) ≤ (m : Int) := by omega
      have i2 : (m : Int) < L.length := by omega
      have i3 : (0 : Int) ≤ (m : Int) + 1 := by omega
      have i4 : (m : Int) + 1 < L.length := by omega
      have i5 : IntKind.i64.wrap ((m : Int) + 1 - 1) = m := by rw [wraps_i64 _ (by omega) (by omega)]; omega
      have i6 : IntKind.i64.wrap (m : Int) = m := wraps_i64 _ (by omega) (by omega)
      have i7 : ((m : Int) + 1).toNat = m + 1 := by omega
      generalize hx : L[m] = x at a0 a1 a2
      generalize hy : L[m + 1] = y at b0 b1 b2
      obtain ⟨xp, xt, xr⟩ := x
      obtain ⟨yp, yt, yr⟩ := y
      have HX : Hid (L[m] = ⟨xp, xt, xr⟩) := hx
      have HY : Hid (L[m + 1] = ⟨yp, yt, yr⟩) := hy
      simp only at a0 a1 a2 b0 b1 b2
      clear hx hy hc
      obtain ⟨cv, hcv⟩ : ∃ cv, cv = cmpB yp xp := ⟨_, rfl⟩
      have HC : Hid (∀ W, Calls Tryz.prog 27 #[.agg #[.string yp, .string yt, .bool yr], .agg #[.string xp, .string xt, .bool xr]] W fun e w' => e = .returned (.int .i64 cv) ∧ Below W.heap.size W w') := fun W => by
        rw [hcv]
        exact comparePaths_any ⟨yp, yt, yr⟩ ⟨xp, xt, xr⟩ W
      have HD : Hid (decide (cv < 0) = decide (pth L[m + 1] < pth L[m])) := by
        show _ = _
        rw [hcv, cmpB_neg, HX.out, HY.out]
        rfl
      clear hcv
      by_cases hls : cv < 0
      · have HLS : Hid (cv < 0) := hls
        go_wp2_with fail
        go_region_held3 (fun w' => w'.cell? ⟨g, o + m * 3, none⟩ = some (.string xp) ∧ w'.cell? ⟨g, o + m * 3 + 1, none⟩ = some (.string xt) ∧ w'.cell? ⟨g, o + m * 3 + 2, none⟩ = some (.bool xr) ∧ w'.cell? ⟨g, o + (m + 1) * 3, none⟩ = some (.string yp) ∧ w'.cell? ⟨g, o + (m + 1) * 3 + 1, none⟩ = some (.string yt) ∧ w'.cell? ⟨g, o + (m + 1) * 3 + 2, none⟩ = some (.bool yr) ∧ g < w'.heap.size)
          (first | (simp [go_sem, *]; done) | (go_split_ands; refine ⟨?_, ?_, ?_, ?_, ?_, ?_, ?_⟩ <;> first | (exact Nat.lt_of_lt_of_le (by assumption) hb1.size) | (rw [hb1.cell (p := ⟨g, _, none⟩) (by assumption)]; assumption)))
          (first
            | (go_at_call 27; refine (HC.out _).mono ?_; rintro e w1 ⟨rfl, hb1⟩)
            | fail)
        have HB3 : Hid (Below w.heap.size w w1) := HB.out.drew.trans (hb1.mono HB.out.drew.size)
        clear hb1
        go_wp2
        go_ret
        refine ⟨false, rfl, ⟨fun h => absurd h (by decide), fun h => ?_⟩, HB3.out⟩
        have := h m (by omega)
        have h2 := HD.out
        rw [decide_eq_true HLS.out] at h2
        exact absurd (of_decide_eq_true h2.symm) this
      · have HLS : Hid (0 ≤ cv) := by
          show 0 ≤ cv
          omega
        go_wp2_with fail
        go_region_held3 (fun w' => w'.cell? ⟨g, o + m * 3, none⟩ = some (.string xp) ∧ w'.cell? ⟨g, o + m * 3 + 1, none⟩ = some (.string xt) ∧ w'.cell? ⟨g, o + m * 3 + 2, none⟩ = some (.bool xr) ∧ w'.cell? ⟨g, o + (m + 1) * 3, none⟩ = some (.string yp) ∧ w'.cell? ⟨g, o + (m + 1) * 3 + 1, none⟩ = some (.string yt) ∧ w'.cell? ⟨g, o + (m + 1) * 3 + 2, none⟩ = some (.bool yr) ∧ g < w'.heap.size)
          (first | (simp [go_sem, *]; done) | (go_split_ands; refine ⟨?_, ?_, ?_, ?_, ?_, ?_, ?_⟩ <;> first | (exact Nat.lt_of_lt_of_le (by assumption) hb1.size) | (rw [hb1.cell (p := ⟨g, _, none⟩) (by assumption)]; assumption)))
          (first
            | (go_at_call 27; refine (HC.out _).mono ?_; rintro e w1 ⟨rfl, hb1⟩)
            | fail)
        have HB3 : Hid (Below w.heap.size w w1) := HB.out.drew.trans (hb1.mono HB.out.drew.size)
        clear hb1
        go_wp2
        refine ⟨⟨m + 1, by omega, by go_num, fun j hj hjk => ?_, HB3.out⟩, by simp [intOf]; omega⟩
        by_cases h : m + 2 ≤ j + 1
        · exact HO.out j hj h
        · obtain rfl : j = m := by omega
          intro h3
          have h2 := HD.out
          rw [decide_eq_true h3] at h2
          have h4 : cv < 0 := of_decide_eq_true h2
          have h5 : 0 ≤ cv := HLS.out
          omega
    · clear hb
      have i0 : ¬ (0 : Int) < (k : Int) - 1 := by omega
      go_wp2
      go_ret
      exact ⟨true, rfl, ⟨fun _ => fun j hj => HO.out j hj (by omega), fun _ => rfl⟩, HB.out⟩
end Go.Proofs.YtkmlooepakinfaaGreatDoor
