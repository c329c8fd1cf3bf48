/- What strings.Builder's copyCheck, WriteByte and String do where the builder lies as the first field in a block of another type (wire's packer). -/
import Derived.Test.YtcdgdmhlbgbklaaGreatDoorRows
import Derived.Lib.Builder
import Derived.Lib.AppendStr
import Derived.Lib.UnsafeStr
import Derived.Lib.Strings
import Derived.Lib.Slices
import Derived.Lib.Walk
import Derived.Lib.OthersKept
import Derived.Laws.Externs
import Derived.WalkKit
import Derived.WalkSpells
import Derived.WalkLawsBesides
import Derived.Laws.BitsLemmas
import Derived.Shelf.Strconv.Clone
import Derived.Defers
import Derived.Recover
import Derived.Laws.Pointers
import Derived.Shelf.Strings.Split
import Derived.Deep.RegionWith
import Derived.Laws.BytesString
import Derived.Deep.RegionHeld3
namespace Go.Proofs.YtcdgdmhlbgbklaaGreatDoor
open Go.RowKit

theorem szB : (Tryz.prog.info? 127).map (·.size) = some 2 := by kernel_rfl
theorem lieB : liesAt Tryz.prog Tryz.prog.depth 129 (2 / Tryz.prog.cellsOf 129) 0 127 1 = true := by kernel_rfl
theorem infB : (Tryz.prog.info? 5).map (fun i => (i.zero, i.size, i.bytes)) = some (some (.int .u8 0), 1, 1) := by kernel_rfl
theorem celB : Tryz.prog.cellsOf 5 = 1 := by kernel_rfl

abbrev PkAt (B b : Nat) (p : Value) (bs : List Value) (w : World) : Prop := Lib.BuilderAt 129 5 B b p bs w
abbrev PkIs (B b : Nat) (bs : List Value) (w : World) : Prop := Lib.IsBuilder 129 5 B b bs w

/-- What a write leaves: below B all is as it was; of the rest all but the builder's block b and rows of bytes. -/
def Kp (B b : Nat) (w w' : World) : Prop := Below B w w' ∧ Lib.OthersKept 5 (some b) w w'
theorem Kp.bel {B b : Nat} {w w' : World} (h : Kp B b w w') : Below B w w' := h.1
theorem Kp.size {B b : Nat} {w w' : World} (h : Kp B b w w') : w.heap.size ≤ w'.heap.size := h.1.size
theorem Kp.refl (B b : Nat) (w : World) : Kp B b w w := ⟨Below.refl _ _, Lib.OthersKept.refl _ _ _⟩
theorem Kp.trans {B b : Nat} {a c d : World} (h : Kp B b a c) (k : Kp B b c d) : Kp B b a d := ⟨h.1.trans k.1, h.2.trans k.2⟩
theorem own_kind {w : World} {B : Nat} {e : TypeId} {v : Value} {n : Nat} {xs : List Value} (h : w.ownsRow B e 1 v n xs) : ∀ g, v.ownBlock = some g → ∃ c fz, w.heap[g]? = some (.cells c e fz) := by
  intro g hg
  rcases h.2 with ⟨hv, _⟩ | ⟨g', cap, cur, hv, _, hh, _⟩
  · rw [hv] at hg; cases hg
  · rw [hv] at hg
    obtain rfl : g' = g := by simpa [Value.ownBlock] using hg
    exact ⟨_, _, hh⟩

set_option maxHeartbeats 1000000 in
set_option maxRecDepth 100000 in
theorem cc_used (b : Nat) (w : World) (h0 : w.cell? ⟨b, 0, none⟩ = some (.pointer (some ⟨b, 0, none⟩))) :
    Calls Tryz.prog 138 #[.pointer (some ⟨b, 0, none⟩)] w fun e w' => e = .returned (.tuple #[]) ∧ w' = w := by
  obtain ⟨j, hj, _⟩ := Option.map_eq_some_iff.1 szB
  go_enter Tryz.func138, Tryz.ntmps138
  go_wp2
  rw [Lib.run_neq_ptr_same w _ Tryz.underlying124 hj]
  go_wp2
  go_end0
  exact ⟨rfl, rfl⟩

set_option maxHeartbeats 1000000 in
set_option maxRecDepth 100000 in
theorem cc_fresh (b : Nat) (w : World) (h0 : w.cell? ⟨b, 0, none⟩ = some (.pointer none)) (hsh : w.shape? b = some (129, 2)) (hfz : w.frozen? ⟨b, 0, none⟩ = false) :
    Calls Tryz.prog 138 #[.pointer (some ⟨b, 0, none⟩)] w fun e w' => e = .returned (.tuple #[]) ∧ w' = w.setCell ⟨b, 0, none⟩ (.pointer (some ⟨b, 0, none⟩)) := by
  obtain ⟨j, hj, hjs⟩ := Option.map_eq_some_iff.1 szB
  go_enter Tryz.func138, Tryz.ntmps138
  go_wp2
  rw [Lib.run_to_unsafe w ⟨b, 0, none⟩ Tryz.underlying124 Tryz.underlying205 hj (by rw [hjs]; decide) hsh (Nat.zero_lt_succ 1)]
  simp only [Result.andThen]
  rw [Oper.upon_value]
  go_wp2
  rw [run_callFunc_extern Tryz.func180 (by kernel_rfl) (by kernel_rfl) (by kernel_rfl) (e := Extern.AbiNoEscape.same) (by kernel_rfl)]
  rw [Lib.run_noEscape]
  simp only [Result.andThen]
  rw [Oper.upon_value]
  go_wp2
  rw [Lib.run_from_unsafe w ⟨b, 0, none⟩ Tryz.underlying205 Tryz.underlying124 hj hsh lieB]
  simp only [Result.andThen]
  rw [Oper.upon_value]
  go_wp2
  go_end0
  exact ⟨rfl, rfl⟩

theorem cc_any (B b : Nat) (bs : List Value) (w : World) (h : PkIs B b bs w) :
    Calls Tryz.prog 138 #[.pointer (some ⟨b, 0, none⟩)] w fun e w' => e = .returned (.tuple #[]) ∧ (PkAt B b (.pointer (some ⟨b, 0, none⟩)) bs w' ∧ Kp B b w w') := by
  rcases h with h | h
  · refine (cc_fresh b w h.cell0 h.shape h.frozen0).mono ?_
    rintro e w' ⟨rfl, rfl⟩
    exact ⟨rfl, h.used _, (Below.refl B w).setCell (p := ⟨b, 0, none⟩) h.1 _, (Lib.OthersKept.refl _ _ _).setCell ⟨b, 0, none⟩ rfl _⟩
  · refine (cc_used b w h.cell0).mono ?_
    rintro e w' ⟨rfl, rfl⟩
    exact ⟨rfl, h, Kp.refl _ _ _⟩

set_option maxHeartbeats 1000000 in
set_option maxRecDepth 100000 in
theorem wb_any (B b : Nat) (bs : List Value) (c : Int) (w : World) (h : PkIs B b bs w) (hlen : bs.length + 1 ≤ 140737488355328) (hBw : B ≤ w.heap.size) :
    Calls Tryz.prog 92 #[.pointer (some ⟨b, 0, none⟩), .int .u8 c] w fun e w' => e = .returned .nilIface ∧ (PkAt B b (.pointer (some ⟨b, 0, none⟩)) (bs ++ [.int .u8 c]) w' ∧ Kp B b w w') := by
  obtain ⟨i0, hi, hz0, hz1, hz2⟩ := info_parts infB
  go_enter Tryz.func92, Tryz.ntmps92
  go_wp2_with (go_at_call 138; refine (cc_any B b bs _ h).mono ?_)
  rintro e w1 ⟨rfl, h1, hb1, hk1⟩
  obtain ⟨hB, v, hbk, hown, hne⟩ := h1
  have c0 : w1.cell? ⟨b, 0, none⟩ = some (.pointer (some ⟨b, 0, none⟩)) := by rw [Lib.cell_of_heap hbk]; rfl
  have c1 : w1.cell? ⟨b, 1, none⟩ = some v := by rw [Lib.cell_of_heap hbk]; rfl
  go_wp2_with (at_builtin; refine wpList_append_own _ rfl _ _ 125 rfl B 5 i0 (.int .u8 0) 1 1 Tryz.underlying125 hi hz0 hz1 hz2 rfl (by decide) _ _ _ rfl (hown.alloc _) ⟨w1.heap.size, 0, none⟩ 1 1 [.int .u8 c] rfl rfl ?c1 ?c2 ?c3 ?c4 ?c5 ?_)
  case c1 =>
    intro j u hj
    match j, hj with
    | 0, hj => simp at hj; subst hj; simp [Addr.add]
  case c2 => intro u hu; simp at hu; subst hu; rfl
  case c3 => unfold maxLen; omega
  case c4 => omega
  case c5 => have := hb1.size; simp; omega
  intro v' w2 hown' hgrow _
  have hlt : b < w1.heap.size := by
    rcases Nat.lt_or_ge b w1.heap.size with h' | h'
    · exact h'
    · simp [Array.getElem?_eq_none h'] at hbk
  have hb2 : w2.heap[b]? = some (.cells #[.pointer (some ⟨b, 0, none⟩), v] 129 (0, 0)) := by
    rw [hgrow.block b (by simp; omega) (fun e => hne e.symm), Lib.alloc_old w1 _ b hlt]
    exact hbk
  have d0 : w2.cell? ⟨b, 0, none⟩ = some (.pointer (some ⟨b, 0, none⟩)) := by rw [Lib.cell_of_heap hb2]; rfl
  have d1 : w2.cell? ⟨b, 1, none⟩ = some v := by rw [Lib.cell_of_heap hb2]; rfl
  have f1 : w2.frozen? ⟨b, 1, none⟩ = false := Lib.frozen_of_heap hb2 1
  obtain ⟨g, cap, rfl⟩ : ∃ g cap, v' = .slice (some ⟨g, 0, none⟩) (bs.length + 1) cap := by
    rcases hown'.2 with ⟨_, h0⟩ | ⟨g, cap, cur, hv, _⟩
    · omega
    · exact ⟨g, cap, hv⟩
  go_wp2
  go_ret
  refine ⟨rfl, ?_, ?_, ((hk1.alloc _).grown hgrow (own_kind (hown.alloc _))).setCell ⟨b, 1, none⟩ rfl _⟩
  · exact Lib.BuilderAt.put (T := 129) (e := 5) hB hb2 (bs' := bs ++ [.int .u8 c]) (by simpa using hown') (by decide)
  · exact ((hb1.alloc (by have := hb1.size; omega) _).grown hgrow (by have := hb1.size; simp; omega) (fun k hk => (hown.lt k hk).1)).setCell (p := ⟨b, 1, none⟩) hB _

set_option maxHeartbeats 2000000 in
set_option maxRecDepth 100000 in
theorem st_any (B b : Nat) (l : List UInt8) (w : World) (h : PkIs B b (Lib.byteCells l) w) (h0 : l ≠ []) :
    Calls Tryz.prog 83 #[.pointer (some ⟨b, 0, none⟩)] w fun e w' => e = .returned (.string ⟨l.toArray⟩) ∧ Below B w w' := by
  obtain ⟨p, hB, v, hbk, hown, hne⟩ : ∃ p, PkAt B b p (Lib.byteCells l) w := by
    rcases h with h | h
    · exact ⟨_, h⟩
    · exact ⟨_, h⟩
  have hl0 : l.length ≠ 0 := by simpa using h0
  rw [Lib.byteCells_length] at hown
  obtain ⟨g, cap, cur, rfl, hbg, hg, hnc, hcm, hcs, htake⟩ : ∃ g cap cur, v = .slice (some ⟨g, 0, none⟩) l.length cap ∧ B ≤ g ∧ w.heap[g]? = some (.cells cur 5 (0, 0)) ∧ l.length ≤ cap ∧ cap ≤ maxLen ∧ cur.size = cap * 1 ∧ cur.toList.take (l.length * 1) = Lib.byteCells l := by
    rcases hown.2 with ⟨_, hz⟩ | ⟨g, cap, cur, hv, r⟩
    · exact absurd hz hl0
    · exact ⟨g, cap, cur, hv, r⟩
  have c1 : w.cell? ⟨b, 1, none⟩ = some (.slice (some ⟨g, 0, none⟩) l.length cap) := by rw [Lib.cell_of_heap hbk]; rfl
  have hSD : (Builtin.unsafeSliceData_ #[125] 172 #[.slice (some ⟨g, 0, none⟩) l.length cap]).run Tryz.prog w.drew = .ok (.pointer (some ⟨g, 0, none⟩)) w.drew :=
    Lib.run_unsafeSliceData_row _ _ _ _ _ _ (by omega)
  have hUS : (Builtin.unsafeString_ #[172, 3] 9 #[.pointer (some ⟨g, 0, none⟩), .int .i64 l.length]).run Tryz.prog w.drew = .ok (.string ⟨l.toArray⟩) (w.drew.freeze ⟨g, 0, none⟩ l.length) := by
    refine Lib.run_unsafeString_row w.drew 172 3 9 5 Tryz.underlying172 celB g cur.size (by have hg' : w.drew.heap[g]? = some (.cells cur 5 (0, 0)) := hg; simp [World.shape?, hg']) l h0 (by omega) (by unfold maxLen at hcm; omega) ?_
    intro j x hx
    have := hown.cells (g := g) rfl j (.int .u8 x.toNat) (by simp [Lib.byteCells, hx])
    exact this
  go_enter Tryz.func83, Tryz.ntmps83
  go_wp2
  go_region
  all_goals (go_wp2; go_ret; exact ⟨rfl, Lib.below_freeze (Below.drew (Below.refl B w)) (p := ⟨g, 0, none⟩) hbg _⟩)
end Go.Proofs.YtcdgdmhlbgbklaaGreatDoor

/- Plain functions on lists of bytes: how a number is packed and read, with their laws: no program is named here. -/
namespace Go.Proofs.YtcdgdmhlbgbklaaGreatDoor
open Go.RowKit

def pkF : Nat → Nat → List UInt8
  | 0, n => [UInt8.ofNat n]
  | f + 1, n => if n < 128 then [UInt8.ofNat n] else UInt8.ofNat (n % 128 + 128) :: pkF f (n / 128)
def pk (n : Nat) : List UInt8 := pkF n n

theorem pkF_eq : ∀ f g m : Nat, m ≤ f → m ≤ g → pkF f m = pkF g m := by
  intro f
  induction f with
  | zero =>
    intro g m h1 _
    obtain rfl : m = 0 := by omega
    cases g <;> simp [pkF]
  | succ f ih =>
    intro g m h1 h2
    cases g with
    | zero =>
      obtain rfl : m = 0 := by omega
      simp [pkF]
    | succ g =>
      by_cases h : m < 128
      · simp [pkF, h]
      · simp only [pkF, if_neg h]
        rw [ih g (m / 128) (by omega) (by omega)]
theorem pk_small (m : Nat) (h : m < 128) : pk m = [UInt8.ofNat m] := by
  unfold pk
  cases m with
  | zero => rfl
  | succ k => simp only [pkF, if_pos h]
theorem pk_more (m : Nat) (h : 128 ≤ m) : pk m = UInt8.ofNat (m % 128 + 128) :: pk (m / 128) := by
  unfold pk
  obtain ⟨k, rfl⟩ : ∃ k, m = k + 1 := ⟨m - 1, by omega⟩
  rw [show pkF (k + 1) (k + 1) = UInt8.ofNat ((k + 1) % 128 + 128) :: pkF k ((k + 1) / 128) from by simp only [pkF, if_neg (show ¬ k + 1 < 128 by omega)]]
  rw [pkF_eq k ((k + 1) / 128) _ (by omega) (by omega)]
theorem pk_pos (m : Nat) : 0 < (pk m).length := by
  by_cases h : m < 128
  · rw [pk_small m h]; simp
  · rw [pk_more m (by omega)]; simp

theorem pk_len : ∀ k n : Nat, n < 128 ^ (k + 1) → (pk n).length ≤ k + 1 := by
  intro k
  induction k with
  | zero => intro n h; rw [pk_small n (by simpa using h)]; simp
  | succ k ih =>
    intro n h
    by_cases hs : n < 128
    · rw [pk_small n hs]; simp
    · rw [pk_more n (by omega)]
      have := ih (n / 128) (by rw [Nat.div_lt_iff_lt_mul (by decide)]; rw [Nat.pow_succ] at h; exact h)
      simp; omega
theorem pk_len8 (n : Nat) (h : n ≤ 9007199254740991) : (pk n).length ≤ 8 := pk_len 7 n (by omega)

/-- The number that bytes with seven bits each say, the lowest first. -/
def val : List UInt8 → Nat
  | [] => 0
  | c :: r => c.toNat % 128 + 128 * val r
theorem val_snoc (l : List UInt8) (c : UInt8) : val (l ++ [c]) = val l + 128 ^ l.length * (c.toNat % 128) := by
  induction l with
  | nil => simp [val]
  | cons d r ih => simp only [List.cons_append, val, ih, List.length_cons, Nat.pow_succ, Nat.mul_add]; rw [Nat.mul_comm (128 ^ r.length) 128, Nat.mul_assoc]; omega
theorem val_lt (l : List UInt8) : val l < 128 ^ l.length := by
  induction l with
  | nil => simp [val]
  | cons d r ih =>
    simp only [val, List.length_cons, Nat.pow_succ]
    have : d.toNat % 128 < 128 := Nat.mod_lt _ (by decide)
    omega
theorem take_snoc (s : ByteArray) (k : Nat) (h : k < s.size) : s.data.toList.take (k + 1) = s.data.toList.take k ++ [s[k]] := by
  rw [List.take_succ_eq_append_getElem (by simpa using h)]; rfl
theorem wraps_i64 (n : Int) (h0 : 0 ≤ n) (h1 : n < 2 ^ 63) : IntKind.i64.wrap n = n := by rw [IntKind.wrap_i64]; omega
theorem or_step (m N c : Nat) (hm : m < 8) (hN : N < 128 ^ m) : bits .or .i64 (N : Int) (wrap64 ((c : Int) % 128 * 2 ^ (7 * m))) = ((N + 128 ^ m * (c % 128) : Nat) : Int) := by
  have hp : 128 ^ m = 2 ^ (7 * m) := by rw [Nat.pow_mul]
  have h7 : 2 ^ (7 * m) ≤ 2 ^ 49 := Nat.pow_le_pow_right (by decide) (by omega)
  have hc : c % 128 < 128 := Nat.mod_lt _ (by decide)
  rw [hp] at hN ⊢
  have hy : c % 128 * 2 ^ (7 * m) ≤ 127 * 2 ^ 49 := Nat.mul_le_mul (by omega) h7
  have e1 : (c : Int) % 128 * 2 ^ (7 * m) = ((c % 128 * 2 ^ (7 * m) : Nat) : Int) := by push_cast; rfl
  have e2 : wrap64 ((c : Int) % 128 * 2 ^ (7 * m)) = ((2 ^ (7 * m) * (c % 128) : Nat) : Int) := by
    rw [e1, Nat.mul_comm (2 ^ (7 * m))]
    generalize c % 128 * 2 ^ (7 * m) = y at hy ⊢
    unfold wrap64
    omega
  rw [e2]
  have hy2 : 2 ^ (7 * m) * (c % 128) < 2 ^ 63 := by rw [Nat.mul_comm]; omega
  rw [(bits_nat .i64 63 (by decide) wraps_i64 N _ (by omega) hy2).2, Nat.or_comm, ← Nat.two_pow_add_eq_or_of_lt hN, Nat.add_comm]

theorem pk_form : ∀ f n : Nat, n ≤ f → ∃ d c, pk n = d ++ [c] ∧ (∀ x ∈ d, 128 ≤ x.toNat) ∧ c.toNat < 128 ∧ (d = [] ∨ c.toNat ≠ 0) ∧ (128 ≤ n → d ≠ []) ∧ (0 < n → c.toNat ≠ 0) := by
  intro f
  induction f with
  | zero =>
    intro n h
    obtain rfl : n = 0 := by omega
    exact ⟨[], 0, rfl, by simp, by decide, Or.inl rfl, by omega, by omega⟩
  | succ f ih =>
    intro n h
    by_cases hs : n < 128
    · refine ⟨[], UInt8.ofNat n, by rw [pk_small n hs]; rfl, by simp, ?_, Or.inl rfl, by omega, ?_⟩
      · simp [UInt8.toNat_ofNat']; omega
      · simp [UInt8.toNat_ofNat']; omega
    · obtain ⟨d, c, e, hd, hc, _, _, h0⟩ := ih (n / 128) (by omega)
      have hc0 := h0 (by omega)
      refine ⟨UInt8.ofNat (n % 128 + 128) :: d, c, by rw [pk_more n (by omega), e]; rfl, ?_, hc, Or.inr hc0, by simp, fun _ => hc0⟩
      intro x hx
      rcases List.mem_cons.1 hx with rfl | hx
      · simp [UInt8.toNat_ofNat']; omega
      · exact hd x hx
theorem val_pk : ∀ f n : Nat, n ≤ f → val (pk n) = n := by
  intro f
  induction f with
  | zero =>
    intro n h
    obtain rfl : n = 0 := by omega
    rfl
  | succ f ih =>
    intro n h
    by_cases hs : n < 128
    · rw [pk_small n hs]; simp [val, UInt8.toNat_ofNat']; omega
    · rw [pk_more n (by omega)]
      simp only [val, ih (n / 128) (by omega), UInt8.toNat_ofNat']
      omega
theorem bytes_eq {s : ByteArray} {l : List UInt8} (h : s.data.toList = l) : s = ⟨l.toArray⟩ := by
  subst h
  cases s
  simp
theorem size_of {s : ByteArray} {l : List UInt8} (h : s.data.toList = l) : s.size = l.length := by rw [← h]; exact Array.length_toList.symm
theorem extract_end (s : ByteArray) (a r : List UInt8) (h : s.data.toList = a ++ r) : s.extract a.length s.size = ⟨r.toArray⟩ := by
  apply bytes_eq
  rw [Lib.extract_data]
  have : s.size = (a ++ r).length := size_of h
  rw [h, this]
  simp
theorem extract_mid (s : ByteArray) (a r : List UInt8) (h : s.data.toList = a ++ r) : s.extract 0 a.length = ⟨a.toArray⟩ := by
  apply bytes_eq
  rw [Lib.extract_data, h]
  simp

theorem byteCells_snoc (l : List UInt8) (n : Nat) (h : n < 256) : Lib.byteCells (l ++ [UInt8.ofNat n]) = Lib.byteCells l ++ [Value.int .u8 (n : Int)] := by
  have : (UInt8.ofNat n).toNat = n := by simp [UInt8.toNat_ofNat']; omega
  simp [Lib.byteCells, this]
end Go.Proofs.YtcdgdmhlbgbklaaGreatDoor

/- What wire's packer does with a number, and Number. -/
namespace Go.Proofs.YtcdgdmhlbgbklaaGreatDoor
open Go.RowKit

set_option maxHeartbeats 1000000 in
set_option maxRecDepth 100000 in
theorem number_any (B b n : Nat) (bs : List Value) (w : World) (h : PkIs B b bs w) (hn : n ≤ 9007199254740991) (hlen : bs.length + (pk n).length ≤ 140737488355328) (hBw : B ≤ w.heap.size) :
    Calls Tryz.prog 46 #[.pointer (some ⟨b, 0, none⟩), .int .i64 n] w fun e w' => e = .returned (.tuple #[]) ∧ (PkIs B b (bs ++ Lib.byteCells (pk n)) w' ∧ Kp B b w w') := by
  go_enter Tryz.func46, Tryz.ntmps46
  go_wp2
  go_loopw [1] (fun v wr => ∃ (m : Nat) (d : List UInt8), v = .int .i64 m ∧ m ≤ n ∧ pk n = d ++ pk m ∧ PkIs B b (bs ++ Lib.byteCells d) wr ∧ Kp B b w wr) (fun v _ => (intOf v).toNat)
  case atStart => exact ⟨n, [], rfl, Nat.le_refl _, rfl, by simpa [Lib.byteCells] using h, Kp.refl _ _ _⟩
  case round =>
    obtain ⟨m, d, rfl, hm, hd, hp, hb⟩ := hrel
    have HD : Hid (pk n = d ++ pk m) := hd
    have hle : bs.length + d.length + (pk m).length ≤ 140737488355328 := by rw [hd] at hlen; simp at hlen; omega
    have hpos := pk_pos m
    have hsz := hb.size
    have hmm : (m : Int) ≤ 9007199254740991 := by omega
    clear hd
    have hk1 : bs.length + (Lib.byteCells d).length + 1 ≤ 140737488355328 := by simp [Lib.byteCells]; omega
    have hk2 : B ≤ wr.heap.size := by omega
    clear hle hpos hlen hn h
    by_cases hlt : 128 ≤ m
    · go_wp2_with (go_at_call 92; refine (wb_any B b _ _ _ hp (by simpa using hk1) hk2).mono ?_; rintro e w1 ⟨rfl, h1, hb1⟩)
      refine ⟨⟨m / 128, d ++ [UInt8.ofNat (m % 128 + 128)], by go_num, by omega, ?_, ?_, hb.trans hb1⟩, by simp [intOf]; omega⟩
      · rw [HD.out, pk_more m hlt]; simp
      · rw [byteCells_snoc _ _ (by omega), ← List.append_assoc]
        exact Or.inr (by simpa using h1)
    · go_wp2_with (go_at_call 92; refine (wb_any B b _ _ _ hp (by simpa using hk1) hk2).mono ?_; rintro e w1 ⟨rfl, h1, hb1⟩)
      go_end0
      refine ⟨rfl, ?_, hb.trans hb1⟩
      rw [HD.out, pk_small m (by omega), byteCells_snoc _ _ (by omega), ← List.append_assoc]
      exact Or.inr h1

set_option maxHeartbeats 1000000 in
set_option maxRecDepth 100000 in
theorem packed_int (n : Nat) (w : World) (hn : n ≤ 9007199254740991) :
    Calls Tryz.prog 45 #[.int .i64 n, .func (.func 46) #[] #[]] w fun e w' => e = .returned (.string ⟨(pk n).toArray⟩) ∧ Below w.heap.size w w' := by
  have hl := pk_len8 n hn
  have hpos := pk_pos n
  go_enter Tryz.func45, Tryz.ntmps45
  go_wp2_with fail
  refine (number_any w.heap.size w.heap.size n [] _ (Lib.fresh_isBuilder _ _ w) hn (by simp; omega) (by simp)).mono ?_
  rintro e w1 ⟨rfl, h1, hb1⟩
  go_wp2_with fail
  refine (st_any w.heap.size w.heap.size (pk n) w1 (by simpa using h1) (by intro h; rw [h] at hpos; simp at hpos)).mono ?_
  rintro e w2 ⟨rfl, hb2⟩
  go_wp2
  go_ret
  exact ⟨rfl, (((Below.refl _ _).alloc (Nat.le_refl _) _).trans hb1.bel).trans hb2⟩

set_option maxHeartbeats 1000000 in
theorem isNoNumber_any (n : Int) (w : World) : Calls Tryz.prog 44 #[.int .i64 n] w fun e w' => e = .returned (.bool (decide (n < 0) || decide (9007199254740991 < n))) ∧ w' = w := by
  by_cases h : n < 0
  · go_enter Tryz.func44, Tryz.ntmps44
    go_wp2
    go_ret
    exact ⟨by simp [h], rfl⟩
  · go_enter Tryz.func44, Tryz.ntmps44
    go_wp2
    go_ret
    exact ⟨by simp [Int.not_lt.2 h], rfl⟩

set_option maxHeartbeats 1000000 in
set_option maxRecDepth 100000 in
theorem Number_yes (n : Nat) (w : World) (hn : n ≤ 9007199254740991) :
    Calls Tryz.prog 18 #[.int .i64 n] w fun e w' => e = .returned (.tuple #[.string ⟨(pk n).toArray⟩, .int .i64 0]) ∧ Below w.heap.size w w' := by
  have hb : (decide ((n : Int) < 0) || decide (9007199254740991 < (n : Int))) = false := by simp; omega
  go_enter Tryz.func18, Tryz.ntmps18
  go_wp2_with (go_at_call 44; refine (isNoNumber_any _ _).mono ?_; rintro e w' ⟨rfl, rfl⟩; rw [hb])
  refine (packed_int n _ hn).mono ?_
  rintro e w1 ⟨rfl, hb1⟩
  go_wp2
  go_ret2
  exact ⟨rfl, hb1⟩

set_option maxHeartbeats 1000000 in
set_option maxRecDepth 100000 in
theorem Number_no (n : Int) (w : World) (hn : n < 0 ∨ 9007199254740991 < n) :
    Calls Tryz.prog 18 #[.int .i64 n] w fun e w' => e = .returned (.tuple #[.string ⟨#[]⟩, .int .i64 3]) ∧ w' = w := by
  have hb : (decide (n < 0) || decide (9007199254740991 < n)) = true := by simpa using hn
  clear hn
  go_enter Tryz.func18, Tryz.ntmps18
  go_wp2_with (go_at_call 44; refine (isNoNumber_any _ _).mono ?_; rintro e w' ⟨rfl, rfl⟩; rw [hb])
  go_ret2
  exact ⟨rfl, rfl⟩
end Go.Proofs.YtcdgdmhlbgbklaaGreatDoor

/- What wire's numberSize and ReadNumber answer. -/
namespace Go.Proofs.YtcdgdmhlbgbklaaGreatDoor
open Go.RowKit

set_option maxHeartbeats 400000 in
set_option maxRecDepth 100000 in
theorem numberSize_yes (s : ByteArray) (w : World) (hs : s.size ≤ maxLen) (k : Nat) (hk : k < s.size) (hlo : ∀ j : Nat, (hj : j < k) → 128 ≤ s[j].toNat) (hhi : s[k].toNat < 128) :
    Calls Tryz.prog 47 #[.string s] w fun e w' => e = .returned (.tuple #[.int .i64 (k + 1 : Nat), .bool true]) ∧ w' = w := by
  unfold maxLen at hs
  go_enter Tryz.func47, Tryz.ntmps47
  go_wp2
  go_loop [7] (fun i => ∃ m : Nat, m ≤ k ∧ i = .int .i64 m) (fun i => s.size - (intOf i).toNat)
  case atStart => exact ⟨0, Nat.zero_le _, rfl⟩
  case round =>
    obtain ⟨m, hm, rfl⟩ := hrel
    by_cases hlt : m < k
    · have h1 : 128 ≤ (s[m].toNat : Int) := by have := hlo m hlt; omega
      have h2 : m < s.size := by omega
      clear hlo hhi
      go_wp2
      exact ⟨⟨m + 1, by omega, by go_num⟩, by simp [intOf]; omega⟩
    · obtain rfl : m = k := by omega
      have h1 : (s[m].toNat : Int) < 128 := by omega
      clear hlo hhi
      go_wp2
      go_ret2
      exact ⟨rfl, rfl⟩

set_option maxHeartbeats 1000000 in
set_option maxRecDepth 100000 in
theorem ReadNumber_yes (s : ByteArray) (w : World) (hs : s.size ≤ maxLen) (k : Nat) (hk : k < s.size) (hk8 : k < 8) (hlo : ∀ j : Nat, (hj : j < k) → 128 ≤ s[j].toNat) (hhi : s[k].toNat < 128)
    (hz : k = 0 ∨ s[k].toNat ≠ 0) (hv : val (s.data.toList.take (k + 1)) ≤ 9007199254740991) :
    Calls Tryz.prog 19 #[.string s] w fun e w' => e = .returned (.tuple #[.int .i64 (val (s.data.toList.take (k + 1))), .int .i64 (k + 1 : Nat), .int .i64 0]) ∧ w' = w := by
  have hb : (decide (((val (s.data.toList.take (k + 1)) : Nat) : Int) < 0) || decide (9007199254740991 < ((val (s.data.toList.take (k + 1)) : Nat) : Int))) = false := by simp; omega
  have HB : Hid _ := hb
  have hk0 : (k : Int) < 8 := by omega
  clear hb
  have hsz : (s.size : Int) ≤ 9223372036854775807 := by unfold maxLen at hs; omega
  have hz2 : (k : Int) = 0 ∨ (1 ≤ (k : Int) ∧ ((s[k].toNat : Int) == 0) = false) := by
    rcases Nat.eq_zero_or_pos k with h | h
    · exact Or.inl (by omega)
    · exact Or.inr ⟨by omega, by simp; omega⟩
  have HV : Hid (val (s.data.toList.take (k + 1)) ≤ 9007199254740991) := hv
  have HL : Hid (∀ j : Nat, (hj : j < k) → 128 ≤ s[j].toNat) := hlo
  have HH : Hid (s[k].toNat < 128) := hhi
  have hs' := hs
  clear hz hv hlo hhi
  have hkc : ((k + 1 : Nat) : Int) = (k : Int) + 1 := by omega
  rcases hz2 with hz2 | ⟨hz2, hz3⟩
  all_goals
    go_enter Tryz.func19, Tryz.ntmps19
    go_wp2_with (go_at_call 47; refine (numberSize_yes s _ hs k hk HL.out HH.out).mono ?_; rintro e w' ⟨rfl, rfl⟩)
    go_loop [7, 38] (fun n i => ∃ m : Nat, m ≤ k + 1 ∧ i = .int .i64 m ∧ n = .int .i64 (val (s.data.toList.take m))) (fun _ i => k + 1 - (intOf i).toNat)
    case atStart => exact ⟨0, Nat.zero_le _, rfl, rfl⟩
    case round =>
      obtain ⟨m, hm, rfl, rfl⟩ := hrel
      by_cases hlt : m < k + 1
      · have h2 : m < s.size := by omega
        have hm8 : (m : Int) < 8 := by omega
        have HO : Hid _ := (or_step m (val (s.data.toList.take m)) s[m].toNat (by omega) (by have := val_lt (s.data.toList.take m); simpa [Nat.min_eq_left (Nat.le_of_lt h2)] using this))
        have HT : Hid _ := take_snoc s m h2
        go_wp2
        refine ⟨⟨m + 1, by omega, by go_num, ?_⟩, by simp [intOf]; omega⟩
        rw [HO.out, HT.out, val_snoc]
        congr 4
        simp [Nat.min_eq_left (Nat.le_of_lt h2)]
      · obtain rfl : m = k + 1 := by omega
        go_wp2_with (go_at_call 44; refine (isNoNumber_any _ _).mono ?_; rintro e w' ⟨rfl, rfl⟩; rw [HB.out])
        go_ret3
        exact ⟨by simp [hz2], rfl⟩
end Go.Proofs.YtcdgdmhlbgbklaaGreatDoor

/- What wire's reader does where the text begins with a packed number, or a packed text. -/
namespace Go.Proofs.YtcdgdmhlbgbklaaGreatDoor
open Go.RowKit Go.Shelf

theorem ReadNumber_pk (s : ByteArray) (w : World) (n : Nat) (r : List UInt8) (hs : s.size ≤ maxLen) (hn : n ≤ 9007199254740991) (h : s.data.toList = pk n ++ r) :
    Calls Tryz.prog 19 #[.string s] w fun e w' => e = .returned (.tuple #[.int .i64 n, .int .i64 (pk n).length, .int .i64 0]) ∧ w' = w := by
  obtain ⟨d, c, e, hd, hc, hz, _, _⟩ := pk_form n n (Nat.le_refl _)
  have h8 := pk_len8 n hn
  have hl : (pk n).length = d.length + 1 := by rw [e]; simp
  have hsz := size_of h
  have hk : d.length < s.size := by rw [hsz]; simp; omega
  have hv : val (s.data.toList.take (d.length + 1)) = n := by
    rw [h, ← hl, List.take_left, val_pk n n (Nat.le_refl _)]
  have hat : ∀ j (hj : j < s.size), s[j] = (s.data.toList)[j]'(by rw [h]; rw [hsz] at hj; exact hj) := fun j hj => rfl
  have hl2 : s.data.toList = d ++ (c :: r) := by rw [h, e]; simp
  have hck : s[d.length] = c := by
    rw [hat _ hk]
    rw [List.getElem_of_eq hl2]
    simp
  have := ReadNumber_yes s w hs d.length hk (by omega)
    (fun j hj => by
      rw [hat j (by omega), List.getElem_of_eq hl2, List.getElem_append_left hj]
      exact hd _ (List.getElem_mem _))
    (by rw [hck]; exact hc)
    (by rw [hck]; rcases hz with hz | hz
        · exact Or.inl (by rw [hz]; rfl)
        · exact Or.inr hz)
    (by rw [hv]; exact hn)
  rw [hv] at this
  rw [hl]
  exact this

set_option maxHeartbeats 1000000 in
set_option maxRecDepth 100000 in
theorem rd_number (b : Nat) (s : ByteArray) (w : World) (n : Nat) (r : List UInt8) (hs : s.size ≤ maxLen) (hn : n ≤ 9007199254740991) (h : s.data.toList = pk n ++ r)
    (hc : w.cell? ⟨b, 0, none⟩ = some (.string s)) (hf : w.frozen? ⟨b, 0, none⟩ = false) :
    Calls Tryz.prog 89 #[.pointer (some ⟨b, 0, none⟩)] w fun e w' => e = .returned (.int .i64 n) ∧ ∃ s' : ByteArray, s'.data.toList = r ∧ s'.size ≤ maxLen ∧ w' = w.setCell ⟨b, 0, none⟩ (.string s') := by
  have HE : Hid _ := extract_end s (pk n) r h
  have h1 : ((pk n).length : Int) ≤ (s.size : Int) := by rw [size_of h]; simp; omega
  have H : Hid _ := h
  clear h
  go_enter Tryz.func89, Tryz.ntmps89
  go_wp2_with (go_at_call 19; refine (ReadNumber_pk s _ n r hs hn H.out).mono ?_; rintro e w' ⟨rfl, rfl⟩)
  go_ret
  refine ⟨rfl, ⟨r.toArray⟩, rfl, ?_, by rw [HE.out]⟩
  have e1 := size_of H.out
  have e2 : (⟨r.toArray⟩ : ByteArray).size = r.length := size_of rfl
  rw [e2]
  simp at e1
  omega

/-- The shelf's contract for Clone, laid at this program. -/
def laysC_ren : Ren := ⟨fun | 316 => 179 | n => n, fun | 9 => 9 | 3 => 3 | 4 => 4 | 37 => 125 | 0 => 0 | 127 => 172 | 5 => 5 | n => n, fun | n => n⟩
theorem laysC : Go.Proofs.LaysM.n316 Tryz.prog laysC_ren := {
  mixed := by kernel_rfl
  f316 := Tryz.func179.trans (congrArg some (by kernel_rfl))
  t0 := Tryz.underlying0
  a0 := Tryz.isAgg0
  z0 := Tryz.sizeOf0
  v0 := Tryz.zeroValue0
  t3 := Tryz.underlying3
  a3 := Tryz.isAgg3
  z3 := Tryz.sizeOf3
  v3 := Tryz.zeroValue3
  t4 := Tryz.underlying4
  a4 := Tryz.isAgg4
  z4 := Tryz.sizeOf4
  v4 := Tryz.zeroValue4
  t9 := Tryz.underlying9
  a9 := Tryz.isAgg9
  z9 := Tryz.sizeOf9
  v9 := Tryz.zeroValue9
  t37 := Tryz.underlying125
  a37 := Tryz.isAgg125
  z37 := Tryz.sizeOf125
  v37 := Tryz.zeroValue125
  t127 := Tryz.underlying172
  a127 := Tryz.isAgg172
  z127 := Tryz.sizeOf172
  v127 := Tryz.zeroValue172
  t5 := Tryz.underlying5
  a5 := Tryz.isAgg5
  z5 := Tryz.sizeOf5
  v5 := Tryz.zeroValue5
  i0 := by kernel_rfl
  i3 := by kernel_rfl
  i4 := by kernel_rfl
  i5 := by kernel_rfl
  i9 := by kernel_rfl
  i37 := by kernel_rfl
  i127 := by kernel_rfl }
theorem cloneLite (s : ByteArray) (w : World) (hlim : s.size ≤ 281474976710656) :
    Calls Tryz.prog 179 #[.string s] w fun e w' => e = .returned (.string s) ∧ Below w.heap.size w w' := Any.stringslite_Clone laysC s w hlim
theorem clone_any (s : ByteArray) (w : World) (hlim : s.size ≤ 281474976710656) :
    Calls Tryz.prog 136 #[.string s] w fun e w' => e = .returned (.string s) ∧ Below w.heap.size w w' := by
  go_enter Tryz.func136, Tryz.ntmps136
  go_wp2_with (go_at_call 179; refine (cloneLite s _ hlim).mono ?_; rintro e w' ⟨rfl, hb⟩)
  go_ret
  exact ⟨rfl, hb⟩

theorem grownBy_refl (w : World) (row : Option Nat) : w.grownBy w row := ⟨rfl, rfl, rfl, Nat.le_refl _, fun _ _ _ => rfl⟩
theorem grownBy_trans {a b c : World} {row : Option Nat} (h : a.grownBy b row) (k : b.grownBy c row) : a.grownBy c row :=
  ⟨k.os.trans h.os, k.tape.trans h.tape, k.output.trans h.output, Nat.le_trans h.size k.size, fun i hi hr => (k.block i (Nat.lt_of_lt_of_le hi h.size) hr).trans (h.block i hi hr)⟩
theorem grownBy_set (w : World) (b o : Nat) (v : Value) : w.grownBy (w.setCell ⟨b, o, none⟩ v) (some b) := by
  have h := (Below.refl 0 w).setCell (p := ⟨b, o, none⟩) (Nat.zero_le _) v
  exact ⟨h.os, h.tape, h.output, h.size, fun k _ hr => Below.heap_setCell w ⟨b, o, none⟩ v k (fun e => hr (by rw [e]))⟩
theorem grownBy_below {w w' : World} {row : Option Nat} (h : Below w.heap.size w w') : w.grownBy w' row := ⟨h.os, h.tape, h.output, h.size, fun k hk _ => h.block k hk⟩

set_option maxHeartbeats 1000000 in
set_option maxRecDepth 100000 in
theorem rd_text (b : Nat) (s : ByteArray) (w : World) (t r : List UInt8) (hs : s.size ≤ maxLen) (hn : t.length ≤ 281474976710656) (h : s.data.toList = pk t.length ++ (t ++ r))
    (hc : w.cell? ⟨b, 0, none⟩ = some (.string s)) (hf : w.frozen? ⟨b, 0, none⟩ = false) :
    Calls Tryz.prog 88 #[.pointer (some ⟨b, 0, none⟩)] w fun e w' => e = .returned (.string ⟨t.toArray⟩) ∧ (∃ s' : ByteArray, s'.data.toList = r ∧ s'.size ≤ maxLen ∧ w'.cell? ⟨b, 0, none⟩ = some (.string s')) ∧ w'.frozen? ⟨b, 0, none⟩ = false ∧ w.grownBy w' (some b) := by
  have hbl : b < w.heap.size := World.block_lt_of_cell? w ⟨b, 0, none⟩ hc
  go_enter Tryz.func88, Tryz.ntmps88
  go_wp2_with fail
  refine (rd_number b s _ t.length (t ++ r) hs (by omega) h hc hf).mono ?_
  rintro e w1 ⟨rfl, s1, h1, hs1, rfl⟩
  have hz := size_of h1
  have hle : (t.length : Int) ≤ (s1.size : Int) := by rw [hz]; simp; omega
  have HM : Hid _ := extract_mid s1 t r h1
  have HE : Hid _ := extract_end s1 t r h1
  clear h hz h1 hs
  go_wp2_with fail
  rw [HM.out]
  have hsz2 : (w.setCell ⟨b, 0, none⟩ (.string s1)).heap.size = w.heap.size := by simp
  refine (clone_any ⟨t.toArray⟩ _ (by rw [show (⟨t.toArray⟩ : ByteArray).size = t.length from size_of rfl]; exact hn)).mono ?_
  rintro e w2 ⟨rfl, hb2⟩
  have hc2 : w2.cell? ⟨b, 0, none⟩ = some (.string s1) := by
    rw [hb2.cell (p := ⟨b, 0, none⟩) (by rw [hsz2]; exact hbl)]
    exact World.cell?_setCell_same' _ _ _ (by rw [hc]; rfl)
  have hf2 : w2.frozen? ⟨b, 0, none⟩ = false := by
    rw [hb2.frozen (p := ⟨b, 0, none⟩) (by rw [hsz2]; exact hbl)]
    simp [hf]
  have HB : Hid _ := hb2
  have HS : Hid _ := hsz2
  clear hb2 hsz2 hc hf HM
  go_wp2
  go_ret
  refine ⟨rfl, ⟨s1.extract t.length s1.size, by rw [HE.out], ?_, ?_⟩, ?_, ?_⟩
  · simp; omega
  · exact World.cell?_setCell_same' _ _ _ (by rw [hc2]; rfl)
  · simp [hf2]
  · exact grownBy_trans (grownBy_trans (grownBy_set w b 0 _) (grownBy_below HB.out)) (grownBy_set w2 b 0 _)
end Go.Proofs.YtcdgdmhlbgbklaaGreatDoor

/- What wire's readList does where the text begins with a packed list of texts. -/
namespace Go.Proofs.YtcdgdmhlbgbklaaGreatDoor
open Go.RowKit Go.Shelf

def pkAll : List (List UInt8) → List UInt8
  | [] => []
  | t :: l => pk t.length ++ (t ++ pkAll l)
def strs (l : List (List UInt8)) : List Value := l.map fun t => .string ⟨t.toArray⟩
theorem infS : (Tryz.prog.info? 9).map (fun i => (i.zero, i.size, i.bytes)) = some (some (.string ⟨#[]⟩), 1, 16) := by kernel_rfl

set_option maxHeartbeats 2000000 in
set_option maxRecDepth 100000 in
theorem rd_list (b : Nat) (s : ByteArray) (w : World) (l : List (List UInt8)) (r : List UInt8) (hs : s.size ≤ maxLen) (hl : l.length ≤ 2000) (ht : ∀ t ∈ l, t.length ≤ 281474976710656) (h : s.data.toList = pk l.length ++ (pkAll l ++ r))
    (hc : w.cell? ⟨b, 0, none⟩ = some (.string s)) (hf : w.frozen? ⟨b, 0, none⟩ = false) :
    Calls Tryz.prog 94 #[.pointer (some ⟨b, 0, none⟩), .int .i64 2000, .func (.func 88) #[] #[]] w fun e w' => ∃ v, e = .returned v ∧ w'.ownsRow w.heap.size 9 1 v l.length (strs l) ∧ (∃ s' : ByteArray, s'.data.toList = r ∧ s'.size ≤ maxLen ∧ w'.cell? ⟨b, 0, none⟩ = some (.string s')) ∧ w'.frozen? ⟨b, 0, none⟩ = false ∧ w.grownBy w' (some b) := by
  obtain ⟨i0, hi, hz0, hz1, hz2⟩ := info_parts infS
  have hbl : b < w.heap.size := World.block_lt_of_cell? w ⟨b, 0, none⟩ hc
  go_enter Tryz.func94, Tryz.ntmps94
  go_wp2_with fail
  refine (rd_number b s _ l.length (pkAll l ++ r) hs (by omega) h hc hf).mono ?_
  rintro e w1 ⟨rfl, s1, h1, hs1, rfl⟩
  have hle : (l.length : Int) ≤ 2000 := by omega
  have H1 : Hid _ := h1
  have HC : Hid _ := hc
  have HT : Hid _ := ht
  clear h h1 hs hc ht
  go_wp2_with (at_make; refine wpList_make_own _ rfl _ _ 22 rfl w.heap.size 9 i0 (.string ⟨#[]⟩) 1 Tryz.underlying22 hi hz0 hz1 _ _ _ l.length rfl rfl ?m1 ?m2 ?m3 ?m4 ?_)
  case m1 => rfl
  case m2 => rw [hz2]; omega
  case m3 => unfold maxLen; omega
  case m4 => simp
  intro w2 hown hg2
  have hc2 : w2.cell? ⟨b, 0, none⟩ = some (.string s1) := hg2.cell (World.cell?_setCell_same' _ _ _ (by rw [HC.out]; rfl)) (by simp)
  have hf2 : w2.frozen? ⟨b, 0, none⟩ = false := by
    rw [World.frozen?_of_block (w := w.setCell ⟨b, 0, none⟩ (.string s1)) (hg2.block b (by simp; exact hbl) (by simp))]
    simpa using hf
  have hgr : w.grownBy w2 (some b) := grownBy_trans (grownBy_set w b 0 _) ⟨hg2.os, hg2.tape, hg2.output, hg2.size, fun k hk _ => hg2.block k hk (by simp)⟩
  clear hg2 hf
  go_wp2
  go_loopw [8, 18] (fun v i wr => ∃ k : Nat, k ≤ l.length ∧ i = .int .i64 k ∧ wr.ownsRow w.heap.size 9 1 v k (strs (l.take k)) ∧ (∃ s' : ByteArray, s'.data.toList = pkAll (l.drop k) ++ r ∧ s'.size ≤ maxLen ∧ wr.cell? ⟨b, 0, none⟩ = some (.string s')) ∧ wr.frozen? ⟨b, 0, none⟩ = false ∧ w.grownBy wr (some b)) (fun _ i _ => l.length - (intOf i).toNat)
  case atStart => exact ⟨0, Nat.zero_le _, rfl, by simpa [strs] using hown, ⟨s1, by simpa using H1.out, hs1, hc2⟩, hf2, hgr⟩
  case round =>
    obtain ⟨k, hk, rfl, hok, ⟨s2, h2, hs2, hck⟩, hfk, hgk⟩ := hrel
    clear hown hc2 hf2 hgr
    have H2 : Hid _ := h2
    have hsz := hgk.size
    clear h2
    by_cases hlt : k < l.length
    · obtain ⟨t, ht⟩ : ∃ t, l[k]? = some t := ⟨l[k], List.getElem?_eq_getElem hlt⟩
      have HD : Hid (l.drop k = t :: l.drop (k + 1)) := by
        obtain ⟨h', rfl⟩ := List.getElem?_eq_some_iff.1 ht
        exact List.drop_eq_getElem_cons h'
      have HK : Hid (l.take (k + 1) = l.take k ++ [t]) := by
        obtain ⟨h', rfl⟩ := List.getElem?_eq_some_iff.1 ht
        exact List.take_succ_eq_append_getElem h'
      have hle1 : t.length ≤ 281474976710656 := HT.out t (List.mem_of_getElem? ht)
      clear ht
      go_wp2_with fail
      refine (rd_text b s2 _ t (pkAll (l.drop (k + 1)) ++ r) hs2 hle1 (by rw [H2.out, HD.out]; simp [pkAll]) hck hfk).mono ?_
      rintro e w3 ⟨rfl, ⟨s3, h3, hs3, hc3⟩, hf3, hg3⟩
      have hok3 := hok.kept hg3 (Or.inr (fun e => by have := hok.lt b e; omega))
      have HG3 : Hid _ := grownBy_trans hgk hg3
      have H3 : Hid _ := h3
      have hsz3 := hg3.size
      clear hok hg3 h3 hck hfk hgk
      go_wp2_with (at_builtin; refine wpList_append_own _ rfl _ _ 22 rfl w.heap.size 9 i0 (.string ⟨#[]⟩) 1 16 Tryz.underlying22 hi hz0 hz1 hz2 rfl (by decide) _ _ _ rfl (hok3.alloc _) ⟨w3.heap.size, 0, none⟩ 1 1 [.string ⟨t.toArray⟩] rfl rfl ?c1 ?c2 ?c3 ?c4 ?c5 ?_)
      case c1 =>
        intro j u hj
        match j, hj with
        | 0, hj => simp at hj; subst hj; simp [Addr.add]
      case c2 => intro u hu; simp at hu; subst hu; rfl
      case c3 => unfold maxLen; omega
      case c4 => omega
      case c5 => simp; omega
      intro v' w4 hown4 hg4 _
      have hrow : ∀ j, u8.ownBlock = some j → w.heap.size ≤ j := fun j hj => (hok3.lt j hj).1
      have hnb : some b ≠ u8.ownBlock := fun e => by have := hrow b e.symm; omega
      have hlt3 : b < w3.heap.size := by omega
      have hc4 : w4.cell? ⟨b, 0, none⟩ = some (.string s3) := by
        rw [World.cell?_of_block (w := w3) ((hg4.block b (by simp; omega) hnb).trans (Below.heap_alloc w3 _ b hlt3))]
        exact hc3
      have hf4 : w4.frozen? ⟨b, 0, none⟩ = false := by
        rw [World.frozen?_of_block (w := w3) ((hg4.block b (by simp; omega) hnb).trans (Below.heap_alloc w3 _ b hlt3))]
        exact hf3
      have HG4 : Hid (w.grownBy w4 (some b)) := by
        have g1 := HG3.out
        have hs4 := hg4.size
        refine ⟨hg4.os.trans g1.os, hg4.tape.trans g1.tape, hg4.output.trans g1.output, by simp at hs4; omega, fun j hj hr => ?_⟩
        rw [hg4.block j (by simp; omega) (fun e => by have := hrow j e.symm; omega), Below.heap_alloc w3 _ j (by omega)]
        exact g1.block j hj hr
      have HO : Hid _ := hown4
      clear hown4 hg4 hok3 hrow hnb hc3 hf3
      go_wp2
      refine ⟨⟨k + 1, by omega, by go_num, ?_, ⟨s3, H3.out, hs3, hc4⟩, hf4, HG4.out⟩, by simp [intOf]; omega⟩
      rw [HK.out, show strs (l.take k ++ [t]) = strs (l.take k) ++ [.string ⟨t.toArray⟩] from by simp [strs]]
      exact HO.out
    · obtain rfl : k = l.length := by omega
      go_wp2
      go_ret
      refine ⟨_, rfl, by simpa using hok, ⟨s2, by simpa [pkAll] using H2.out, hs2, hck⟩, hfk, hgk⟩
end Go.Proofs.YtcdgdmhlbgbklaaGreatDoor

/- What textsError answers: whether there are too many texts, or one is too long. -/
namespace Go.Proofs.YtcdgdmhlbgbklaaGreatDoor
open Go.RowKit Go.Shelf

theorem isTooLong_any (s : ByteArray) (w : World) : Calls Tryz.prog 79 #[.string s] w fun e w' => e = .returned (.bool (decide (100000 < s.size))) ∧ w' = w := by
  go_enter Tryz.func79, Tryz.ntmps79
  go_wp2
  go_ret
  exact ⟨by simp; omega, rfl⟩

set_option maxHeartbeats 1000000 in
set_option maxRecDepth 100000 in
theorem idx_none (g o cap : Nat) (ss : List ByteArray) (w : World) (hn : ss.length ≤ 4611686018427387904) (hcell : ∀ j (hj : j < ss.length), w.cell? ⟨g, o + j, none⟩ = some (.string ss[j])) (hs : ∀ s ∈ ss, s.size ≤ 100000) :
    Calls Tryz.prog 95 #[.slice (some ⟨g, o, none⟩) ss.length cap, .func (.func 79) #[] #[]] w fun e w' => e = .returned (.int .i64 (-1)) ∧ w' = w := by
  have HC : Hid _ := hcell
  have HS : Hid _ := hs
  have hn1 : (ss.length : Int) ≤ 4611686018427387904 := by omega
  clear hcell hs
  go_enter Tryz.func95, Tryz.ntmps95
  go_wp2
  go_loop [8] (fun i => ∃ k : Nat, k ≤ ss.length ∧ i = .int .i64 k) (fun i => ss.length - (intOf i).toNat)
  case atStart => exact ⟨0, Nat.zero_le _, rfl⟩
  case round =>
    obtain ⟨k, hk, rfl⟩ := hrel
    by_cases hlt : k < ss.length
    · have hc := HC.out k hlt
      have hb : decide (100000 < (ss[k]).size) = false := by have := HS.out _ (List.getElem_mem hlt); simp; omega
      go_wp2_with (go_at_call 79; refine (isTooLong_any _ _).mono ?_; rintro e w' ⟨rfl, rfl⟩; rw [hb])
      exact ⟨⟨k + 1, by omega, by go_num⟩, by simp [intOf]; omega⟩
    · go_wp2
      go_ret
      exact ⟨rfl, rfl⟩

set_option maxHeartbeats 1000000 in
set_option maxRecDepth 100000 in
theorem idx_some (g o cap : Nat) (ss : List ByteArray) (w : World) (hn : ss.length ≤ 4611686018427387904) (hcell : ∀ j (hj : j < ss.length), w.cell? ⟨g, o + j, none⟩ = some (.string ss[j])) (hs : ∃ s ∈ ss, 100000 < s.size) :
    Calls Tryz.prog 95 #[.slice (some ⟨g, o, none⟩) ss.length cap, .func (.func 79) #[] #[]] w fun e w' => (∃ k : Nat, e = .returned (.int .i64 k)) ∧ w' = w := by
  have HC : Hid _ := hcell
  have HS : Hid _ := hs
  have hn1 : (ss.length : Int) ≤ 4611686018427387904 := by omega
  clear hcell hs
  go_enter Tryz.func95, Tryz.ntmps95
  go_wp2
  go_loop [8] (fun i => ∃ k : Nat, k ≤ ss.length ∧ i = .int .i64 k ∧ ∀ j (hj : j < ss.length), j < k → ss[j].size ≤ 100000) (fun i => ss.length - (intOf i).toNat)
  case atStart => exact ⟨0, Nat.zero_le _, rfl, by omega⟩
  case round =>
    obtain ⟨k, hk, rfl, hlo⟩ := hrel
    have HL : Hid _ := hlo
    clear hlo
    by_cases hlt : k < ss.length
    · have hc := HC.out k hlt
      by_cases hb : 100000 < (ss[k]).size
      · have hb' : decide (100000 < (ss[k]).size) = true := by simpa using hb
        clear hb
        go_wp2_with (go_at_call 79; refine (isTooLong_any _ _).mono ?_; rintro e w' ⟨rfl, rfl⟩; rw [hb'])
        go_ret
        exact ⟨⟨k, rfl⟩, rfl⟩
      · have hb' : decide (100000 < (ss[k]).size) = false := by simpa using hb
        have HB : Hid _ := hb
        clear hb
        go_wp2_with (go_at_call 79; refine (isTooLong_any _ _).mono ?_; rintro e w' ⟨rfl, rfl⟩; rw [hb'])
        refine ⟨⟨k + 1, by omega, by go_num, fun j hj hjk => ?_⟩, by simp [intOf]; omega⟩
        by_cases h : j < k
        · exact HL.out j hj h
        · obtain rfl : j = k := by omega
          exact Nat.le_of_not_lt HB.out
    · exfalso
      obtain ⟨s, hs, hlong⟩ := HS.out
      obtain ⟨j, hj, rfl⟩ := List.getElem_of_mem hs
      have := HL.out j hj (by omega)
      omega

set_option maxHeartbeats 1000000 in
theorem cf_none (g o cap : Nat) (ss : List ByteArray) (w : World) (hn : ss.length ≤ 4611686018427387904) (hcell : ∀ j (hj : j < ss.length), w.cell? ⟨g, o + j, none⟩ = some (.string ss[j])) (hs : ∀ s ∈ ss, s.size ≤ 100000) :
    Calls Tryz.prog 51 #[.slice (some ⟨g, o, none⟩) ss.length cap, .func (.func 79) #[] #[]] w fun e w' => e = .returned (.bool false) ∧ w' = w := by
  have HC : Hid _ := hcell
  have HS : Hid _ := hs
  clear hcell hs
  go_enter Tryz.func51, Tryz.ntmps51
  go_wp2_with (go_at_call 95; refine (idx_none g o cap ss _ hn HC.out HS.out).mono ?_; rintro e w' ⟨rfl, rfl⟩)
  go_ret
  exact ⟨rfl, rfl⟩

set_option maxHeartbeats 1000000 in
theorem cf_some (g o cap : Nat) (ss : List ByteArray) (w : World) (hn : ss.length ≤ 4611686018427387904) (hcell : ∀ j (hj : j < ss.length), w.cell? ⟨g, o + j, none⟩ = some (.string ss[j])) (hs : ∃ s ∈ ss, 100000 < s.size) :
    Calls Tryz.prog 51 #[.slice (some ⟨g, o, none⟩) ss.length cap, .func (.func 79) #[] #[]] w fun e w' => e = .returned (.bool true) ∧ w' = w := by
  have HC : Hid _ := hcell
  have HS : Hid _ := hs
  clear hcell hs
  go_enter Tryz.func51, Tryz.ntmps51
  go_wp2_with (go_at_call 95; refine (idx_some g o cap ss _ hn HC.out HS.out).mono ?_; rintro e w' ⟨⟨k, rfl⟩, rfl⟩)
  go_ret
  exact ⟨rfl, rfl⟩

set_option maxHeartbeats 1000000 in
set_option maxRecDepth 100000 in
theorem cf_zero (a : Option Addr) (cap : Nat) (w : World) :
    Calls Tryz.prog 51 #[.slice a 0 cap, .func (.func 79) #[] #[]] w fun e w' => e = .returned (.bool false) ∧ w' = w := by
  go_enter Tryz.func51, Tryz.ntmps51
  go_wp2
  refine wp_loop_rounds 1 ?_
  rw [rounds_succ]
  go_wp2
  go_ret
  exact ⟨rfl, rfl⟩

set_option maxHeartbeats 1000000 in
theorem te_ok (v : Value) (n : Nat) (hv : ∃ a cap, v = .slice a n cap) (w : World) (hn : n ≤ 2000) (hcf : Calls Tryz.prog 51 #[v, .func (.func 79) #[] #[]] w fun e w' => e = .returned (.bool false) ∧ w' = w) :
    Calls Tryz.prog 50 #[v] w fun e w' => e = .returned (.int .i64 0) ∧ w' = w := by
  obtain ⟨a, cap, rfl⟩ := hv
  have HC : Hid (Calls Tryz.prog 51 #[.slice a n cap, .func (.func 79) #[] #[]] w fun e w' => e = .returned (.bool false) ∧ w' = w) := hcf
  have hn1 : (n : Int) ≤ 2000 := by omega
  clear hcf
  go_enter Tryz.func50, Tryz.ntmps50
  go_wp2_with fail
  refine (HC.out).mono ?_
  rintro e w' ⟨rfl, rfl⟩
  go_wp2
  go_ret
  exact ⟨rfl, rfl⟩

set_option maxHeartbeats 1000000 in
theorem te_long (v : Value) (n : Nat) (hv : ∃ a cap, v = .slice a n cap) (w : World) (hn : n ≤ 2000) (hcf : Calls Tryz.prog 51 #[v, .func (.func 79) #[] #[]] w fun e w' => e = .returned (.bool true) ∧ w' = w) :
    Calls Tryz.prog 50 #[v] w fun e w' => e = .returned (.int .i64 2) ∧ w' = w := by
  obtain ⟨a, cap, rfl⟩ := hv
  have HC : Hid (Calls Tryz.prog 51 #[.slice a n cap, .func (.func 79) #[] #[]] w fun e w' => e = .returned (.bool true) ∧ w' = w) := hcf
  have hn1 : (n : Int) ≤ 2000 := by omega
  clear hcf
  go_enter Tryz.func50, Tryz.ntmps50
  go_wp2_with fail
  refine (HC.out).mono ?_
  rintro e w' ⟨rfl, rfl⟩
  go_wp2
  go_ret
  exact ⟨rfl, rfl⟩

set_option maxHeartbeats 1000000 in
theorem te_many (a : Option Addr) (n cap : Nat) (w : World) (hn : 2000 < n) :
    Calls Tryz.prog 50 #[.slice a n cap] w fun e w' => e = .returned (.int .i64 2) ∧ w' = w := by
  have hn1 : 2000 < (n : Int) := by omega
  go_enter Tryz.func50, Tryz.ntmps50
  go_wp2
  go_ret
  exact ⟨rfl, rfl⟩
end Go.Proofs.YtcdgdmhlbgbklaaGreatDoor

/- What ReadTexts answers at a packed list of texts. -/
namespace Go.Proofs.YtcdgdmhlbgbklaaGreatDoor
open Go.RowKit Go.Shelf

set_option maxHeartbeats 1000000 in
theorem rd_texts (b : Nat) (s : ByteArray) (w : World) (l : List (List UInt8)) (r : List UInt8) (hs : s.size ≤ maxLen) (hl : l.length ≤ 2000) (ht : ∀ t ∈ l, t.length ≤ 281474976710656) (h : s.data.toList = pk l.length ++ (pkAll l ++ r))
    (hc : w.cell? ⟨b, 0, none⟩ = some (.string s)) (hf : w.frozen? ⟨b, 0, none⟩ = false) :
    Calls Tryz.prog 49 #[.pointer (some ⟨b, 0, none⟩)] w fun e w' => ∃ v, e = .returned v ∧ w'.ownsRow w.heap.size 9 1 v l.length (strs l) ∧ (∃ s' : ByteArray, s'.data.toList = r ∧ s'.size ≤ maxLen ∧ w'.cell? ⟨b, 0, none⟩ = some (.string s')) ∧ w'.frozen? ⟨b, 0, none⟩ = false ∧ w.grownBy w' (some b) := by
  have H : Hid _ := h
  have HT : Hid _ := ht
  clear h ht
  go_enter Tryz.func49, Tryz.ntmps49
  go_wp2_with fail
  refine (rd_list b s w l r hs hl HT.out H.out hc hf).mono ?_
  rintro e w1 ⟨v, rfl, h1, h2, h3, h4⟩
  go_wp2
  go_ret
  exact ⟨v, rfl, h1, h2, h3, h4⟩

theorem catch_idle (p q : Addr) (w : World) :
    CallsD Tryz.prog 93 #[.pointer (some p), .pointer (some q)] .returning w fun e u' w' => e = .returned (.tuple #[]) ∧ u' = .returning ∧ w' = w := by
  refine callsD_of_wpS Tryz.func93 rfl fun c₀ cs hu => ?_
  apply wpS_seq
  apply wpS_region
  simp [wpOpsS, go_sem, recoverD, hu, Tryz.ntmps93, Exit.thenS]
  refine wpS_cond (t := false) (by simp [Act.eval, Array.replicate]) ?_
  simp only [Bool.false_eq_true, if_false]
  refine wpS_of_wp (wp_skip ?_)
  cases c₀
  simp_all [bodyPostS, results, Tryz.results93]

theorem own_shape {w : World} {base : Nat} {e : TypeId} {size : Nat} {v : Value} {n : Nat} {xs : List Value} (h : w.ownsRow base e size v n xs) : ∃ a cap, v = .slice a n cap := by
  rcases h.2 with ⟨h1, h2⟩ | ⟨g, cap, cur, hv, _⟩
  · exact ⟨none, 0, by rw [h1, h2]⟩
  · exact ⟨_, _, hv⟩
theorem own_mono {w : World} {base base' : Nat} {e : TypeId} {size : Nat} {v : Value} {n : Nat} {xs : List Value} (h : w.ownsRow base e size v n xs) (hb : base' ≤ base) : w.ownsRow base' e size v n xs := by
  refine ⟨h.1, ?_⟩
  rcases h.2 with h2 | ⟨g, cap, cur, hv, hg, r⟩
  · exact Or.inl h2
  · exact Or.inr ⟨g, cap, cur, hv, Nat.le_trans hb hg, r⟩
theorem addr_add (g o j : Nat) : (⟨g, o, none⟩ : Addr).add j = ⟨g, o + j, none⟩ := by
  unfold Addr.add
  split <;> simp_all

theorem te_own (base : Nat) (v : Value) (l : List (List UInt8)) (w : World) (hown : w.ownsRow base 9 1 v l.length (strs l)) (hl : l.length ≤ 2000) (ht : ∀ t ∈ l, t.length ≤ 100000) :
    Calls Tryz.prog 50 #[v] w fun e w' => e = .returned (.int .i64 0) ∧ w' = w := by
  refine te_ok v l.length (own_shape hown) w hl ?_
  have hcells := fun (g : Nat) (hg : v.ownBlock = some g) => hown.cells hg
  rcases hown.2 with ⟨h1, h2⟩ | ⟨g, cap, cur, hv, _⟩
  · rw [h1]; exact cf_zero none 0 w
  · subst hv
    have hlen : (l.map fun t => (⟨t.toArray⟩ : ByteArray)).length = l.length := by simp
    have := cf_none g 0 cap (l.map fun t => (⟨t.toArray⟩ : ByteArray)) w (by rw [hlen]; omega)
      (fun j hj => by
        have := hcells g rfl j (.string (l.map fun t => (⟨t.toArray⟩ : ByteArray))[j]) (by rw [hlen] at hj; simp [strs, List.getElem?_map, List.getElem?_eq_getElem hj])
        rw [show (⟨g, 0, none⟩ : Addr).add j = ⟨g, 0 + j, none⟩ from addr_add g 0 j] at this
        exact this)
      (fun s hs => by
        obtain ⟨t, htl, rfl⟩ := List.mem_map.1 hs
        rw [show (⟨t.toArray⟩ : ByteArray).size = t.length from size_of rfl]
        exact ht t htl)
    rw [hlen] at this
    exact this

set_option maxHeartbeats 2000000 in
set_option maxRecDepth 100000 in
theorem whole_texts (s : ByteArray) (w : World) (l : List (List UInt8)) (hs : s.size ≤ maxLen) (hl : l.length ≤ 2000) (ht : ∀ t ∈ l, t.length ≤ 100000) (h : s.data.toList = pk l.length ++ (pkAll l ++ [])) :
    Calls Tryz.prog 48 #[.string s, .func (.func 49) #[] #[], .func (.func 50) #[] #[]] w fun e w' => ∃ v, e = .returned (.tuple #[v, .int .i64 0]) ∧ w'.ownsRow w.heap.size 9 1 v l.length (strs l) ∧ Below w.heap.size w w' := by
  have hmf : ∀ (fn : Fn) (first cap : Array Value) (w : World), (Instr.makeFunc fn first cap).run Tryz.prog w = .ok (.func fn first cap) w := fun _ _ _ _ => rfl
  have H : Hid _ := h
  have HT : Hid _ := ht
  clear h ht
  go_enter_defers Tryz.func48, Tryz.ntmps48
  go_wp2_with fail
  refine (rd_texts (w.heap.size + 1 + 1) s _ l [] hs hl (fun t h => Nat.le_trans (HT.out t h) (by decide)) H.out (by simp [go_sem]) (by simp [go_sem])).mono ?_
  rintro e w1 ⟨v, rfl, hown, ⟨s1, hs1, _, hc1⟩, hf1, hg1⟩
  obtain rfl : s1 = ⟨#[]⟩ := bytes_eq hs1
  have hcv : w1.cell? ⟨w.heap.size, 0, none⟩ = some (.slice none 0 0) := hg1.cell (by simp [go_sem]) (by simp; omega)
  have hce : w1.cell? ⟨w.heap.size + 1, 0, none⟩ = some (.int .i64 0) := hg1.cell (by simp [go_sem]) (by simp)
  have hfv : w1.frozen? ⟨w.heap.size, 0, none⟩ = false := by
    rw [World.frozen?_of_block (hg1.block w.heap.size (by simp; omega) (by simp; omega))]; simp [go_sem]
  have hfe : w1.frozen? ⟨w.heap.size + 1, 0, none⟩ = false := by
    rw [World.frozen?_of_block (hg1.block (w.heap.size + 1) (by simp) (by simp))]; simp [go_sem]
  obtain ⟨a, cap, rfl⟩ := own_shape hown
  have hown' : w1.ownsRow (w.heap.size + 1 + 1 + 1) 9 1 (.slice a l.length cap) l.length (strs l) := by simpa using hown
  have HO : Hid (∀ u1 u2 u3 : Value, ((w1.setCell ⟨w.heap.size, 0, none⟩ u1).ownsRow (w.heap.size + 1 + 1 + 1) 9 1 (.slice a l.length cap) l.length (strs l)) ∧
      (((w1.setCell ⟨w.heap.size, 0, none⟩ u1).setCell ⟨w.heap.size, 0, none⟩ u2).setCell ⟨w.heap.size + 1, 0, none⟩ u3).ownsRow w.heap.size 9 1 (.slice a l.length cap) l.length (strs l)) := by
    intro u1 u2 u3
    have k1 := ownsRow_setCell_below hown' (a := ⟨w.heap.size, 0, none⟩) (by show w.heap.size < _; omega) u1
    have k2 := ownsRow_setCell_below k1 (a := ⟨w.heap.size, 0, none⟩) (by show w.heap.size < _; omega) u2
    exact ⟨k1, own_mono (ownsRow_setCell_below k2 (a := ⟨w.heap.size + 1, 0, none⟩) (by show w.heap.size + 1 < _; omega) u3) (by omega)⟩
  have HB : Hid (Below w.heap.size w w1) := ((((Below.refl _ _).alloc (Nat.le_refl _) _).alloc (by simp) _).alloc (by simp; omega) _).grown hg1 (by simp; omega) (by intro k hk; cases hk; omega)
  clear hown hown' hg1 hs1 hf1 H
  go_wp2_with fail
  refine (te_own _ _ l _ (HO.out _ .nilIface .nilIface).1 hl HT.out).mono ?_
  rintro e w2 ⟨rfl, rfl⟩
  go_wp2
  refine leaves_cons (f := 93) (args := #[.pointer (some ⟨w.heap.size, 0, none⟩), .pointer (some ⟨w.heap.size + 1, 0, none⟩)]) (by simp) (by simp [go_sem]) ?_
  refine (catch_idle ⟨w.heap.size, 0, none⟩ ⟨w.heap.size + 1, 0, none⟩ _).mono ?_
  rintro e u' w'' ⟨rfl, rfl, rfl⟩
  have q0 : ((w1.setCell ⟨w.heap.size, 0, none⟩ (.slice a l.length cap)).setCell ⟨w.heap.size, 0, none⟩ (.slice a l.length cap)).cell? ⟨w.heap.size, 0, none⟩ = some (.slice a l.length cap) :=
    World.cell?_setCell_same' _ _ _ (by rw [World.cell?_setCell_same' _ _ _ (by rw [hcv]; rfl)]; rfl)
  have q1 : (((w1.setCell ⟨w.heap.size, 0, none⟩ (.slice a l.length cap)).setCell ⟨w.heap.size, 0, none⟩ (.slice a l.length cap)).setCell ⟨w.heap.size + 1, 0, none⟩ (.int .i64 0)).cell? ⟨w.heap.size + 1, 0, none⟩ = some (.int .i64 0) :=
    World.cell?_setCell_same' _ _ _ (by simp [go_sem, hce])
  simp [Leaves, settle, results, Tryz.results48, go_sem, q0, q1]
  exact ⟨(HO.out _ _ _).2, ((HB.out.setCell (p := ⟨w.heap.size, 0, none⟩) (Nat.le_refl _) _).setCell (p := ⟨w.heap.size, 0, none⟩) (Nat.le_refl _) _).setCell (p := ⟨w.heap.size + 1, 0, none⟩) (Nat.le_succ _) _⟩

set_option maxHeartbeats 1000000 in
theorem ReadTexts_pk (s : ByteArray) (w : World) (l : List (List UInt8)) (hs : s.size ≤ maxLen) (hl : l.length ≤ 2000) (ht : ∀ t ∈ l, t.length ≤ 100000) (h : s.data.toList = pk l.length ++ pkAll l) :
    Calls Tryz.prog 20 #[.string s] w fun e w' => ∃ v, e = .returned (.tuple #[v, .int .i64 0]) ∧ w'.ownsRow w.heap.size 9 1 v l.length (strs l) ∧ Below w.heap.size w w' := by
  have H : Hid (s.data.toList = pk l.length ++ (pkAll l ++ [])) := by show _ = _; rw [h]; simp
  have HT : Hid _ := ht
  clear h ht
  go_enter Tryz.func20, Tryz.ntmps20
  go_wp2_with fail
  refine (whole_texts s w l hs hl HT.out H.out).mono ?_
  rintro e w1 ⟨v, rfl, h1, h2⟩
  go_wp2
  go_ret2
  exact ⟨v, rfl, h1, h2⟩
end Go.Proofs.YtcdgdmhlbgbklaaGreatDoor

/- What the document's own SameTexts answers; texts that are read as a slice. -/
namespace Go.Proofs.YtcdgdmhlbgbklaaGreatDoor
open Go.RowKit Go.Shelf

/-- A value that is a slice of these texts. -/
def IsTexts (w : World) (v : Value) (ss : List ByteArray) : Prop :=
  ss.length ≤ 4611686018427387904 ∧ ∃ a cap, v = .slice a ss.length cap ∧ (ss = [] ∨ ∃ g o, a = some ⟨g, o, none⟩ ∧ ∀ j (hj : j < ss.length), w.cell? ⟨g, o + j, none⟩ = some (.string ss[j]))

set_option maxHeartbeats 1000000 in
theorem same_ne (a a' : Option Addr) (n n' cap cap' : Nat) (w : World) (h : n ≠ n') :
    Calls Tryz.prog 9 #[.slice a n cap, .slice a' n' cap'] w fun e w' => e = .returned (.bool false) ∧ w' = w := by
  have h1 : ((n : Int) != (n' : Int)) = true := by rw [bne_iff_ne]; omega
  clear h
  go_enter Tryz.func9, Tryz.ntmps9
  go_wp2
  go_ret
  exact ⟨rfl, rfl⟩

set_option maxHeartbeats 1000000 in
theorem same_zero (a a' : Option Addr) (cap cap' : Nat) (w : World) :
    Calls Tryz.prog 9 #[.slice a 0 cap, .slice a' 0 cap'] w fun e w' => e = .returned (.bool true) ∧ w' = w := by
  go_enter Tryz.func9, Tryz.ntmps9
  go_wp2
  refine wp_loop_rounds 1 ?_
  rw [rounds_succ]
  go_wp2
  go_ret
  exact ⟨rfl, rfl⟩

set_option maxHeartbeats 2000000 in
set_option maxRecDepth 100000 in
theorem same_eq (g o cap g' o' cap' : Nat) (ss ss' : List ByteArray) (w : World) (hn : ss.length ≤ 4611686018427387904) (hl : ss'.length = ss.length)
    (hc : ∀ j (hj : j < ss.length), w.cell? ⟨g, o + j, none⟩ = some (.string ss[j])) (hc' : ∀ j (hj : j < ss'.length), w.cell? ⟨g', o' + j, none⟩ = some (.string ss'[j])) :
    Calls Tryz.prog 9 #[.slice (some ⟨g, o, none⟩) ss.length cap, .slice (some ⟨g', o', none⟩) ss.length cap'] w fun e w' => e = .returned (.bool (decide (ss = ss'))) ∧ ∃ n, w' = w.drewN n := by
  have HC : Hid _ := hc
  have HC' : Hid _ := hc'
  have HL : Hid _ := hl
  have hn1 : (ss.length : Int) ≤ 4611686018427387904 := by omega
  clear hc hc' hl
  go_enter Tryz.func9, Tryz.ntmps9
  go_wp2
  go_loopw [5] (fun i wr => ∃ k m : Nat, k ≤ ss.length ∧ i = .int .i64 k ∧ ss.take k = ss'.take k ∧ wr = w.drewN m) (fun i _ => ss.length - (intOf i).toNat)
  case atStart => exact ⟨0, 0, Nat.zero_le _, rfl, rfl, rfl⟩
  case round =>
    obtain ⟨k, m, hk, rfl, ht, rfl⟩ := hrel
    have HK : Hid _ := ht
    clear ht
    by_cases hlt : k < ss.length
    · have hlt' : k < ss'.length := by rw [HL.out]; exact hlt
      have c1 := HC.out k hlt
      have c2 := HC'.out k hlt'
      by_cases he : ss[k] = ss'[k]
      · have hb : (ss[k].toList == ss'[k].toList) = true := by rw [he]; simp
        have HE : Hid _ := he
        clear he
        go_wp2
        go_region
        all_goals go_wp2
        all_goals
          refine ⟨⟨k + 1, m + 1, by omega, by go_num, ?_, rfl⟩, by simp [intOf]; omega⟩
          rw [List.take_succ_eq_append_getElem hlt, List.take_succ_eq_append_getElem hlt', HK.out, HE.out]
      · have hb : (ss[k].toList == ss'[k].toList) = false := by
          rw [beq_eq_false_iff_ne]
          intro h
          rw [Lib.toList_data, Lib.toList_data] at h
          exact he ((bytes_eq h).trans (bytes_eq rfl).symm)
        have HE : Hid (ss[k] ≠ ss'[k]) := he
        clear he
        go_wp2
        go_region
        all_goals go_wp2
        all_goals
          go_ret
          refine ⟨?_, m + 1, rfl⟩
          have hne : ss ≠ ss' := fun h => HE.out (by subst h; rfl)
          simp [hne]
    · go_wp2
      go_ret
      refine ⟨?_, m, rfl⟩
      have heq : ss = ss' := by
        have h := HK.out
        rwa [List.take_of_length_le (by omega), List.take_of_length_le (by rw [HL.out]; omega)] at h
      simp [heq]

theorem same_any (w : World) (v v' : Value) (ss ss' : List ByteArray) (h : IsTexts w v ss) (h' : IsTexts w v' ss') :
    Calls Tryz.prog 9 #[v, v'] w fun e w' => e = .returned (.bool (decide (ss = ss'))) ∧ ∃ n, w' = w.drewN n := by
  obtain ⟨hn, a, cap, rfl, hs⟩ := h
  obtain ⟨_, a', cap', rfl, hs'⟩ := h'
  by_cases hl : ss.length = ss'.length
  · by_cases h0 : ss.length = 0
    · have k1 : ss = [] := List.length_eq_zero_iff.1 h0
      have k2 : ss' = [] := List.length_eq_zero_iff.1 (by omega)
      subst k1 k2
      refine (same_zero a a' cap cap' w).mono ?_
      rintro e w' ⟨rfl, rfl⟩
      exact ⟨by simp, 0, rfl⟩
    · rcases hs with rfl | ⟨g, o, rfl, hc⟩
      · simp at h0
      rcases hs' with rfl | ⟨g', o', rfl, hc'⟩
      · simp at hl; simp [hl] at h0
      rw [← hl]
      exact same_eq g o cap g' o' cap' ss ss' w hn hl.symm hc hc'
  · refine (same_ne a a' _ _ cap cap' w hl).mono ?_
    rintro e w' ⟨rfl, rfl⟩
    have hne : ss ≠ ss' := fun h => hl (by rw [h])
    exact ⟨by simp [hne], 0, rfl⟩

theorem own_texts {w : World} {base : Nat} {v : Value} {l : List (List UInt8)} (h : w.ownsRow base 9 1 v l.length (strs l)) (hl : l.length ≤ 4611686018427387904) : IsTexts w v (l.map fun t => ⟨t.toArray⟩) := by
  refine ⟨by simpa using hl, ?_⟩
  have hcells := fun (g : Nat) (hg : v.ownBlock = some g) => h.cells hg
  rcases h.2 with ⟨h1, h2⟩ | ⟨g, cap, cur, hv, _⟩
  · exact ⟨none, 0, by rw [h1]; simp [h2], Or.inl (by rw [List.length_eq_zero_iff.1 h2]; rfl)⟩
  · refine ⟨some ⟨g, 0, none⟩, cap, by simpa using hv, Or.inr ⟨g, 0, rfl, fun j hj => ?_⟩⟩
    have hj' : j < l.length := by simpa using hj
    have := hcells g (by rw [hv]; rfl) j (.string (l.map fun t => (⟨t.toArray⟩ : ByteArray))[j]) (by simp [strs, List.getElem?_map, List.getElem?_eq_getElem hj'])
    rw [show (⟨g, 0, none⟩ : Addr).add j = ⟨g, 0 + j, none⟩ from addr_add g 0 j] at this
    exact this

set_option maxHeartbeats 2000000 in
set_option maxRecDepth 100000 in
theorem wireBegun_any (w : World) : Calls Tryz.prog 5 #[] w fun e w' => e = .returned (.bool true) ∧ Below w.heap.size w w' := by
  go_enter Tryz.func5, Tryz.ntmps5
  go_wp2_with fail
  refine (Number_yes 300 w (by decide)).mono ?_
  rintro e w1 ⟨rfl, hb1⟩
  have hl2 : (pk 300).length = 2 := by decide
  have hl3 : ((pk 300).length : Int) = 2 := by rw [hl2]; rfl
  have hsz : (⟨(pk 300).toArray⟩ : ByteArray).size = 2 := (size_of rfl).trans hl2
  go_wp2_with fail
  refine (ReadNumber_pk ⟨(pk 300).toArray⟩ w1 300 [] (by rw [hsz]; decide) (by decide) (by simp)).mono ?_
  rintro e w1' ⟨rfl, rfl⟩
  go_wp2_with fail
  refine (ReadTexts_pk ⟨#[1, 1, 97]⟩ w1' [[97]] (by decide) (by decide) (by decide) (by decide)).mono ?_
  rintro e w2 ⟨v, rfl, hown, hb2⟩
  obtain ⟨a, cap, rfl⟩ := own_shape hown
  have HO : Hid (w2.ownsRow w1'.heap.size 9 1 (.slice a [[97]].length cap) [[97]].length (strs [[97]])) := hown
  have HB1 : Hid _ := hb1
  have HB2 : Hid _ := hb2
  clear hown hb1 hb2
  go_wp2_with fail
  have t1 : IsTexts (w2.alloc (.cells #[.string ⟨#[97]⟩] 9)) (.slice a 1 cap) [⟨#[97]⟩] := own_texts (HO.out.alloc _) (by decide)
  have t2 : IsTexts (w2.alloc (.cells #[.string ⟨#[97]⟩] 9)) (.slice (some ⟨w2.heap.size, 0, none⟩) 1 1) [⟨#[97]⟩] :=
    ⟨by decide, some ⟨w2.heap.size, 0, none⟩, 1, rfl, Or.inr ⟨w2.heap.size, 0, rfl, fun j hj => by
      obtain rfl : j = 0 := by simp at hj; exact hj
      simp [go_sem]⟩⟩
  refine (same_any _ _ _ _ _ t1 t2).mono ?_
  rintro e w3 ⟨rfl, n, rfl⟩
  go_wp2
  go_ret
  refine ⟨by simp, ?_⟩
  have b1 := HB1.out
  have b2 := HB2.out
  have b3 : Below w.heap.size w w2 := b1.trans (b2.mono b1.size)
  have b4 := b3.alloc (o := .cells #[.string ⟨#[97]⟩] 9) b3.size
  exact ⟨b4.os, b4.tape, b4.output, b4.size, b4.block⟩
end Go.Proofs.YtcdgdmhlbgbklaaGreatDoor

/- What IsName answers, the program's and the document's own. -/
namespace Go.Proofs.YtcdgdmhlbgbklaaGreatDoor
open Go.RowKit Go.Shelf

def nmB (c : Int) : Bool := decide (97 ≤ c ∧ c ≤ 122) || decide (48 ≤ c ∧ c ≤ 57) || (c == 95) || (c == 45) || (c == 46)

set_option maxHeartbeats 2000000 in
theorem isNameByte_any (c : Int) (w : World) (h0 : 0 ≤ c) (h1 : c < 256) :
    Calls Tryz.prog 188 #[.int .u8 c] w fun e w' => e = .returned (.bool (nmB c)) ∧ w' = w := by
  by_cases a1 : 97 ≤ c
  · by_cases a2 : c ≤ 122
    · go_enter Tryz.func188, Tryz.ntmps188
      go_wp2
      go_ret
      exact ⟨by simp [nmB, a1, a2], rfl⟩
    · have e1 : (c == 95) = false := by simp; omega
      have e2 : (c == 45) = false := by simp; omega
      have e3 : (c == 46) = false := by simp; omega
      have d1 : decide (c ≤ 57) = false := by simp; omega
      have d2 : decide (c ≤ 122) = false := by simp; omega
      have HF : Hid (nmB c = false) := by show _ = _; simp [nmB, e1, e2, e3]; omega
      clear a2
      go_enter Tryz.func188, Tryz.ntmps188
      go_wp2
      go_ret
      exact ⟨by rw [HF.out]; rfl, rfl⟩
  · by_cases a2 : 48 ≤ c ∧ c ≤ 57
    · obtain ⟨a2, a3⟩ := a2
      go_enter Tryz.func188, Tryz.ntmps188
      go_wp2
      go_ret
      exact ⟨by simp [nmB, a2, a3], rfl⟩
    · by_cases b1 : c = 95
      · subst b1
        go_enter Tryz.func188, Tryz.ntmps188
        go_wp2
        go_ret
        exact ⟨by rw [show nmB 95 = true from by decide]; rfl, rfl⟩
      · by_cases b2 : c = 45
        · subst b2
          go_enter Tryz.func188, Tryz.ntmps188
          go_wp2
          go_ret
          exact ⟨by rw [show nmB 45 = true from by decide]; rfl, rfl⟩
        · by_cases b3 : c = 46
          · subst b3
            go_enter Tryz.func188, Tryz.ntmps188
            go_wp2
            go_ret
            exact ⟨by rw [show nmB 46 = true from by decide]; rfl, rfl⟩
          · have e1 : (c == 95) = false := by simpa using b1
            have e2 : (c == 45) = false := by simpa using b2
            have e3 : (c == 46) = false := by simpa using b3
            have hf : nmB c = false := by simp [nmB, e1, e2, e3]; omega
            have HF : Hid _ := hf
            clear hf b1 b2 b3
            rcases Int.lt_or_le c 48 with a3 | a3
            · clear a2
              go_enter Tryz.func188, Tryz.ntmps188
              go_wp2
              go_ret
              exact ⟨by rw [HF.out]; rfl, rfl⟩
            · have a4 : decide (c ≤ 57) = false := by simp; omega
              clear a2
              go_enter Tryz.func188, Tryz.ntmps188
              go_wp2
              go_ret
              exact ⟨by rw [HF.out]; rfl, rfl⟩

def nameOk (s : ByteArray) : Bool := !(s.toList == []) && decide (s.size ≤ 20) && !(s.toList == [46]) && !(s.toList == [46, 46]) && (s.toList.all fun c => nmB c.toNat)

theorem toList_get (s : ByteArray) (k : Nat) (h : k < s.size) : s.toList[k]? = some s[k] := by
  rw [Lib.toList_data]
  have : k < s.data.toList.length := by rw [← size_of (s := s) rfl]; exact h
  rw [List.getElem?_eq_getElem this]
  rfl
theorem all_false (s : ByteArray) (k : Nat) (h : k < s.size) (f : UInt8 → Bool) (hf : f s[k] = false) : s.toList.all f = false := by
  rw [List.all_eq_false]
  exact ⟨s[k], List.mem_of_getElem? (toList_get s k h), by simp [hf]⟩
theorem all_true (s : ByteArray) (f : UInt8 → Bool) (hf : ∀ j (hj : j < s.size), f s[j] = true) : s.toList.all f = true := by
  rw [List.all_eq_true]
  intro c hc
  obtain ⟨j, hj, rfl⟩ := List.getElem_of_mem hc
  have hj' : j < s.size := by rw [Lib.toList_data] at hj; rw [size_of (s := s) rfl]; exact hj
  have := toList_get s j hj'
  rw [List.getElem?_eq_getElem hj] at this
  rw [Option.some.inj this]
  exact hf j hj'

set_option maxHeartbeats 1000000 in
set_option maxRecDepth 100000 in
theorem IsName_any (s : ByteArray) (w : World) (hs : s.size ≤ maxLen) :
    Calls Tryz.prog 154 #[.string s] w fun e w' => e = .returned (.bool (nameOk s)) ∧ w' = w := by
  have hsz : (s.size : Int) ≤ 9223372036854775807 := by unfold maxLen at hs; omega
  clear hs
  by_cases h1 : s.toList.isEmpty = true
  · have HF : Hid (nameOk s = false) := by show _ = _; rw [List.isEmpty_iff] at h1; simp [nameOk, h1]
    go_enter Tryz.func154, Tryz.ntmps154
    go_wp2
    go_ret
    exact ⟨by rw [HF.out]; rfl, rfl⟩
  have h1' : s.toList.isEmpty = false := by simpa using h1
  have h1n : (s.toList == []) = false := by cases h : s.toList <;> simp_all
  have H1 : Hid _ := h1n
  clear h1 h1n
  by_cases h2 : 20 < s.size
  · have h2' : (20 : Int) < s.size := by omega
    have HF : Hid (nameOk s = false) := by show _ = _; simp [nameOk, Nat.not_le.2 h2]
    clear h2
    go_enter Tryz.func154, Tryz.ntmps154
    go_wp2
    go_ret
    exact ⟨by rw [HF.out]; rfl, rfl⟩
  have h2' : (s.size : Int) ≤ 20 := by omega
  have H2 : Hid (s.size ≤ 20) := Nat.le_of_not_lt h2
  clear h2
  by_cases h3 : (s.toList == [46]) = true
  · have HF : Hid (nameOk s = false) := by show _ = _; simp [nameOk, h3]
    go_enter Tryz.func154, Tryz.ntmps154
    go_wp2
    go_ret
    exact ⟨by rw [HF.out]; rfl, rfl⟩
  have h3' : (s.toList == [46]) = false := by simpa using h3
  clear h3
  by_cases h4 : (s.toList == [46, 46]) = true
  · have HF : Hid (nameOk s = false) := by show _ = _; simp [nameOk, h4]
    go_enter Tryz.func154, Tryz.ntmps154
    go_wp2
    go_ret
    exact ⟨by rw [HF.out]; rfl, rfl⟩
  have h4' : (s.toList == [46, 46]) = false := by simpa using h4
  clear h4
  have HN : Hid (nameOk s = s.toList.all fun c => nmB c.toNat) := by show _ = _; simp only [nameOk, H1.out, h3', h4', H2.out]; simp
  go_enter Tryz.func154, Tryz.ntmps154
  go_wp2
  go_loop [21] (fun i => ∃ k : Nat, k ≤ s.size ∧ i = .int .i64 k ∧ ∀ j (hj : j < s.size), j < k → nmB s[j].toNat = true) (fun i => s.size - (intOf i).toNat)
  case atStart => exact ⟨0, Nat.zero_le _, rfl, by omega⟩
  case round =>
    obtain ⟨k, hk, rfl, hlo⟩ := hrel
    have HL : Hid _ := hlo
    clear hlo
    by_cases hlt : k < s.size
    · by_cases hb : nmB s[k].toNat = true
      · go_wp2_with (go_at_call 188; refine (isNameByte_any _ _ (by omega) (by have := s[k].toNat_lt; omega)).mono ?_; rintro e w' ⟨rfl, rfl⟩; rw [hb])
        refine ⟨⟨k + 1, by omega, by go_num, fun j hj hjk => ?_⟩, by simp [intOf]; omega⟩
        by_cases h : j < k
        · exact HL.out j hj h
        · obtain rfl : j = k := by omega
          exact hb
      · have hb' : nmB s[k].toNat = false := by simpa using hb
        clear hb
        have HF : Hid (nameOk s = false) := by show _ = _; rw [HN.out]; exact all_false s k hlt _ hb'
        go_wp2_with (go_at_call 188; refine (isNameByte_any _ _ (by omega) (by have := s[k].toNat_lt; omega)).mono ?_; rintro e w' ⟨rfl, rfl⟩; rw [hb'])
        go_ret
        exact ⟨by rw [HF.out]; rfl, rfl⟩
    · have HF : Hid (nameOk s = true) := by show _ = _; rw [HN.out]; exact all_true s _ (fun j hj => HL.out j hj (by omega))
      go_wp2
      go_ret
      exact ⟨by rw [HF.out]; rfl, rfl⟩
end Go.Proofs.YtcdgdmhlbgbklaaGreatDoor

/- Parts between slashes: as the library splits a text, and as one reads byte by byte. -/
namespace Go.Proofs.YtcdgdmhlbgbklaaGreatDoor
open Go.RowKit Go.Shelf

/-- The parts of a text between slashes, behind cur. -/
def parts : List UInt8 → List UInt8 → List (List UInt8)
  | cur, [] => [cur]
  | cur, c :: l => if c = 47 then cur :: parts [] l else parts (cur ++ [c]) l

theorem parts_ne (l : List UInt8) : ∀ cur, parts cur l ≠ [] := by
  induction l with
  | nil => intro cur h; cases h
  | cons c l ih =>
    intro cur
    unfold parts
    by_cases h : c = 47
    · rw [if_pos h]; intro h'; cases h'
    · rw [if_neg h]; exact ih _
theorem parts_slash (l : List UInt8) : ∀ cur, parts cur (l ++ [47]) = parts cur l ++ [[]] := by
  induction l with
  | nil => intro cur; rfl
  | cons c l ih =>
    intro cur
    rw [List.cons_append]
    unfold parts
    by_cases h : c = 47
    · rw [if_pos h, if_pos h, ih]; rfl
    · rw [if_neg h, if_neg h, ih]
theorem parts_snoc (l : List UInt8) (c : UInt8) (hc : c ≠ 47) : ∀ cur, ∃ ps p, parts cur l = ps ++ [p] ∧ parts cur (l ++ [c]) = ps ++ [p ++ [c]] := by
  induction l with
  | nil => intro cur; exact ⟨[], cur, rfl, by show (if c = 47 then _ else _) = _; rw [if_neg hc]; rfl⟩
  | cons b l ih =>
    intro cur
    rw [List.cons_append]
    unfold parts
    by_cases h : b = 47
    · rw [if_pos h, if_pos h]
      obtain ⟨ps, p, e1, e2⟩ := ih []
      exact ⟨cur :: ps, p, by rw [e1]; rfl, by rw [e2]; rfl⟩
    · rw [if_neg h, if_neg h]
      exact ih _
theorem parts_len (l : List UInt8) : ∀ cur, (parts cur l).length ≤ l.length + 1 := by
  induction l with
  | nil => intro cur; exact Nat.le_refl _
  | cons c l ih =>
    intro cur
    unfold parts
    by_cases h : c = 47
    · rw [if_pos h]; have := ih []; simp only [List.length_cons]; omega
    · rw [if_neg h]; have := ih (cur ++ [c]); simp only [List.length_cons]; omega
theorem parts_mem (l : List UInt8) : ∀ cur, ∀ p ∈ parts cur l, p.length ≤ cur.length + l.length := by
  induction l with
  | nil => intro cur p hp; obtain rfl := List.mem_singleton.1 hp; simp
  | cons c l ih =>
    intro cur p hp
    unfold parts at hp
    by_cases h : c = 47
    · rw [if_pos h] at hp
      rcases List.mem_cons.1 hp with rfl | hp
      · simp
      · have := ih [] p hp; simp only [List.length_cons, List.length_nil] at *; omega
    · rw [if_neg h] at hp
      have := ih _ p hp
      simp only [List.length_append, List.length_cons, List.length_nil] at *
      omega

theorem parts_miss (s : List UInt8) : ∀ cur, Lib.indexByte s 47 = -1 → parts cur s = [cur ++ s] := by
  induction s with
  | nil => intro cur _; simp [parts]
  | cons b l ih =>
    intro cur h
    unfold Lib.indexByte at h
    by_cases hb : b = 47
    · rw [hb] at h; simp at h
    · have hb' : (b == 47) = false := beq_eq_false_iff_ne.2 hb
      rw [hb'] at h
      unfold parts
      rw [if_neg hb]
      have hl : Lib.indexByte l 47 = -1 := by
        by_cases h1 : Lib.indexByte l 47 = -1
        · exact h1
        · have := Lib.indexByte_ge l 47
          simp [h1] at h
          omega
      rw [ih _ hl]
      simp
theorem parts_hit (s : List UInt8) : ∀ cur (i : Nat), Lib.indexByte s 47 = i → parts cur s = (cur ++ s.take i) :: parts [] (s.drop (i + 1)) := by
  induction s with
  | nil => intro cur i h; simp [Lib.indexByte] at h
  | cons b l ih =>
    intro cur i h
    unfold Lib.indexByte at h
    by_cases hb : b = 47
    · subst hb
      simp at h
      obtain rfl : i = 0 := by omega
      simp [parts]
    · have hb' : (b == 47) = false := beq_eq_false_iff_ne.2 hb
      rw [hb'] at h
      show (if b = 47 then cur :: parts [] l else parts (cur ++ [b]) l) = _
      rw [if_neg hb]
      have hge := Lib.indexByte_ge l 47
      by_cases h1 : Lib.indexByte l 47 = -1
      · simp [h1] at h
      · simp [h1] at h
        obtain ⟨k, rfl⟩ : ∃ k, i = k + 1 := ⟨i - 1, by omega⟩
        rw [ih (cur ++ [b]) k (by omega)]
        simp

theorem split_parts : ∀ (n : Nat) (s : List UInt8), s.length ≤ n → Lib.splitK [47] 0 (Lib.count s [47]) s = parts [] s := by
  intro n
  induction n with
  | zero =>
    intro s hs
    obtain rfl : s = [] := List.length_eq_zero_iff.1 (by omega)
    rfl
  | succ n ih =>
    intro s hs
    by_cases h : Lib.index s [47] = -1
    · rw [Lib.count_miss h, parts_miss s [] (by rw [← Lib.index_one]; exact h)]
      rfl
    · have hge := Lib.index_ge s [47]
      obtain ⟨i, hi⟩ : ∃ i : Nat, Lib.index s [47] = i := ⟨(Lib.index s [47]).toNat, by omega⟩
      have hm : ¬ (Lib.index s [47] == -1) = true := fun e => h (beq_iff_eq.1 e)
      have hr := Lib.index_room s [47] (by omega)
      rw [Lib.count_hit (by simp) hi, Nat.add_comm, Lib.splitK, if_neg hm, hi]
      have e : ((i : Int)).toNat = i := by omega
      rw [e, parts_hit s [] i (by rw [← Lib.index_one]; exact hi)]
      rw [hi] at hr
      have hd : (s.drop (i + 1)).length ≤ n := by rw [List.length_drop]; simp at hr; omega
      rw [show ([47] : List UInt8).length = 1 from rfl, ih _ hd]
      simp

abbrev slash : ByteArray := ⟨#[47]⟩
def piecesB (s : ByteArray) : List ByteArray := (parts [] s.data.toList).map fun p => ⟨p.toArray⟩
theorem splitB_pieces (s : ByteArray) : Lib.splitB slash 0 (Lib.countB s slash) s = piecesB s := by
  have h := Lib.splitB_data slash 0 (Lib.countB s slash) s
  have h2 : Lib.splitK slash.data.toList 0 (Lib.countB s slash) s.data.toList = parts [] s.data.toList := split_parts _ _ (Nat.le_refl _)
  rw [h2] at h
  unfold piecesB
  rw [← h, List.map_map]
  conv => lhs; rw [← List.map_id (Lib.splitB slash 0 (Lib.countB s slash) s)]
  exact List.map_congr_left fun x _ => rfl
def pathOk (s : ByteArray) : Bool := decide (s.size ≤ 100) && (piecesB s).all nameOk
end Go.Proofs.YtcdgdmhlbgbklaaGreatDoor

/- What the document's own IsName answers. -/
namespace Go.Proofs.YtcdgdmhlbgbklaaGreatDoor
open Go.RowKit Go.Shelf

theorem nm_cls (c : Int) (h : nmB c = true) : (97 ≤ c ∧ c ≤ 122) ∨ (c < 97 ∧ 48 ≤ c ∧ c ≤ 57) ∨ c = 95 ∨ c = 45 ∨ c = 46 := by
  simp [nmB] at h
  omega
theorem nm_cls_no (c : Int) (h : nmB c = false) : ((c == 95) = false ∧ (c == 45) = false ∧ (c == 46) = false) ∧ (c < 48 ∨ (48 ≤ c ∧ decide (c ≤ 57) = false ∧ c < 97) ∨ (97 ≤ c ∧ decide (c ≤ 122) = false ∧ decide (c ≤ 57) = false)) := by
  simp [nmB] at h ⊢
  omega

theorem name_cls (s : ByteArray) : (s.size = 0 ∧ (s.toList.all (fun c => nmB c.toNat) = true → nameOk s = false)) ∨
    (1 ≤ (s.size : Int) ∧ decide ((s.size : Int) ≤ 20) = false ∧ (s.toList.all (fun c => nmB c.toNat) = true → nameOk s = false)) ∨
    (1 ≤ (s.size : Int) ∧ (s.size : Int) ≤ 20 ∧ (s.toList == [46]) = true ∧ (s.toList.all (fun c => nmB c.toNat) = true → nameOk s = false)) ∨
    (1 ≤ (s.size : Int) ∧ (s.size : Int) ≤ 20 ∧ (s.toList == [46]) = false ∧ (s.toList == [46, 46]) = true ∧ (s.toList.all (fun c => nmB c.toNat) = true → nameOk s = false)) ∨
    (1 ≤ (s.size : Int) ∧ (s.size : Int) ≤ 20 ∧ (s.toList == [46]) = false ∧ (s.toList == [46, 46]) = false ∧ (s.toList.all (fun c => nmB c.toNat) = true → nameOk s = true)) := by
  have hl : s.toList.length = s.size := by rw [Lib.toList_data]; exact (size_of (s := s) rfl).symm
  by_cases h0 : s.size = 0
  · refine Or.inl ⟨h0, fun _ => ?_⟩
    have : s.toList = [] := List.length_eq_zero_iff.1 (by omega)
    simp [nameOk, this]
  have h1 : (s.toList == []) = false := by
    rw [beq_eq_false_iff_ne]
    intro h
    rw [h] at hl
    simp at hl
    omega
  refine Or.inr ?_
  by_cases h2 : s.size ≤ 20
  · refine Or.inr ?_
    by_cases h3 : (s.toList == [46]) = true
    · exact Or.inl ⟨by omega, by omega, h3, fun _ => by simp [nameOk, h3]⟩
    have h3' : (s.toList == [46]) = false := by simpa using h3
    refine Or.inr ?_
    by_cases h4 : (s.toList == [46, 46]) = true
    · exact Or.inl ⟨by omega, by omega, h3', h4, fun _ => by simp [nameOk, h4]⟩
    have h4' : (s.toList == [46, 46]) = false := by simpa using h4
    exact Or.inr ⟨by omega, by omega, h3', h4', fun h => by simp only [nameOk, h1, h3', h4', h, h2]; simp⟩
  · exact Or.inl ⟨by omega, by simp; omega, fun _ => by simp [nameOk, h2]⟩
end Go.Proofs.YtcdgdmhlbgbklaaGreatDoor

/- What the document's own PackNumber answers. -/
namespace Go.Proofs.YtcdgdmhlbgbklaaGreatDoor
open Go.RowKit Go.Shelf

theorem conv1 (g : Nat) (c : Int) (W : World) (h : W.cell? ⟨g, 0, none⟩ = some (.int .u8 c)) : (convert 125 9 (.slice (some ⟨g, 0, none⟩) 1 1)).run Tryz.prog W = .ok (.string ⟨#[UInt8.ofNat c.toNat]⟩) W := by
  rw [run_convert_bytes_string W 125 9 5 _ _ _ Tryz.underlying125 Tryz.underlying5 Tryz.underlying9]
  rw [run_bytesToString W ⟨g, 0, none⟩ 1 1 [c] (by simp [go_sem, loadCells, h])]
  rfl

set_option maxHeartbeats 1000000 in
theorem packn_small (n : Nat) (w : World) (h : n < 128) :
    Calls Tryz.prog 132 #[.int .i64 n] w fun e w' => e = .returned (.string ⟨(pk n).toArray⟩) ∧ Below w.heap.size w w' := by
  have hn : (n : Int) < 128 := by omega
  have HP : Hid _ := pk_small n h
  clear h
  go_enter Tryz.func132, Tryz.ntmps132
  have hcv : (convert 125 9 (.slice (some ⟨w.heap.size, 0, none⟩) 1 1)).run Tryz.prog (w.alloc (.cells #[.int .u8 n] 5)) = _ := conv1 w.heap.size n _ (by simp [go_sem])
  go_wp2
  go_ret
  exact ⟨by rw [HP.out]; rfl, (Below.refl _ _).alloc (Nat.le_refl _) _⟩

set_option maxHeartbeats 1000000 in
set_option maxRecDepth 100000 in
theorem packn_more (n : Nat) (w : World) (h : 128 ≤ n) (hn : n ≤ 9007199254740991) (ih : ∀ w, Calls Tryz.prog 132 #[.int .i64 (n / 128 : Nat)] w fun e w' => e = .returned (.string ⟨(pk (n / 128)).toArray⟩) ∧ Below w.heap.size w w') :
    Calls Tryz.prog 132 #[.int .i64 n] w fun e w' => e = .returned (.string ⟨(pk n).toArray⟩) ∧ Below w.heap.size w w' := by
  have hn1 : (128 : Int) ≤ n := by omega
  have hn2 : (n : Int) ≤ 9007199254740991 := by omega
  have HP : Hid _ := pk_more n h
  have HI : Hid (∀ w, Calls Tryz.prog 132 #[.int .i64 (n / 128 : Nat)] w fun e w' => e = .returned (.string ⟨(pk (n / 128)).toArray⟩) ∧ Below w.heap.size w w') := ih
  clear h hn ih
  go_enter Tryz.func132, Tryz.ntmps132
  have hcv : ∀ (g : Nat) (W : World), W.cell? ⟨g, 0, none⟩ = some (.int .u8 ((n : Int) % 128 + 128)) → (convert 125 9 (.slice (some ⟨g, 0, none⟩) 1 1)).run Tryz.prog W = .ok (.string ⟨#[UInt8.ofNat ((n : Int) % 128 + 128).toNat]⟩) W := fun g W h => conv1 g _ W h
  have hw0 : (n : Int).tmod 128 = (n : Int) % 128 := Int.tmod_eq_emod_of_nonneg (by omega)
  have hw1 : IntKind.i64.wrap ((n : Int) % 128 + 128) = (n : Int) % 128 + 128 := wraps_i64 _ (by omega) (by omega)
  have hw2 : IntKind.u8.wrap ((n : Int) % 128 + 128) = (n : Int) % 128 + 128 := wraps_u8 _ (by omega) (by omega)
  have hw3 : IntKind.i64.wrap ((n : Int) / 128) = ((n / 128 : Nat) : Int) := by rw [wraps_i64 _ (by omega) (by omega)]; omega
  have h8 := pk_len8 (n / 128) (by omega)
  have hadd : ∀ W : World, (Op.stringOp .add ⟨#[UInt8.ofNat ((n : Int) % 128 + 128).toNat]⟩ ⟨(pk (n / 128)).toArray⟩).run Tryz.prog W = .ok (.string ⟨(UInt8.ofNat ((n : Int) % 128 + 128).toNat :: pk (n / 128)).toArray⟩) W := fun W => by
    refine (run_string_add_sum (w := W) _ _ (by rw [show (⟨(pk (n / 128)).toArray⟩ : ByteArray).size = (pk (n / 128)).length from size_of rfl, show (⟨#[UInt8.ofNat ((n : Int) % 128 + 128).toNat]⟩ : ByteArray).size = 1 from rfl]; omega)).trans ?_
    rw [show (⟨#[UInt8.ofNat ((n : Int) % 128 + 128).toNat]⟩ : ByteArray) = ⟨[UInt8.ofNat ((n : Int) % 128 + 128).toNat].toArray⟩ from rfl, ByteArray.mk_append_mk]
    rfl
  have HP2 : Hid (pk n = UInt8.ofNat ((n : Int) % 128 + 128).toNat :: pk (n / 128)) := by
    show _ = _
    rw [HP.out, show ((n : Int) % 128 + 128).toNat = n % 128 + 128 from by omega]
  clear h8 HP
  go_wp2_with fail
  go_region_with (go_at_call 132; refine (HI.out _).mono ?_; rintro e w1 ⟨rfl, hb⟩; have hc1 := fun (h : w.heap.size < _) => hb.cell (p := ⟨w.heap.size, 0, none⟩) h)
  all_goals go_wp2
  all_goals go_ret
  all_goals refine ⟨by rw [HP2.out]; rfl, ?_⟩
  · exact ((Below.refl _ _).alloc (Nat.le_refl _) _).drew.trans (hb.mono (by simp))
  · exact ((Below.refl _ _).alloc (Nat.le_refl _) _).drew.trans (hb.mono (by simp))
  · exact ((Below.refl _ _).drew.trans hb).alloc hb.size _

theorem packn_any : ∀ (f n : Nat) (w : World), n ≤ f → n ≤ 9007199254740991 →
    Calls Tryz.prog 132 #[.int .i64 n] w fun e w' => e = .returned (.string ⟨(pk n).toArray⟩) ∧ Below w.heap.size w w' := by
  intro f
  induction f with
  | zero => intro n w h _; exact packn_small n w (by omega)
  | succ f ih =>
    intro n w h hn
    by_cases hs : n < 128
    · exact packn_small n w hs
    · exact packn_more n w (by omega) hn (fun w => ih (n / 128) w (by omega) (by omega))
end Go.Proofs.YtcdgdmhlbgbklaaGreatDoor

/- What wire's packer does with texts, and Texts. -/
namespace Go.Proofs.YtcdgdmhlbgbklaaGreatDoor
open Go.RowKit Go.Shelf

set_option maxHeartbeats 2000000 in
set_option maxRecDepth 100000 in
theorem ws_any (B b : Nat) (bs : List Value) (s : ByteArray) (w : World) (h : PkIs B b bs w) (hlen : bs.length + s.size ≤ 140737488355328) (hBw : B ≤ w.heap.size) :
    Calls Tryz.prog 135 #[.pointer (some ⟨b, 0, none⟩), .string s] w fun e w' => e = .returned (.tuple #[.int .i64 s.size, .nilIface]) ∧ (PkAt B b (.pointer (some ⟨b, 0, none⟩)) (bs ++ Lib.strCells s) w' ∧ Kp B b w w') := by
  obtain ⟨i0, hi, hz0, hz1, hz2⟩ := info_parts infB
  go_enter Tryz.func135, Tryz.ntmps135
  go_wp2_with (go_at_call 138; refine (cc_any B b bs _ h).mono ?_)
  rintro e w1 ⟨rfl, h1, hb1, hk1⟩
  obtain ⟨hB, v, hbk, hown, hne⟩ := h1
  have c0 : w1.cell? ⟨b, 0, none⟩ = some (.pointer (some ⟨b, 0, none⟩)) := by rw [Lib.cell_of_heap hbk]; rfl
  have c1 : w1.cell? ⟨b, 1, none⟩ = some v := by rw [Lib.cell_of_heap hbk]; rfl
  go_wp2_with (at_builtin; refine Lib.wpList_append_own_string _ rfl _ _ 125 9 rfl B 5 i0 Tryz.underlying125 Tryz.underlying9 hi hz0 hz1 hz2 _ _ _ rfl hown s rfl ?c3 ?c4 ?c5 ?_)
  case c3 => unfold maxLen; omega
  case c4 => omega
  case c5 => have := hb1.size; omega
  intro v' w2 hown' hgrow _
  have hlt : b < w1.heap.size := by
    rcases Nat.lt_or_ge b w1.heap.size with h' | h'
    · exact h'
    · simp [Array.getElem?_eq_none h'] at hbk
  have hb2 : w2.heap[b]? = some (.cells #[.pointer (some ⟨b, 0, none⟩), v] 129 (0, 0)) := by
    rw [hgrow.block b hlt (fun e => hne e.symm)]
    exact hbk
  have d0 : w2.cell? ⟨b, 0, none⟩ = some (.pointer (some ⟨b, 0, none⟩)) := by rw [Lib.cell_of_heap hb2]; rfl
  have d1 : w2.cell? ⟨b, 1, none⟩ = some v := by rw [Lib.cell_of_heap hb2]; rfl
  have f1 : w2.frozen? ⟨b, 1, none⟩ = false := Lib.frozen_of_heap hb2 1
  obtain ⟨ao, n', cap, rfl⟩ : ∃ ao n' cap, v' = .slice ao n' cap := by
    rcases hown'.2 with ⟨hv, _⟩ | ⟨g, cap, cur, hv, _⟩
    · exact ⟨_, _, _, hv⟩
    · exact ⟨_, _, _, hv⟩
  go_wp2
  go_ret2
  refine ⟨rfl, ?_, ?_, (hk1.grown hgrow (own_kind hown)).setCell ⟨b, 1, none⟩ rfl _⟩
  · exact Lib.BuilderAt.put (T := 129) (e := 5) hB hb2 (bs' := bs ++ Lib.strCells s) (by simpa [Lib.strCells_length] using hown') (by decide)
  · exact (hb1.grown hgrow (by have := hb1.size; omega) (fun k hk => (hown.lt k hk).1)).setCell (p := ⟨b, 1, none⟩) hB _

def pkT (s : ByteArray) : List UInt8 := pk s.size ++ s.data.toList
def pkSS : List ByteArray → List UInt8
  | [] => []
  | s :: l => pkT s ++ pkSS l
theorem pkSS_append (l m : List ByteArray) : pkSS (l ++ m) = pkSS l ++ pkSS m := by
  induction l with
  | nil => rfl
  | cons s l ih => simp only [List.cons_append, pkSS, ih, List.append_assoc]
theorem pkSS_all (l : List (List UInt8)) : pkSS (l.map fun t => ⟨t.toArray⟩) = pkAll l := by
  induction l with
  | nil => rfl
  | cons t l ih =>
    simp only [List.map_cons, pkSS, pkAll, ih, pkT]
    rw [show (⟨t.toArray⟩ : ByteArray).size = t.length from size_of rfl]
    simp
theorem byteCells_app (a b : List UInt8) : Lib.byteCells (a ++ b) = Lib.byteCells a ++ Lib.byteCells b := by simp [Lib.byteCells]

set_option maxHeartbeats 1000000 in
set_option maxRecDepth 100000 in
theorem pk_text (B b : Nat) (bs : List Value) (s : ByteArray) (w : World) (h : PkIs B b bs w) (hs : s.size ≤ 9007199254740991) (hlen : bs.length + (pkT s).length ≤ 140737488355328) (hBw : B ≤ w.heap.size) :
    Calls Tryz.prog 85 #[.pointer (some ⟨b, 0, none⟩), .string s] w fun e w' => e = .returned (.tuple #[]) ∧ (PkIs B b (bs ++ Lib.byteCells (pkT s)) w' ∧ Kp B b w w') := by
  have hl : (pkT s).length = (pk s.size).length + s.size := by unfold pkT; rw [List.length_append, size_of (s := s) rfl]
  go_enter Tryz.func85, Tryz.ntmps85
  go_wp2_with fail
  refine (number_any B b s.size bs w h hs (by omega) hBw).mono ?_
  rintro e w1 ⟨rfl, h1, hb1⟩
  go_wp2_with fail
  refine (ws_any B b _ s w1 h1 (by simp [Lib.byteCells]; omega) (Nat.le_trans hBw hb1.size)).mono ?_
  rintro e w2 ⟨rfl, h2, hb2⟩
  go_wp2
  go_end0
  refine ⟨rfl, ?_, hb1.trans hb2⟩
  unfold pkT
  rw [byteCells_app, ← List.append_assoc]
  exact Or.inr h2

set_option maxHeartbeats 2000000 in
set_option maxRecDepth 100000 in
theorem pk_list (B b g o cap : Nat) (bs : List Value) (ss : List ByteArray) (w : World) (h : PkIs B b bs w) (hn : ss.length ≤ 2000) (hs : ∀ s ∈ ss, s.size ≤ 100000) (hg : g < B) (hcell : ∀ j (hj : j < ss.length), w.cell? ⟨g, o + j, none⟩ = some (.string ss[j]))
    (hlen : bs.length + (pk ss.length ++ pkSS ss).length ≤ 140737488355328) (hBw : B ≤ w.heap.size) :
    Calls Tryz.prog 134 #[.pointer (some ⟨b, 0, none⟩), .slice (some ⟨g, o, none⟩) ss.length cap, .func (.func 85) #[] #[]] w fun e w' => e = .returned (.tuple #[]) ∧ (PkIs B b (bs ++ Lib.byteCells (pk ss.length ++ pkSS ss)) w' ∧ Kp B b w w') := by
  have HC : Hid _ := hcell
  have HS : Hid _ := hs
  have HL : Hid (bs.length + ((pk ss.length).length + (pkSS ss).length) ≤ 140737488355328) := by show _ ≤ _; simpa using hlen
  have hn1 : (ss.length : Int) ≤ 2000 := by omega
  clear hcell hs hlen
  go_enter Tryz.func134, Tryz.ntmps134
  go_wp2_with fail
  refine (number_any B b ss.length bs w h (by omega) (by have := HL.out; omega) hBw).mono ?_
  rintro e w1 ⟨rfl, h1, hb1⟩
  clear h
  go_wp2_with fail
  go_loopw [14] (fun i wr => ∃ k : Nat, k ≤ ss.length ∧ i = .int .i64 k ∧ PkIs B b (bs ++ Lib.byteCells (pk ss.length ++ pkSS (ss.take k))) wr ∧ Kp B b w wr) (fun i _ => ss.length - (intOf i).toNat)
  case atStart => exact ⟨0, Nat.zero_le _, rfl, by simpa [pkSS] using h1, hb1⟩
  case round =>
    obtain ⟨k, hk, rfl, hp, hb⟩ := hrel
    clear h1 hb1
    have hsz := hb.size
    by_cases hlt : k < ss.length
    · have hc : wr.cell? ⟨g, o + k, none⟩ = some (.string ss[k]) := (hb.bel.cell (p := ⟨g, o + k, none⟩) hg).trans (HC.out k hlt)
      have hts : ss.take (k + 1) = ss.take k ++ [ss[k]] := List.take_succ_eq_append_getElem hlt
      have hsp : pkSS (ss.take (k + 1)) = pkSS (ss.take k) ++ pkT ss[k] := by rw [hts, pkSS_append]; simp [pkSS]
      have hle : (pkSS (ss.take (k + 1))).length ≤ (pkSS ss).length := by
        have e1 : pkSS ss = pkSS (ss.take (k + 1)) ++ pkSS (ss.drop (k + 1)) := by rw [← pkSS_append, List.take_append_drop]
        rw [e1, List.length_append]
        omega
      have hsl : (ss[k]).size ≤ 9007199254740991 := Nat.le_trans (HS.out _ (List.getElem_mem hlt)) (by decide)
      have hlen1 : (bs ++ Lib.byteCells (pk ss.length ++ pkSS (ss.take k))).length + (pkT ss[k]).length ≤ 140737488355328 := by
        have := HL.out
        rw [hsp, List.length_append] at hle
        simp [Lib.byteCells]
        omega
      have H1 : Hid _ := hlen1
      have H2 : Hid _ := hsp
      have H3 : Hid (Kp B b w wr) := hb
      have H4 : Hid (PkIs B b (bs ++ Lib.byteCells (pk ss.length ++ pkSS (ss.take k))) wr) := hp
      have H5 : Hid _ := hsl
      clear hlen1 hsp hb hp hts hle hsl
      go_wp2_with fail
      refine (pk_text B b _ ss[k] wr H4.out H5.out H1.out (Nat.le_trans hBw hsz)).mono ?_
      rintro e w2 ⟨rfl, h2, hb2⟩
      have H6 : Hid (Kp B b wr w2) := hb2
      have H7 : Hid (PkIs B b (bs ++ Lib.byteCells (pk ss.length ++ pkSS (ss.take k)) ++ Lib.byteCells (pkT ss[k])) w2) := h2
      clear hb2 h2
      go_wp2
      refine ⟨⟨k + 1, by omega, by go_num, ?_, H3.out.trans H6.out⟩, by simp [intOf]; omega⟩
      rw [H2.out, ← List.append_assoc, byteCells_app, ← List.append_assoc]
      exact H7.out
    · obtain rfl : k = ss.length := by omega
      go_wp2
      go_end0
      refine ⟨rfl, ?_, hb⟩
      rw [List.take_length] at hp
      exact hp
end Go.Proofs.YtcdgdmhlbgbklaaGreatDoor

/- What Texts answers, errors too. -/
namespace Go.Proofs.YtcdgdmhlbgbklaaGreatDoor
open Go.RowKit Go.Shelf

set_option maxHeartbeats 1000000 in
set_option maxRecDepth 100000 in
theorem pk_list0 (B b cap : Nat) (a : Option Addr) (bs : List Value) (w : World) (h : PkIs B b bs w) (hlen : bs.length + 1 ≤ 140737488355328) (hBw : B ≤ w.heap.size) :
    Calls Tryz.prog 134 #[.pointer (some ⟨b, 0, none⟩), .slice a 0 cap, .func (.func 85) #[] #[]] w fun e w' => e = .returned (.tuple #[]) ∧ (PkIs B b (bs ++ Lib.byteCells (pk 0 ++ pkSS [])) w' ∧ Kp B b w w') := by
  go_enter Tryz.func134, Tryz.ntmps134
  go_wp2_with fail
  refine (number_any B b 0 bs w h (by omega) (by rw [show (pk 0).length = 1 from rfl]; omega) hBw).mono ?_
  rintro e w1 ⟨rfl, h1, hb1⟩
  go_wp2_with fail
  refine wp_loop_rounds 1 ?_
  rw [rounds_succ]
  go_wp2
  go_end0
  exact ⟨rfl, by simpa [pkSS] using h1, hb1⟩

/-- A slice of these texts that lies in old memory, below block B. -/
def OldTexts (B : Nat) (w : World) (v : Value) (ss : List ByteArray) : Prop :=
  ∃ a cap, v = .slice a ss.length cap ∧ (ss = [] ∨ ∃ g o, a = some ⟨g, o, none⟩ ∧ g < B ∧ ∀ j (hj : j < ss.length), w.cell? ⟨g, o + j, none⟩ = some (.string ss[j]))
theorem old_of (w : World) (v : Value) (ss : List ByteArray) (h : IsTexts w v ss) : OldTexts w.heap.size w v ss := by
  obtain ⟨_, a, cap, rfl, hs⟩ := h
  refine ⟨a, cap, rfl, ?_⟩
  rcases hs with rfl | ⟨g, o, rfl, hc⟩
  · exact Or.inl rfl
  by_cases h0 : ss.length = 0
  · exact Or.inl (List.length_eq_zero_iff.1 h0)
  · exact Or.inr ⟨g, o, rfl, World.block_lt_of_cell? w ⟨g, o + 0, none⟩ (hc 0 (by omega)), hc⟩
theorem texts_below {B : Nat} {w w' : World} {v : Value} {ss : List ByteArray} (h : OldTexts B w v ss) (hb : Below B w w') : OldTexts B w' v ss := by
  obtain ⟨a, cap, rfl, hs⟩ := h
  refine ⟨a, cap, rfl, ?_⟩
  rcases hs with rfl | ⟨g, o, rfl, hg, hc⟩
  · exact Or.inl rfl
  · exact Or.inr ⟨g, o, rfl, hg, fun j hj => (hb.cell (p := ⟨g, o + j, none⟩) hg).trans (hc j hj)⟩
theorem texts_of {B : Nat} {w : World} {v : Value} {ss : List ByteArray} (h : OldTexts B w v ss) (hn : ss.length ≤ 4611686018427387904) : IsTexts w v ss := by
  obtain ⟨a, cap, rfl, hs⟩ := h
  refine ⟨hn, a, cap, rfl, ?_⟩
  rcases hs with rfl | ⟨g, o, rfl, hg, hc⟩
  · exact Or.inl rfl
  · exact Or.inr ⟨g, o, rfl, hc⟩

def okTexts (ss : List ByteArray) : Prop := ss.length ≤ 2000 ∧ ∀ s ∈ ss, s.size ≤ 100000

theorem pk_list_any (B b : Nat) (v : Value) (bs : List Value) (ss : List ByteArray) (w : World) (h : PkIs B b bs w) (hok : okTexts ss) (ho : OldTexts B w v ss) (hlen : bs.length + (pk ss.length ++ pkSS ss).length ≤ 140737488355328) (hBw : B ≤ w.heap.size) :
    Calls Tryz.prog 134 #[.pointer (some ⟨b, 0, none⟩), v, .func (.func 85) #[] #[]] w fun e w' => e = .returned (.tuple #[]) ∧ (PkIs B b (bs ++ Lib.byteCells (pk ss.length ++ pkSS ss)) w' ∧ Kp B b w w') := by
  obtain ⟨a, cap, rfl, hs⟩ := ho
  rcases hs with rfl | ⟨g, o, rfl, hg, hc⟩
  · exact pk_list0 B b cap a bs w h (by have : (pk ([] : List ByteArray).length ++ pkSS []).length = 1 := rfl; omega) hBw
  · exact pk_list B b g o cap bs ss w h hok.1 hok.2 hg hc hlen hBw

set_option maxHeartbeats 1000000 in
theorem pk_texts (B b : Nat) (v : Value) (bs : List Value) (ss : List ByteArray) (w : World) (h : PkIs B b bs w) (hok : okTexts ss) (ho : OldTexts B w v ss) (hlen : bs.length + (pk ss.length ++ pkSS ss).length ≤ 140737488355328) (hBw : B ≤ w.heap.size) :
    Calls Tryz.prog 84 #[.pointer (some ⟨b, 0, none⟩), v] w fun e w' => e = .returned (.tuple #[]) ∧ (PkIs B b (bs ++ Lib.byteCells (pk ss.length ++ pkSS ss)) w' ∧ Kp B b w w') := by
  go_enter Tryz.func84, Tryz.ntmps84
  go_wp2_with fail
  refine (pk_list_any B b v bs ss w h hok ho hlen hBw).mono ?_
  rintro e w1 ⟨rfl, h1, hb1⟩
  go_wp2
  go_end0
  exact ⟨rfl, h1, hb1⟩

theorem pkSS_len (ss : List ByteArray) (hs : ∀ s ∈ ss, s.size ≤ 100000) : (pkSS ss).length ≤ ss.length * 100008 := by
  induction ss with
  | nil => simp [pkSS]
  | cons s l ih =>
    have h1 := ih (fun t ht => hs t (List.mem_cons_of_mem _ ht))
    have h2 := hs s (List.mem_cons_self ..)
    have h3 := pk_len8 s.size (by omega)
    have h4 := size_of (s := s) rfl
    simp only [pkSS, pkT, List.length_append, List.length_cons]
    omega
theorem pkTexts_len (ss : List ByteArray) (h : okTexts ss) : (pk ss.length ++ pkSS ss).length ≤ 200016008 := by
  have h1 := pkSS_len ss h.2
  have h2 := pk_len8 ss.length (by have := h.1; omega)
  have h3 := h.1
  rw [List.length_append]
  omega

theorem te_texts (v : Value) (ss : List ByteArray) (w : World) (h : IsTexts w v ss) :
    (okTexts ss → Calls Tryz.prog 50 #[v] w fun e w' => e = .returned (.int .i64 0) ∧ w' = w) ∧
    (¬ okTexts ss → Calls Tryz.prog 50 #[v] w fun e w' => e = .returned (.int .i64 2) ∧ w' = w) := by
  obtain ⟨hn, a, cap, rfl, hs⟩ := h
  refine ⟨fun hok => ?_, fun hno => ?_⟩
  · refine te_ok _ ss.length ⟨_, _, rfl⟩ w hok.1 ?_
    rcases hs with rfl | ⟨g, o, rfl, hc⟩
    · exact cf_zero a cap w
    · exact cf_none g o cap ss w hn hc hok.2
  · by_cases hl : ss.length ≤ 2000
    · refine te_long _ ss.length ⟨_, _, rfl⟩ w hl ?_
      have hex : ∃ s ∈ ss, 100000 < s.size := Classical.byContradiction fun hne => hno ⟨hl, fun s hs => Nat.le_of_not_lt fun h => hne ⟨s, hs, h⟩⟩
      rcases hs with rfl | ⟨g, o, rfl, hc⟩
      · obtain ⟨s, hs, _⟩ := hex
        cases hs
      · exact cf_some g o cap ss w hn hc hex
    · exact te_many a ss.length cap w (by omega)

theorem IsTexts.up {w w' : World} {v : Value} {ss : List ByteArray} (h : IsTexts w v ss) (hb : Below w.heap.size w w') : IsTexts w' v ss := texts_of (texts_below (old_of w v ss h) hb) h.1
theorem OldTexts.up {B B' : Nat} {w : World} {v : Value} {ss : List ByteArray} (h : OldTexts B w v ss) (hb : B ≤ B') : OldTexts B' w v ss := by
  obtain ⟨a, cap, e, hs⟩ := h
  refine ⟨a, cap, e, ?_⟩
  rcases hs with h | ⟨g, o, h1, h2, h3⟩
  · exact Or.inl h
  · exact Or.inr ⟨g, o, h1, Nat.lt_of_lt_of_le h2 hb, h3⟩
end Go.Proofs.YtcdgdmhlbgbklaaGreatDoor

/- What the document's own CheckList, PackText and PackTexts answer. -/
namespace Go.Proofs.YtcdgdmhlbgbklaaGreatDoor
open Go.RowKit Go.Shelf

def longIn (ss : List ByteArray) : Prop := ∃ s ∈ ss, 100000 < s.size
def shortAll (ss : List ByteArray) : Prop := ∀ s ∈ ss, s.size ≤ 100000
def okList (m : Nat) (ss : List ByteArray) : Prop := ss.length ≤ m ∧ ∀ s ∈ ss, s.size ≤ 100000

theorem addl (l : List UInt8) (b : ByteArray) (h : l.length + b.size ≤ 9223372036854775807) (W : World) : (Op.stringOp .add ⟨l.toArray⟩ b).run Tryz.prog W = .ok (.string ⟨(l ++ b.data.toList).toArray⟩) W := by
  refine (run_string_add_sum (w := W) _ _ (by rw [show (⟨l.toArray⟩ : ByteArray).size = l.length from size_of rfl]; exact h)).trans ?_
  have hb : b = ⟨b.data.toList.toArray⟩ := bytes_eq rfl
  rw [hb, ByteArray.mk_append_mk]
theorem addll (l m : List UInt8) (h : l.length + m.length ≤ 9223372036854775807) (W : World) : (Op.stringOp .add ⟨l.toArray⟩ ⟨m.toArray⟩).run Tryz.prog W = .ok (.string ⟨(l ++ m).toArray⟩) W := by
  have := addl l ⟨m.toArray⟩ (by rw [show (⟨m.toArray⟩ : ByteArray).size = m.length from size_of rfl]; exact h) W
  simpa using this

set_option maxHeartbeats 1000000 in
theorem packtext_any (s : ByteArray) (w : World) (hs : s.size ≤ 9007199254740991) :
    Calls Tryz.prog 133 #[.string s] w fun e w' => e = .returned (.string ⟨(pkT s).toArray⟩) ∧ Below w.heap.size w w' := by
  have h8 := pk_len8 s.size hs
  have hadd : ∀ W : World, (Op.stringOp .add ⟨(pk s.size).toArray⟩ s).run Tryz.prog W = .ok (.string ⟨(pkT s).toArray⟩) W := addl (pk s.size) s (by omega)
  clear h8
  go_enter Tryz.func133, Tryz.ntmps133
  go_wp2_with fail
  refine (packn_any s.size s.size w (Nat.le_refl _) hs).mono ?_
  rintro e w1 ⟨rfl, hb1⟩
  go_wp2
  go_ret
  exact ⟨rfl, hb1⟩
end Go.Proofs.YtcdgdmhlbgbklaaGreatDoor
