/- strings.Builder, in a block of its own. -/
import Derived.Test.YtapiedeekbfpnaaGreatDoorChecked
import Derived.Below
import Derived.ProofKit
import Derived.Lib.Builder
import Derived.Lib.AppendStr
import Derived.Lib.UnsafeStr
import Derived.Lib.Strings
import Derived.Lib.Slices
import Derived.Lib.Walk
import Derived.Lib.OthersKept
import Derived.Laws.Externs
import Derived.WalkKit
import Derived.WalkSpells
import Derived.WalkLawsBesides
import Derived.Shelf.Strconv.Itoa3
import Derived.Test.YtapiedeekbfpnaaGreatDoorTa5
namespace Go.Proofs.YtapiedeekbfpnaaGreatDoor
open Go.RowKit

theorem szB : (Tryz.prog.info? 119).map (·.size) = some 2 := by kernel_rfl
theorem celB : Tryz.prog.cellsOf 5 = 1 := by kernel_rfl
theorem info_parts {i : Option TypeInfo} {z : Value} {s b : Nat} (h : i.map (fun i => (i.zero, i.size, i.bytes)) = some (some z, s, b)) : ∃ i0, i = some i0 ∧ i0.zero = some z ∧ i0.size = s ∧ i0.bytes = b := by
  cases i with
  | none => cases h
  | some i0 =>
    simp at h
    exact ⟨i0, rfl, h.1, h.2.1, h.2.2⟩
/-- What a write leaves: below B all is as it was; of the rest all but the builder's block b and rows of bytes. -/
def Kp (B b : Nat) (w w' : World) : Prop := Below B w w' ∧ Lib.OthersKept 5 (some b) w w'
theorem Kp.bel {B b : Nat} {w w' : World} (h : Kp B b w w') : Below B w w' := h.1
theorem Kp.size {B b : Nat} {w w' : World} (h : Kp B b w w') : w.heap.size ≤ w'.heap.size := h.1.size
theorem Kp.refl (B b : Nat) (w : World) : Kp B b w w := ⟨Below.refl _ _, Lib.OthersKept.refl _ _ _⟩
theorem Kp.trans {B b : Nat} {a c d : World} (h : Kp B b a c) (k : Kp B b c d) : Kp B b a d := ⟨h.1.trans k.1, h.2.trans k.2⟩
theorem own_kind {w : World} {B : Nat} {e : TypeId} {v : Value} {n : Nat} {xs : List Value} (h : w.ownsRow B e 1 v n xs) : ∀ g, v.ownBlock = some g → ∃ c fz, w.heap[g]? = some (.cells c e fz) := by
  intro g hg
  rcases h.2 with ⟨hv, _⟩ | ⟨g', cap, cur, hv, _, hh, _⟩
  · rw [hv] at hg; cases hg
  · rw [hv] at hg
    obtain rfl : g' = g := by simpa [Value.ownBlock] using hg
    exact ⟨_, _, hh⟩

set_option maxHeartbeats 1000000 in
set_option maxRecDepth 100000 in
theorem cc_used (b : Nat) (w : World) (h0 : w.cell? ⟨b, 0, none⟩ = some (.pointer (some ⟨b, 0, none⟩))) :
    Calls Tryz.prog 136 #[.pointer (some ⟨b, 0, none⟩)] w fun e w' => e = .returned (.tuple #[]) ∧ w' = w := by
  obtain ⟨j, hj, _⟩ := Option.map_eq_some_iff.1 szB
  go_enter Tryz.func136, Tryz.ntmps136
  go_wp2
  rw [Lib.run_neq_ptr_same w _ Tryz.underlying117 hj]
  go_wp2
  go_end0
  exact ⟨rfl, rfl⟩

theorem lieL : liesAt Tryz.prog Tryz.prog.depth 119 (2 / Tryz.prog.cellsOf 119) 0 119 1 = true := by kernel_rfl
abbrev BdAt (B b : Nat) (p : Value) (bs : List Value) (w : World) : Prop := Lib.BuilderAt 119 5 B b p bs w
abbrev BdIs (B b : Nat) (bs : List Value) (w : World) : Prop := Lib.IsBuilder 119 5 B b bs w

set_option maxHeartbeats 1000000 in
set_option maxRecDepth 100000 in
theorem ccL_fresh (b : Nat) (w : World) (h0 : w.cell? ⟨b, 0, none⟩ = some (.pointer none)) (hsh : w.shape? b = some (119, 2)) (hfz : w.frozen? ⟨b, 0, none⟩ = false) :
    Calls Tryz.prog 136 #[.pointer (some ⟨b, 0, none⟩)] w fun e w' => e = .returned (.tuple #[]) ∧ w' = w.setCell ⟨b, 0, none⟩ (.pointer (some ⟨b, 0, none⟩)) := by
  obtain ⟨j, hj, hjs⟩ := Option.map_eq_some_iff.1 szB
  go_enter Tryz.func136, Tryz.ntmps136
  go_wp2
  rw [Lib.run_to_unsafe w ⟨b, 0, none⟩ Tryz.underlying117 Tryz.underlying156 hj (by rw [hjs]; decide) hsh (Nat.zero_lt_succ 1)]
  simp only [Result.andThen]
  rw [Oper.upon_value]
  go_wp2
  rw [run_callFunc_extern Tryz.func158 (by kernel_rfl) (by kernel_rfl) (by kernel_rfl) (e := Extern.AbiNoEscape.same) (by kernel_rfl)]
  rw [Lib.run_noEscape]
  simp only [Result.andThen]
  rw [Oper.upon_value]
  go_wp2
  rw [Lib.run_from_unsafe w ⟨b, 0, none⟩ Tryz.underlying156 Tryz.underlying117 hj hsh lieL]
  simp only [Result.andThen]
  rw [Oper.upon_value]
  go_wp2
  go_end0
  exact ⟨rfl, rfl⟩

theorem ccL_any (B b : Nat) (bs : List Value) (w : World) (h : BdIs B b bs w) :
    Calls Tryz.prog 136 #[.pointer (some ⟨b, 0, none⟩)] w fun e w' => e = .returned (.tuple #[]) ∧ (BdAt B b (.pointer (some ⟨b, 0, none⟩)) bs w' ∧ Kp B b w w') := by
  rcases h with h | h
  · refine (ccL_fresh b w h.cell0 h.shape h.frozen0).mono ?_
    rintro e w' ⟨rfl, rfl⟩
    exact ⟨rfl, h.used _, (Below.refl B w).setCell (p := ⟨b, 0, none⟩) h.1 _, (Lib.OthersKept.refl _ _ _).setCell ⟨b, 0, none⟩ rfl _⟩
  · refine (cc_used b w h.cell0).mono ?_
    rintro e w' ⟨rfl, rfl⟩
    exact ⟨rfl, h, Kp.refl _ _ _⟩

set_option maxHeartbeats 1000000 in
set_option maxRecDepth 100000 in
theorem wbL_any (B b : Nat) (bs : List Value) (c : Int) (w : World) (h : BdIs B b bs w) (hlen : bs.length + 1 ≤ 140737488355328) (hBw : B ≤ w.heap.size) :
    Calls Tryz.prog 116 #[.pointer (some ⟨b, 0, none⟩), .int .u8 c] w fun e w' => e = .returned .nilIface ∧ (BdAt B b (.pointer (some ⟨b, 0, none⟩)) (bs ++ [.int .u8 c]) w' ∧ Kp B b w w') := by
  obtain ⟨i0, hi, hz0, hz1, hz2⟩ := info_parts infB
  go_enter Tryz.func116, Tryz.ntmps116
  go_wp2_with (go_at_call 136; refine (ccL_any B b bs _ h).mono ?_)
  rintro e w1 ⟨rfl, h1, hb1, hk1⟩
  obtain ⟨hB, v, hbk, hown, hne⟩ := h1
  have c0 : w1.cell? ⟨b, 0, none⟩ = some (.pointer (some ⟨b, 0, none⟩)) := by rw [Lib.cell_of_heap hbk]; rfl
  have c1 : w1.cell? ⟨b, 1, none⟩ = some v := by rw [Lib.cell_of_heap hbk]; rfl
  go_wp2_with (at_builtin; refine wpList_append_own _ rfl _ _ 82 rfl B 5 i0 (.int .u8 0) 1 1 Tryz.underlying82 hi hz0 hz1 hz2 rfl (by decide) _ _ _ rfl (hown.alloc _) ⟨w1.heap.size, 0, none⟩ 1 1 [.int .u8 c] rfl rfl ?c1 ?c2 ?c3 ?c4 ?c5 ?_)
  case c1 =>
    intro j u hj
    match j, hj with
    | 0, hj => simp at hj; subst hj; simp [Addr.add]
  case c2 => intro u hu; simp at hu; subst hu; rfl
  case c3 => unfold maxLen; omega
  case c4 => omega
  case c5 => have := hb1.size; simp; omega
  intro v' w2 hown' hgrow _
  have hlt : b < w1.heap.size := by
    rcases Nat.lt_or_ge b w1.heap.size with h' | h'
    · exact h'
    · simp [Array.getElem?_eq_none h'] at hbk
  have hb2 : w2.heap[b]? = some (.cells #[.pointer (some ⟨b, 0, none⟩), v] 119 (0, 0)) := by
    rw [hgrow.block b (by simp; omega) (fun e => hne e.symm), Lib.alloc_old w1 _ b hlt]
    exact hbk
  have d0 : w2.cell? ⟨b, 0, none⟩ = some (.pointer (some ⟨b, 0, none⟩)) := by rw [Lib.cell_of_heap hb2]; rfl
  have d1 : w2.cell? ⟨b, 1, none⟩ = some v := by rw [Lib.cell_of_heap hb2]; rfl
  have f1 : w2.frozen? ⟨b, 1, none⟩ = false := Lib.frozen_of_heap hb2 1
  obtain ⟨g, cap, rfl⟩ : ∃ g cap, v' = .slice (some ⟨g, 0, none⟩) (bs.length + 1) cap := by
    rcases hown'.2 with ⟨_, h0⟩ | ⟨g, cap, cur, hv, _⟩
    · omega
    · exact ⟨g, cap, hv⟩
  go_wp2
  go_ret
  refine ⟨rfl, ?_, ?_, ((hk1.alloc _).grown hgrow (own_kind (hown.alloc _))).setCell ⟨b, 1, none⟩ rfl _⟩
  · exact Lib.BuilderAt.put (T := 119) (e := 5) hB hb2 (bs' := bs ++ [.int .u8 c]) (by simpa using hown') (by decide)
  · exact ((hb1.alloc (by have := hb1.size; omega) _).grown hgrow (by have := hb1.size; simp; omega) (fun k hk => (hown.lt k hk).1)).setCell (p := ⟨b, 1, none⟩) hB _

set_option maxHeartbeats 2000000 in
set_option maxRecDepth 100000 in
theorem wsL_any (B b : Nat) (bs : List Value) (s : ByteArray) (w : World) (h : BdIs B b bs w) (hlen : bs.length + s.size ≤ 140737488355328) (hBw : B ≤ w.heap.size) :
    Calls Tryz.prog 115 #[.pointer (some ⟨b, 0, none⟩), .string s] w fun e w' => e = .returned (.tuple #[.int .i64 s.size, .nilIface]) ∧ (BdAt B b (.pointer (some ⟨b, 0, none⟩)) (bs ++ Lib.strCells s) w' ∧ Kp B b w w') := by
  obtain ⟨i0, hi, hz0, hz1, hz2⟩ := info_parts infB
  go_enter Tryz.func115, Tryz.ntmps115
  go_wp2_with (go_at_call 136; refine (ccL_any B b bs _ h).mono ?_)
  rintro e w1 ⟨rfl, h1, hb1, hk1⟩
  obtain ⟨hB, v, hbk, hown, hne⟩ := h1
  have c0 : w1.cell? ⟨b, 0, none⟩ = some (.pointer (some ⟨b, 0, none⟩)) := by rw [Lib.cell_of_heap hbk]; rfl
  have c1 : w1.cell? ⟨b, 1, none⟩ = some v := by rw [Lib.cell_of_heap hbk]; rfl
  go_wp2_with (at_builtin; refine Lib.wpList_append_own_string _ rfl _ _ 82 9 rfl B 5 i0 Tryz.underlying82 Tryz.underlying9 hi hz0 hz1 hz2 _ _ _ rfl hown s rfl ?c3 ?c4 ?c5 ?_)
  case c3 => unfold maxLen; omega
  case c4 => omega
  case c5 => have := hb1.size; omega
  intro v' w2 hown' hgrow _
  have hlt : b < w1.heap.size := by
    rcases Nat.lt_or_ge b w1.heap.size with h' | h'
    · exact h'
    · simp [Array.getElem?_eq_none h'] at hbk
  have hb2 : w2.heap[b]? = some (.cells #[.pointer (some ⟨b, 0, none⟩), v] 119 (0, 0)) := by
    rw [hgrow.block b hlt (fun e => hne e.symm)]
    exact hbk
  have d0 : w2.cell? ⟨b, 0, none⟩ = some (.pointer (some ⟨b, 0, none⟩)) := by rw [Lib.cell_of_heap hb2]; rfl
  have d1 : w2.cell? ⟨b, 1, none⟩ = some v := by rw [Lib.cell_of_heap hb2]; rfl
  have f1 : w2.frozen? ⟨b, 1, none⟩ = false := Lib.frozen_of_heap hb2 1
  obtain ⟨ao, n', cap, rfl⟩ : ∃ ao n' cap, v' = .slice ao n' cap := by
    rcases hown'.2 with ⟨hv, _⟩ | ⟨g, cap, cur, hv, _⟩
    · exact ⟨_, _, _, hv⟩
    · exact ⟨_, _, _, hv⟩
  go_wp2
  go_ret2
  refine ⟨rfl, ?_, ?_, (hk1.grown hgrow (own_kind hown)).setCell ⟨b, 1, none⟩ rfl _⟩
  · exact Lib.BuilderAt.put (T := 119) (e := 5) hB hb2 (bs' := bs ++ Lib.strCells s) (by simpa [Lib.strCells_length] using hown') (by decide)
  · exact (hb1.grown hgrow (by have := hb1.size; omega) (fun k hk => (hown.lt k hk).1)).setCell (p := ⟨b, 1, none⟩) hB _

set_option maxHeartbeats 2000000 in
set_option maxRecDepth 100000 in
theorem stL_any (B b : Nat) (l : List UInt8) (w : World) (h : BdIs B b (Lib.byteCells l) w) (h0 : l ≠ []) :
    Calls Tryz.prog 117 #[.pointer (some ⟨b, 0, none⟩)] w fun e w' => e = .returned (.string ⟨l.toArray⟩) ∧ Below B w w' := by
  obtain ⟨p, hB, v, hbk, hown, hne⟩ : ∃ p, BdAt B b p (Lib.byteCells l) w := by
    rcases h with h | h
    · exact ⟨_, h⟩
    · exact ⟨_, h⟩
  have hl0 : l.length ≠ 0 := by simpa using h0
  rw [Lib.byteCells_length] at hown
  obtain ⟨g, cap, cur, rfl, hbg, hg, hnc, hcm, hcs, htake⟩ : ∃ g cap cur, v = .slice (some ⟨g, 0, none⟩) l.length cap ∧ B ≤ g ∧ w.heap[g]? = some (.cells cur 5 (0, 0)) ∧ l.length ≤ cap ∧ cap ≤ maxLen ∧ cur.size = cap * 1 ∧ cur.toList.take (l.length * 1) = Lib.byteCells l := by
    rcases hown.2 with ⟨_, hz⟩ | ⟨g, cap, cur, hv, r⟩
    · exact absurd hz hl0
    · exact ⟨g, cap, cur, hv, r⟩
  have c1 : w.cell? ⟨b, 1, none⟩ = some (.slice (some ⟨g, 0, none⟩) l.length cap) := by rw [Lib.cell_of_heap hbk]; rfl
  have hSD : (Builtin.unsafeSliceData_ #[82] 137 #[.slice (some ⟨g, 0, none⟩) l.length cap]).run Tryz.prog w.drew = .ok (.pointer (some ⟨g, 0, none⟩)) w.drew :=
    Lib.run_unsafeSliceData_row _ _ _ _ _ _ (by omega)
  have hUS : (Builtin.unsafeString_ #[137, 3] 9 #[.pointer (some ⟨g, 0, none⟩), .int .i64 l.length]).run Tryz.prog w.drew = .ok (.string ⟨l.toArray⟩) (w.drew.freeze ⟨g, 0, none⟩ l.length) := by
    refine Lib.run_unsafeString_row w.drew 137 3 9 5 Tryz.underlying137 celB g cur.size (by have hg' : w.drew.heap[g]? = some (.cells cur 5 (0, 0)) := hg; simp [World.shape?, hg']) l h0 (by omega) (by unfold maxLen at hcm; omega) ?_
    intro j x hx
    have := hown.cells (g := g) rfl j (.int .u8 x.toNat) (by simp [Lib.byteCells, hx])
    exact this
  go_enter Tryz.func117, Tryz.ntmps117
  go_wp2
  go_region
  all_goals (go_wp2; go_ret; exact ⟨rfl, Lib.below_freeze (Below.drew (Below.refl B w)) (p := ⟨g, 0, none⟩) hbg _⟩)

set_option maxHeartbeats 2000000 in
set_option maxRecDepth 100000 in
theorem stL_zero (B b : Nat) (w : World) (h : BdIs B b [] w) (hBw : B ≤ w.heap.size) :
    Calls Tryz.prog 117 #[.pointer (some ⟨b, 0, none⟩)] w fun e w' => e = .returned (.string ⟨#[]⟩) ∧ Below B w w' := by
  obtain ⟨p, hB, v, hbk, hown, hne⟩ : ∃ p, BdAt B b p [] w := by
    rcases h with h | h
    · exact ⟨_, h⟩
    · exact ⟨_, h⟩
  have hown' : w.ownsRow B 5 1 v 0 [] := hown
  have c1 : w.cell? ⟨b, 1, none⟩ = some v := by rw [Lib.cell_of_heap hbk]; rfl
  rcases hown'.2 with ⟨rfl, _⟩ | ⟨g, cap, cur, rfl, hbg, hg, _, _, hcs, _⟩
  · have hSD : (Builtin.unsafeSliceData_ #[82] 137 #[.slice none 0 0]).run Tryz.prog w.drew = .ok (.pointer none) w.drew := Lib.run_unsafeSliceData_nil _ _ _ _ _
    have hUS : (Builtin.unsafeString_ #[137, 3] 9 #[.pointer none, .int .i64 0]).run Tryz.prog w.drew = .ok (.string ⟨#[]⟩) w.drew := Lib.run_unsafeString_none _ _ _ _ _
    clear hown hown' hbk hne
    go_enter Tryz.func117, Tryz.ntmps117
    go_wp2
    go_region
    all_goals (go_wp2; go_ret; exact ⟨rfl, (Below.refl B w).drew⟩)
  · by_cases hc0 : cap = 0
    · subst hc0
      have hsh : w.drew.shape? g = some (5, cur.size) := by
        have hg' : w.drew.heap[g]? = some (.cells cur 5 (0, 0)) := hg
        simp [World.shape?, hg']
      have hSD : (Builtin.unsafeSliceData_ #[82] 137 #[.slice (some ⟨g, 0, none⟩) 0 0]).run Tryz.prog w.drew = .ok (.pointer (some ⟨w.heap.size, 0, none⟩)) (w.drew.alloc (.view ⟨g, 0, none⟩ 5)) := Lib.run_unsafeSliceData_zero _ _ _ _ Tryz.underlying137 _ _ _ hsh
      have hUS : ∀ W : World, (Builtin.unsafeString_ #[137, 3] 9 #[.pointer (some ⟨w.heap.size, 0, none⟩), .int .i64 0]).run Tryz.prog W = .ok (.string ⟨#[]⟩) W := fun W => Lib.run_unsafeString_none _ _ _ _ _
      have hc1 : w.drew.cell? ⟨b, 1, none⟩ = some (.slice (some ⟨g, 0, none⟩) 0 0) := c1
      have hbl : b < w.heap.size := World.block_lt_of_cell? w ⟨b, 1, none⟩ c1
      have hc2 : (w.alloc (.view ⟨g, 0, none⟩ 5)).drew.cell? ⟨b, 1, none⟩ = some (.slice (some ⟨g, 0, none⟩) 0 0) := (World.cell?_alloc_lt w _ ⟨b, 1, none⟩ hbl).trans c1
      clear hown hown' hbk hne
      go_enter Tryz.func117, Tryz.ntmps117
      go_wp2
      go_region
      all_goals (go_wp2; go_ret; exact ⟨rfl, ((Below.refl B w).alloc hBw _).drew⟩)
    · have hSD : (Builtin.unsafeSliceData_ #[82] 137 #[.slice (some ⟨g, 0, none⟩) 0 cap]).run Tryz.prog w.drew = .ok (.pointer (some ⟨g, 0, none⟩)) w.drew := Lib.run_unsafeSliceData_row _ _ _ _ _ _ hc0
      have hUS : (Builtin.unsafeString_ #[137, 3] 9 #[.pointer (some ⟨g, 0, none⟩), .int .i64 0]).run Tryz.prog w.drew = .ok (.string ⟨#[]⟩) w.drew := Lib.run_unsafeString_none _ _ _ _ _
      clear hown hown' hbk hne
      go_enter Tryz.func117, Tryz.ntmps117
      go_wp2
      go_region
      all_goals (go_wp2; go_ret; exact ⟨rfl, (Below.refl B w).drew⟩)
end Go.Proofs.YtapiedeekbfpnaaGreatDoor

/- A machine lists the files of a directory. -/
namespace Go.Proofs.YtapiedeekbfpnaaGreatDoor
open Go.RowKit Go.Shelf Go.Maps Go.WideMaps Go.Sort

theorem bd_up {B b : Nat} {bs : List Value} {w w' : World} (h : BdIs B b bs w) (hb : Below w.heap.size w w') : BdIs B b bs w' := by
  rcases h with ⟨hB, v, hbk, hown, hne⟩ | ⟨hB, v, hbk, hown, hne⟩
  · exact Or.inl ⟨hB, v, (hb.block b (Array.getElem?_eq_some_iff.1 hbk).1).trans hbk, row_up hown hb, hne⟩
  · exact Or.inr ⟨hB, v, (hb.block b (Array.getElem?_eq_some_iff.1 hbk).1).trans hbk, row_up hown hb, hne⟩
theorem stL_sb (B b : Nat) (l : List UInt8) (w : World) (h : BdIs B b (Lib.byteCells l) w) (hBw : B ≤ w.heap.size) :
    Calls Tryz.prog 117 #[.pointer (some ⟨b, 0, none⟩)] w fun e w' => e = .returned (.string (bA l)) ∧ Below B w w' := by
  by_cases h0 : l = []
  · subst h0
    exact stL_zero B b w h hBw
  · exact stL_any B b l w h h0
theorem catB (x y z : ByteArray) (h : x.data.toList ++ y.data.toList = z.data.toList) (hl : x.size + y.size ≤ 9223372036854775807) (W : World) : (Op.stringOp .add x y).run Tryz.prog W = .ok (.string z) W := by
  have e : x ++ y = z := ba_ext (by rw [← h]; simp)
  have hl2 : (x.size : Int) + (y.size : Int) ≤ 9223372036854775807 := by omega
  simp [Op.stringOp, e, hl2]

set_option maxHeartbeats 2000000 in
theorem pre_in (s t : ByteArray) (w : World) (hs : s.size ≤ 281474976710656) (ht : t.size ≤ 281474976710656) (b : Bool) (hb : b = true ↔ ∃ r, s.data.toList = t.data.toList ++ r) :
    Calls Tryz.prog 135 #[.string s, .string t] w fun e w' => e = .returned (.bool b) ∧ w' = w := by
  have i1 : (s.size : Int) ≤ 281474976710656 := by omega
  have i2 : (t.size : Int) ≤ 281474976710656 := by omega
  by_cases h0 : t.size ≤ s.size
  · have h1 : (t.size : Int) ≤ s.size := by omega
    have hsl : (Instr.slice 9 (.string s) none (some (.int .i64 (t.size : Int))) none).run Tryz.prog w = .ok (.string (s.extract 0 t.size)) w := by
      have h9 : ¬ s.size < t.size := by omega
      simp [Instr.slice, Instr.sliceBounds, Instr.sliceBound, run_underlying Tryz.underlying9, asIntOf, h9]
    have heq : ((s.extract 0 t.size).toList == t.toList) = b := by
      rw [Lib.toList_data, Lib.extract_data, Lib.toList_data, Bool.eq_iff_iff, hb, beq_iff_eq]
      have el : t.size = t.data.toList.length := by rw [Array.length_toList]; rfl
      constructor
      · intro e
        refine ⟨s.data.toList.drop t.size, ?_⟩
        rw [← e]
        simp
      · rintro ⟨r, e⟩
        rw [e, el]
        simp
    generalize s.extract 0 t.size = x at hsl heq
    clear hb h0
    go_enter Tryz.func135, Tryz.ntmps135
    go_wp2
    go_ret
    exact ⟨by simp, rfl⟩
  · have h1 : (s.size : Int) < t.size := by omega
    have hbf : b = false := by
      cases b with
      | false => rfl
      | true =>
        obtain ⟨r, e⟩ := hb.1 rfl
        have e := congrArg List.length e
        rw [List.length_append, Array.length_toList, Array.length_toList] at e
        have e1 : s.data.size = s.size := rfl
        have e2 : t.data.size = t.size := rfl
        omega
    subst hbf
    clear hb h0
    go_enter Tryz.func135, Tryz.ntmps135
    go_wp2
    go_ret
    exact ⟨rfl, rfl⟩

set_option maxHeartbeats 1000000 in
theorem pre_any (s t : ByteArray) (w : World) (hs : s.size ≤ 281474976710656) (ht : t.size ≤ 281474976710656) (b : Bool) (hb : b = true ↔ ∃ r, s.data.toList = t.data.toList ++ r) :
    Calls Tryz.prog 114 #[.string s, .string t] w fun e w' => e = .returned (.bool b) ∧ w' = w := by
  have HC : Hid (Calls Tryz.prog 135 #[.string s, .string t] w fun e w' => e = .returned (.bool b) ∧ w' = w) := pre_in s t w hs ht b hb
  clear hb hs ht
  go_enter Tryz.func114, Tryz.ntmps114
  go_wp2_with (first | (go_at_call 135; refine HC.out.mono ?_; rintro e w1 ⟨rfl, hw⟩; subst w1) | go_in)
  go_ret
  exact ⟨rfl, rfl⟩

def lst1 (f : Fl) (d : ByteArray) : List UInt8 := if d.data.toList = [46] ∨ inB f.pa d = true then pth f ++ [10] else []
theorem lstL_snoc (F : List Fl) (d : ByteArray) (k : Nat) (hk : k < F.length) : lstL (F.take (k + 1)) d = lstL (F.take k) d ++ lst1 F[k] d := by
  unfold lstL lst1
  rw [List.take_succ_eq_append_getElem hk, List.flatMap_append]
  simp
theorem lstL_len (F : List Fl) (d : ByteArray) (h : ∀ f ∈ F, f.pa.size ≤ 100) : (lstL F d).length ≤ F.length * 101 := by
  induction F with
  | nil => simp [lstL]
  | cons f l ih =>
    have e : lstL (f :: l) d = lst1 f d ++ lstL l d := by simp [lstL, lst1]
    have h1 : (lst1 f d).length ≤ 101 := by
      unfold lst1
      split
      · rw [List.length_append]
        have : (pth f).length = f.pa.size := by unfold pth; rw [Array.length_toList]; rfl
        have := h f (by simp)
        simp
        omega
      · simp
    have h2 := ih fun x hx => h x (by simp [hx])
    rw [e, List.length_append, List.length_cons]
    omega

set_option maxHeartbeats 4000000 in
set_option maxRecDepth 100000 in
theorem mlist_any (m : Mc) (P : Nat) (p : ByteArray) (ao : Option Addr) (cap : Nat) (F : List Fl) (w : World) (h : McAt w P m) (hfv : m.fv = .slice ao F.length cap) (hl : IsFl w ao F) (hn : F.length ≤ 1000) (hpa : ∀ f ∈ F, f.pa.size ≤ 100) (hp : p.size ≤ 1000000) :
    Calls Tryz.prog 72 #[.pointer (some ⟨P, 0, none⟩), .string p] w fun e w' => e = .returned (.string (lstF F p)) ∧ Below w.heap.size w w' := by
  obtain ⟨w0, hw0⟩ : ∃ w0, w0 = w.alloc (.cells #[.pointer none, .slice none 0 0] 119) := ⟨_, rfl⟩
  have hb0 : Below w.heap.size w w0 := by rw [hw0]; exact (Below.refl _ w).alloc (Nat.le_refl _) _
  have H0 : Hid (BdIs w.heap.size w.heap.size (Lib.byteCells (lstL (F.take 0) p)) w0 ∧ Below w.heap.size w w0) := by
    refine ⟨?_, hb0⟩
    rw [hw0]
    exact Lib.fresh_isBuilder _ _ w
  have c0 : w0.cell? ⟨P, 0, none⟩ = some (.slice ao F.length cap) := by rw [← hfv]; exact (h.below hb0).c0
  have HL : Hid (IsFl w ao F ∧ ∀ f ∈ F, f.pa.size ≤ 100) := ⟨hl, hpa⟩
  obtain ⟨ps, hps⟩ : ∃ ps : ByteArray, ps.data.toList = p.data.toList ++ [47] := ⟨bA (p.data.toList ++ [47]), by simp [bA]⟩
  have hpsz : ps.size ≤ 1000001 := by
    have e := congrArg List.length hps
    rw [List.length_append, Array.length_toList, Array.length_toList] at e
    have e1 : ps.data.size = ps.size := rfl
    have e2 : p.data.size = p.size := rfl
    simp at e
    omega
  have hcat : ∀ W : World, (Op.stringOp .add p ⟨#[47]⟩).run Tryz.prog W = .ok (.string ps) W := fun W => catB p ⟨#[47]⟩ ps hps.symm (by have : (⟨#[47]⟩ : ByteArray).size = 1 := rfl; omega) W
  obtain ⟨dot, hdot⟩ : ∃ dot, (p.toList == [46]) = dot := ⟨_, rfl⟩
  have HDT : Hid (dot = true ↔ p.data.toList = [46]) := by
    show _ ↔ _
    rw [← hdot, beq_iff_eq, Lib.toList_data]
  have HPR : Hid (∀ (f : Fl) (W : World), f.pa.size ≤ 100 → Calls Tryz.prog 114 #[.string f.pa, .string ps] W fun e w' => e = .returned (.bool (inB f.pa p)) ∧ w' = W) := fun f W hf => pre_any f.pa ps W (by omega) (by omega) _ (by
    rw [inB_lst, hps]
    simp)
  have hn1 : (F.length : Int) ≤ 1000 := by omega
  have HX : Hid (F.length ≤ 1000) := hn
  clear h hfv hl hpa hp hps hpsz hb0
  subst hw0
  go_enter Tryz.func72, Tryz.ntmps72
  go_wp2
  go_loopw [13] (fun i wr => ∃ k : Nat, k ≤ F.length ∧ i = .int .i64 (k : Int) ∧ Hid (BdIs w.heap.size w.heap.size (Lib.byteCells (lstL (F.take k) p)) wr ∧ Below w.heap.size w wr)) (fun i _ => F.length - (intOf i).toNat)
  case atStart => exact ⟨0, Nat.zero_le _, rfl, H0⟩
  case round =>
    obtain ⟨k, hk, rfl, HI⟩ := hrel
    by_cases hlt : k < F.length
    · have hki : (k : Int) < (F.length : Int) := by omega
      rcases HL.out.1.below HI.out.2 (Nat.le_refl _) with h | ⟨g, o, rfl, hgr, hc⟩
      · exfalso; rw [h] at hlt; simp at hlt
      obtain ⟨a0, a1, a2⟩ := hc k hlt
      have hfs := HL.out.2 F[k] (List.getElem_mem hlt)
      have HSN : Hid (lstL (F.take (k + 1)) p = lstL (F.take k) p ++ lst1 F[k] p) := lstL_snoc F p k hlt
      have hPR := HPR.out F[k]
      have HLN : Hid ((lstL (F.take k) p).length ≤ 1000 * 101) := by
        show _ ≤ _
        have := lstL_len (F.take k) p fun f hf => HL.out.2 f (List.mem_of_mem_take hf)
        rw [List.length_take] at this
        have := HX.out
        omega
      generalize F[k] = x at *
      obtain ⟨xp, xt, xr⟩ := x
      simp only at a0 a1 a2 hfs hPR
      have HPS : Hid (∀ W : World, Calls Tryz.prog 114 #[.string xp, .string ps] W fun e w' => e = .returned (.bool (inB xp p)) ∧ w' = W) := fun W => hPR W hfs
      obtain ⟨V, hV⟩ : ∃ V, V = wr.alloc (.cells #[.string xp, .string xt, .bool xr] 35) := ⟨_, rfl⟩
      have hbV : Below wr.heap.size wr V := by rw [hV]; exact (Below.refl _ wr).alloc (Nat.le_refl _) _
      have HVB : Hid (BdIs w.heap.size w.heap.size (Lib.byteCells (lstL (F.take k) p)) V ∧ Below w.heap.size w V) := ⟨bd_up HI.out.1 hbV, below_low HI.out.2 hbV HI.out.2.size⟩
      have HWS : Hid (Calls Tryz.prog 115 #[.pointer (some ⟨w.heap.size, 0, none⟩), .string xp] V fun e w' => e = .returned (.tuple #[.int .i64 xp.size, .nilIface]) ∧ Hid (BdIs w.heap.size w.heap.size (Lib.byteCells (lstL (F.take k) p ++ xp.data.toList)) w' ∧ Below w.heap.size w w')) := (wsL_any w.heap.size w.heap.size _ xp V HVB.out.1 (by rw [Lib.byteCells_length]; have := HLN.out; omega) HVB.out.2.size).mono fun e w' q => ⟨q.1, .inr (by rw [Lib.byteCells_append]; exact q.2.1), HVB.out.2.trans q.2.2.1⟩
      have HWB : Hid (∀ W, Hid (BdIs w.heap.size w.heap.size (Lib.byteCells (lstL (F.take k) p ++ xp.data.toList)) W ∧ Below w.heap.size w W) → Calls Tryz.prog 116 #[.pointer (some ⟨w.heap.size, 0, none⟩), .int .u8 10] W fun e w' => e = .returned .nilIface ∧ Hid (BdIs w.heap.size w.heap.size (Lib.byteCells ((lstL (F.take k) p ++ xp.data.toList) ++ [10])) w' ∧ Below w.heap.size w w')) := fun W hW => (wbL_any w.heap.size w.heap.size _ 10 W hW.out.1 (by rw [Lib.byteCells_length, List.length_append]; have := HLN.out; have e1 : xp.data.toList.length = xp.size := Array.length_toList; omega) hW.out.2.size).mono fun e w' q => ⟨q.1, .inr (by rw [Lib.byteCells_append]; exact q.2.1), hW.out.2.trans q.2.2.1⟩
      rw [hV] at HVB HWS
      clear hV hbV hc hPR hfs
      cases hd : dot with
      | true =>
        rw [hd] at hdot
        have HE : Hid (lstL (F.take k) p ++ xp.data.toList ++ [10] = lstL (F.take (k + 1)) p) := by
          show _ = _
          rw [HSN.out]
          unfold lst1
          rw [if_pos (.inl (HDT.out.1 hd)), List.append_assoc]
          rfl
        go_wp2_with (first
          | (go_at_call 115; refine HWS.out.mono ?_; rintro e w1 ⟨rfl, H1⟩)
          | (go_at_call 116; refine (HWB.out _ H1).mono ?_; rintro e w2 ⟨rfl, H2⟩)
          | go_in)
        refine ⟨⟨k + 1, hlt, by go_num, ?_⟩, ?_⟩
        · rw [← HE.out]; exact H2
        · simp [intOf]; omega
      | false =>
        rw [hd] at hdot
        have hnd : ¬ p.data.toList = [46] := fun e => by have := HDT.out.2 e; rw [hd] at this; cases this
        cases hin : inB xp p with
        | true =>
          rw [hin] at HPS
          have HE : Hid (lstL (F.take k) p ++ xp.data.toList ++ [10] = lstL (F.take (k + 1)) p) := by
            show _ = _
            rw [HSN.out]
            unfold lst1
            rw [if_pos (.inr hin), List.append_assoc]
            rfl
          clear hin hnd
          go_wp2_with (first
            | (go_at_call 114; refine (HPS.out _).mono ?_; rintro e w1 ⟨rfl, hw⟩; subst w1)
            | (go_at_call 115; refine HWS.out.mono ?_; rintro e w1 ⟨rfl, H1⟩)
            | (go_at_call 116; refine (HWB.out _ H1).mono ?_; rintro e w2 ⟨rfl, H2⟩)
            | go_in)
          refine ⟨⟨k + 1, hlt, by go_num, ?_⟩, ?_⟩
          · rw [← HE.out]; exact H2
          · simp [intOf]; omega
        | false =>
          rw [hin] at HPS
          have HE : Hid (lstL (F.take k) p = lstL (F.take (k + 1)) p) := by
            show _ = _
            rw [HSN.out]
            unfold lst1
            rw [if_neg (fun e => e.elim hnd (fun e => by rw [hin] at e; cases e)), List.append_nil]
          clear hin hnd
          go_wp2_with (first
            | (go_at_call 114; refine (HPS.out _).mono ?_; rintro e w1 ⟨rfl, hw⟩; subst w1)
            | go_in)
          refine ⟨⟨k + 1, hlt, by go_num, ?_⟩, ?_⟩
          · rw [← HE.out]; exact HVB
          · simp [intOf]; omega
    · obtain rfl : k = F.length := by omega
      have HST : Hid (Calls Tryz.prog 117 #[.pointer (some ⟨w.heap.size, 0, none⟩)] wr fun e w' => e = .returned (.string (lstF F p)) ∧ Hid (Below w.heap.size w w')) := (stL_sb w.heap.size w.heap.size _ wr HI.out.1 HI.out.2.size).mono fun e w' q => ⟨by rw [q.1, List.take_length]; rfl, HI.out.2.trans q.2⟩
      go_wp2_with (first
        | (go_at_call 117; refine HST.out.mono ?_; rintro e w1 ⟨rfl, H1⟩)
        | go_in)
      go_ret
      exact ⟨rfl, H1.out⟩
end Go.Proofs.YtapiedeekbfpnaaGreatDoor

/- The shelf's contracts, laid at this program. -/
namespace Go.Proofs.YtapiedeekbfpnaaGreatDoor
open Go.RowKit Go.Shelf

def laysI_ren : Go.Shelf.Ren := ⟨fun | 171 => 77 | 243 => 118 | 246 => 137 | 283 => 159 | 284 => 160 | 285 => 161 | 286 => 162 | 129 => 150 | 317 => 173 | 318 => 174 | 319 => 175 | 320 => 176 | 337 => 178 | 338 => 179 | n => n, fun | 3 => 3 | 9 => 9 | 2 => 2 | 4 => 4 | 171 => 158 | 0 => 0 | 53 => 142 | 37 => 82 | 5 => 5 | 173 => 160 | 212 => 171 | 51 => 126 | 20 => 20 | 213 => 172 | 46 => 134 | 232 => 180 | 233 => 181 | n => n, fun | 17 => 3 | 18 => 6 | 19 => 7 | n => n⟩
theorem laysI : Go.Proofs.LaysM.n171 Tryz.prog laysI_ren := {
  mixed := by kernel_rfl
  f129 := Tryz.func150.trans (congrArg some (by kernel_rfl))
  f171 := Tryz.func77.trans (congrArg some (by kernel_rfl))
  f243 := Tryz.func118.trans (congrArg some (by kernel_rfl))
  f246 := Tryz.func137.trans (congrArg some (by kernel_rfl))
  f283 := Tryz.func159.trans (congrArg some (by kernel_rfl))
  f284 := Tryz.func160.trans (congrArg some (by kernel_rfl))
  f285 := Tryz.func161.trans (congrArg some (by kernel_rfl))
  f286 := Tryz.func162.trans (congrArg some (by kernel_rfl))
  f317 := Tryz.func173.trans (congrArg some (by kernel_rfl))
  f318 := Tryz.func174.trans (congrArg some (by kernel_rfl))
  f319 := Tryz.func175.trans (congrArg some (by kernel_rfl))
  f320 := Tryz.func176.trans (congrArg some (by kernel_rfl))
  f337 := Tryz.func178.trans (congrArg some (by kernel_rfl))
  f338 := Tryz.func179.trans (congrArg some (by kernel_rfl))
  t0 := Tryz.underlying0
  a0 := Tryz.isAgg0
  z0 := Tryz.sizeOf0
  v0 := Tryz.zeroValue0
  t2 := Tryz.underlying2
  a2 := Tryz.isAgg2
  z2 := Tryz.sizeOf2
  v2 := Tryz.zeroValue2
  t3 := Tryz.underlying3
  a3 := Tryz.isAgg3
  z3 := Tryz.sizeOf3
  v3 := Tryz.zeroValue3
  t4 := Tryz.underlying4
  a4 := Tryz.isAgg4
  z4 := Tryz.sizeOf4
  v4 := Tryz.zeroValue4
  t5 := Tryz.underlying5
  a5 := Tryz.isAgg5
  z5 := Tryz.sizeOf5
  v5 := Tryz.zeroValue5
  t9 := Tryz.underlying9
  a9 := Tryz.isAgg9
  z9 := Tryz.sizeOf9
  v9 := Tryz.zeroValue9
  t20 := Tryz.underlying20
  a20 := Tryz.isAgg20
  z20 := Tryz.sizeOf20
  v20 := Tryz.zeroValue20
  t37 := Tryz.underlying82
  a37 := Tryz.isAgg82
  z37 := Tryz.sizeOf82
  v37 := Tryz.zeroValue82
  t46 := Tryz.underlying134
  a46 := Tryz.isAgg134
  z46 := Tryz.sizeOf134
  v46 := Tryz.zeroValue134
  t51 := Tryz.underlying126
  a51 := Tryz.isAgg126
  z51 := Tryz.sizeOf126
  v51 := Tryz.zeroValue126
  t53 := Tryz.underlying142
  a53 := Tryz.isAgg142
  z53 := Tryz.sizeOf142
  v53 := Tryz.zeroValue142
  t171 := Tryz.underlying158
  a171 := Tryz.isAgg158
  z171 := Tryz.sizeOf158
  v171 := Tryz.zeroValue158
  t173 := Tryz.underlying160
  a173 := Tryz.isAgg160
  z173 := Tryz.sizeOf160
  v173 := Tryz.zeroValue160
  t212 := Tryz.underlying171
  a212 := Tryz.isAgg171
  z212 := Tryz.sizeOf171
  v212 := Tryz.zeroValue171
  t213 := Tryz.underlying172
  a213 := Tryz.isAgg172
  z213 := Tryz.sizeOf172
  t232 := Tryz.underlying180
  a232 := Tryz.isAgg180
  z232 := Tryz.sizeOf180
  v232 := Tryz.zeroValue180
  t233 := Tryz.underlying181
  a233 := Tryz.isAgg181
  z233 := Tryz.sizeOf181
  v233 := Tryz.zeroValue181
  g17 := by kernel_rfl
  g18 := by kernel_rfl
  g19 := by kernel_rfl
  i0 := by kernel_rfl
  i2 := by kernel_rfl
  i3 := by kernel_rfl
  i4 := by kernel_rfl
  i5 := by kernel_rfl
  i9 := by kernel_rfl
  i20 := by kernel_rfl
  i37 := by kernel_rfl
  i46 := by kernel_rfl
  i51 := by kernel_rfl
  i53 := by kernel_rfl
  i171 := by kernel_rfl
  i173 := by kernel_rfl
  i212 := by kernel_rfl
  i232 := by kernel_rfl
  i233 := by kernel_rfl
  m17 := by kernel_rfl
  m18 := by kernel_rfl
  m19 := by kernel_rfl }
end Go.Proofs.YtapiedeekbfpnaaGreatDoor

/- A machine does a line: it reads, it lists, it tells a size, a sum. -/
namespace Go.Proofs.YtapiedeekbfpnaaGreatDoor
open Go.RowKit Go.Shelf Go.Maps Go.WideMaps Go.Sort

theorem Itoa_any (n : Nat) (hn : n ≤ 1000000) (w : World) (h : Env w) :
    Calls Tryz.prog 77 #[.int .i64 (n : Int)] w fun e w' => e = .returned (.string (bA (Lib.decDigits n))) ∧ Below w.heap.size w w' := by
  refine (Any.strconv_Itoa laysI (n : Int) (by omega) (by omega) w h.2.2).mono ?_
  rintro e w' ⟨rfl, k, os, rfl⟩
  refine ⟨?_, ⟨rfl, rfl, rfl, ?_, ?_⟩⟩
  · have e : Lib.itoa (n : Int) = Lib.decDigits n := by
      unfold Lib.itoa
      rw [if_neg (by omega)]
      rfl
    rw [e]
    rfl
  · simp [grow]
  · intro g hg
    rw [heap_grow_old _ _ (by simpa using hg)]
    rfl

set_option maxHeartbeats 1000000 in
set_option maxRecDepth 100000 in
theorem deed_read (m : Mc) (P bx : Nat) (ao : Option Addr) (cap : Nat) (F : List Fl) (l : Ln) (w : World) (h : McAt w P m) (hx : w.cell? ⟨bx, 0, none⟩ = some (.pointer (some ⟨P, 0, none⟩))) (hfv : m.fv = .slice ao F.length cap) (hl : IsFl w ao F) (hF : TrOk F) (hf : m.fuel ≤ 1000000) (hr : l.r < 8) :
    Calls Tryz.prog 69 #[.agg (lnC l), .pointer (some ⟨bx, 0, none⟩)] w fun e w' => e = .returned (.tuple #[]) ∧ McAt w' P (rdM F m l.r l.pa) ∧ UpB P w w' := by
  have hbl : bx < w.heap.size := World.block_lt_of_cell? w ⟨bx, 0, none⟩ hx
  obtain ⟨W, hW⟩ : ∃ W, W = w.alloc (.cells (lnC l) 67) := ⟨_, rfl⟩
  have hb : Below w.heap.size w W := by rw [hW]; exact (Below.refl _ w).alloc (Nat.le_refl _) _
  have hP := mread_any m P l.r l.pa ao cap F W (h.below hb) hfv (hl.below hb (Nat.le_refl _)) hF.up (by have := hF.ln; omega) hf hr (fun f hf => by have := (flE_pa (hF.fl f hf)).2; omega)
  have HP : Hid (Calls Tryz.prog 70 #[.pointer (some ⟨P, 0, none⟩), .int .i64 (l.r : Int), .string l.pa] W fun e w' => e = .returned (.tuple #[]) ∧ Hid (McAt w' P (rdM F m l.r l.pa) ∧ UpB P w w')) := hP.mono fun e w' q => ⟨q.1, q.2.1, (UpB.of_below hb).trans q.2.2⟩
  have hx2 : W.cell? ⟨bx, 0, none⟩ = some (.pointer (some ⟨P, 0, none⟩)) := (hb.cell (p := ⟨bx, 0, none⟩) hbl).trans hx
  rw [hW] at HP hx2
  clear h hf hr hP hb hW hx hfv hl hF
  unfold lnC at *
  go_enter Tryz.func69, Tryz.ntmps69
  go_wp2_with (first
    | (go_at_call 70; refine HP.out.mono ?_; rintro e w1 ⟨rfl, H1⟩)
    | go_in)
  go_end0
  exact ⟨rfl, H1.out⟩

theorem flE_pa100 {f : Fl} (h : flE f = 0) : f.pa.size ≤ 100 := by
  have := (flE_pa h).1
  unfold pathOk at this
  rw [Bool.and_eq_true] at this
  exact of_decide_eq_true this.1
/-- The cells that a deed reads stay over a call that only makes. -/
theorem sum_facts {w W : World} {bx P : Nat} {l : Ln} {m : Mc} (hW : W = w.alloc (.cells (lnC l) 67)) (h : McAt w P m) (hx : w.cell? ⟨bx, 0, none⟩ = some (.pointer (some ⟨P, 0, none⟩))) (hbp : bx ≠ P) :
    (∀ V : World, Below W.heap.size W V → McAt V P m ∧ V.cell? ⟨bx, 0, none⟩ = some (.pointer (some ⟨P, 0, none⟩)) ∧ V.heap[w.heap.size]? = some (.cells (lnC l) 67 (0, 0))) ∧
    (∀ V V' : World, Below W.heap.size W V → UpB P V V' → V'.cell? ⟨bx, 0, none⟩ = some (.pointer (some ⟨P, 0, none⟩)) ∧ V'.heap[w.heap.size]? = some (.cells (lnC l) 67 (0, 0)) ∧ UpB P w V') := by
  have hbl : bx < w.heap.size := World.block_lt_of_cell? w ⟨bx, 0, none⟩ hx
  have hb : Below w.heap.size w W := by rw [hW]; exact (Below.refl _ w).alloc (Nat.le_refl _) _
  have hL : W.heap[w.heap.size]? = some (.cells (lnC l) 67 (0, 0)) := by rw [hW]; exact heap_alloc_new w _
  have hsz : W.heap.size = w.heap.size + 1 := by rw [hW]; exact World.size_alloc _ _
  have hPl := h.lt
  have key : ∀ V : World, Below W.heap.size W V → McAt V P m ∧ V.cell? ⟨bx, 0, none⟩ = some (.pointer (some ⟨P, 0, none⟩)) ∧ V.heap[w.heap.size]? = some (.cells (lnC l) 67 (0, 0)) := fun V hV =>
    ⟨(h.below hb).below hV, (hV.cell (p := ⟨bx, 0, none⟩) (by show bx < _; omega)).trans ((hb.cell (p := ⟨bx, 0, none⟩) hbl).trans hx), (hV.block _ (by omega)).trans hL⟩
  refine ⟨key, fun V V' hV hU => ?_⟩
  obtain ⟨_, k2, k3⟩ := key V hV
  have hs := hV.size
  refine ⟨(cell_same (hU.block bx (by omega) hbp) 0).trans k2, (hU.block _ (by omega) (by omega)).trans k3, ?_⟩
  exact (UpB.of_below (below_low hb hV (by omega))).trans hU

set_option maxHeartbeats 2000000 in
set_option maxRecDepth 100000 in
theorem deed_list (m : Mc) (P bx : Nat) (ao : Option Addr) (cap : Nat) (F : List Fl) (l : Ln) (w : World) (h : McAt w P m) (hx : w.cell? ⟨bx, 0, none⟩ = some (.pointer (some ⟨P, 0, none⟩))) (hbp : bx ≠ P) (hfv : m.fv = .slice ao F.length cap) (hl : IsFl w ao F) (hF : TrOk F) (hf : m.fuel ≤ 1000000) (hr : l.r < 8) (hps : l.pa.size ≤ 1000000) :
    Calls Tryz.prog 71 #[.agg (lnC l), .pointer (some ⟨bx, 0, none⟩)] w fun e w' => e = .returned (.tuple #[]) ∧ McAt w' P (putM m l.r (lstF F l.pa)) ∧ UpB P w w' := by
  obtain ⟨W, hW⟩ : ∃ W, W = w.alloc (.cells (lnC l) 67) := ⟨_, rfl⟩
  have hb : Below w.heap.size w W := by rw [hW]; exact (Below.refl _ w).alloc (Nat.le_refl _) _
  obtain ⟨f1, f2⟩ := sum_facts hW h hx hbp
  have hlen : (lstF F l.pa).size ≤ 1000000 := by
    have h1 := lstL_len F l.pa fun f hf => flE_pa100 (hF.fl f hf)
    have h2 : (lstF F l.pa).size = (lstL F l.pa).length := by simp [lstF, bA, ByteArray.size]
    have := hF.ln
    omega
  obtain ⟨k1, k2, k3⟩ := f1 W.drew (Below.refl _ W).drew
  have hC := mlist_any m P l.pa ao cap F W.drew k1 hfv (hl.below hb.drew (Nat.le_refl _)) (by have := hF.ln; omega) (fun f hf => flE_pa100 (hF.fl f hf)) hps
  have HC : Hid (Calls Tryz.prog 72 #[.pointer (some ⟨P, 0, none⟩), .string l.pa] W.drew fun e w' => e = .returned (.string (lstF F l.pa)) ∧ (w'.cell? ⟨bx, 0, none⟩ = some (.pointer (some ⟨P, 0, none⟩)) ∧ w'.cell? ⟨w.heap.size, 1, none⟩ = some (.int .i64 (l.r : Int)) ∧ w'.cell? ⟨w.heap.size, 3, none⟩ = some (.string l.pa)) ∧ Hid (Below W.heap.size W w')) := hC.mono fun e w' q => by
    have q2 : Below W.heap.size W w' := ⟨q.2.os, q.2.tape, q.2.output, q.2.size, q.2.block⟩
    obtain ⟨_, j2, j3⟩ := f1 w' q2
    exact ⟨q.1, ⟨j2, by rw [Lib.cell_of_heap j3]; rfl, by rw [Lib.cell_of_heap j3]; rfl⟩, q2⟩
  have HP : Hid (∀ V : World, Hid (Below W.heap.size W V) → Calls Tryz.prog 68 #[.pointer (some ⟨P, 0, none⟩), .int .i64 (l.r : Int), .string (lstF F l.pa)] V fun e w' => e = .returned (.tuple #[]) ∧ (w'.cell? ⟨bx, 0, none⟩ = some (.pointer (some ⟨P, 0, none⟩)) ∧ w'.cell? ⟨w.heap.size, 1, none⟩ = some (.int .i64 (l.r : Int)) ∧ w'.cell? ⟨w.heap.size, 3, none⟩ = some (.string l.pa)) ∧ Hid (McAt w' P (putM m l.r (lstF F l.pa)) ∧ UpB P w w')) := fun V hV => (put_any m P l.r (lstF F l.pa) V (f1 V hV.out).1 hf hr hlen).mono fun e w' q => by
    obtain ⟨j1, j2, j3⟩ := f2 V w' hV.out q.2.2
    exact ⟨q.1, ⟨j1, by rw [Lib.cell_of_heap j2]; rfl, by rw [Lib.cell_of_heap j2]; rfl⟩, q.2.1, j3⟩
  have HS : Hid (W.drew.cell? ⟨bx, 0, none⟩ = some (.pointer (some ⟨P, 0, none⟩)) ∧ W.drew.cell? ⟨w.heap.size, 1, none⟩ = some (.int .i64 (l.r : Int)) ∧ W.drew.cell? ⟨w.heap.size, 3, none⟩ = some (.string l.pa)) := ⟨k2, by rw [Lib.cell_of_heap k3]; rfl, by rw [Lib.cell_of_heap k3]; rfl⟩
  rw [hW] at HC HP HS
  generalize lstF F l.pa = res at *
  clear h hf hC hb hW hx f1 f2 k1 k2 k3 hfv hl hF hlen hr hps hbp
  unfold lnC at *
  go_enter Tryz.func71, Tryz.ntmps71
  go_wp2
  go_region_held3 (fun V => V.cell? ⟨bx, 0, none⟩ = some (.pointer (some ⟨P, 0, none⟩)) ∧ V.cell? ⟨w.heap.size, 1, none⟩ = some (.int .i64 (l.r : Int)) ∧ V.cell? ⟨w.heap.size, 3, none⟩ = some (.string l.pa)) (first | assumption | exact HS.out | go_keep) (first
    | (go_at_call 72; refine HC.out.mono ?_; rintro e w1 ⟨rfl, hS1, H1⟩)
    | (go_at_call 68; refine (HP.out _ H1).mono ?_; rintro e w2 ⟨rfl, hS2, H2⟩)
    | fail)
  all_goals
    go_wp2
    go_end0
    exact ⟨rfl, H2.out⟩
end Go.Proofs.YtapiedeekbfpnaaGreatDoor

/- A machine does a line: it tells a size, a sum. -/
namespace Go.Proofs.YtapiedeekbfpnaaGreatDoor
open Go.RowKit Go.Shelf Go.Maps Go.WideMaps Go.Sort

theorem dig_pow : ∀ (k n : Nat), n < 10 ^ (k + 1) → (Lib.decDigits n).length ≤ k + 1
  | 0, n, h => by rw [Lib.decDigits, dif_pos (by simpa using h)]; simp
  | k + 1, n, h => by
    by_cases h2 : n < 10
    · rw [Lib.decDigits, dif_pos h2]; simp
    · rw [Lib.decDigits, dif_neg h2, List.length_append]
      have := dig_pow k (n / 10) (by rw [Nat.pow_succ] at h; omega)
      simp
      omega
theorem szF_len {t : ByteArray} (h : t.size < 1000000) : (szF t).size ≤ 6 := by
  have h1 : (szF t).size = (Lib.decDigits t.size).length := List.size_toArray
  have h2 := dig_pow 5 t.size h
  omega

set_option maxHeartbeats 2000000 in
set_option linter.unusedSimpArgs false in
set_option maxRecDepth 100000 in
theorem deed_sum (m : Mc) (P bx : Nat) (l : Ln) (t : ByteArray) (w : World) (h : McAt w P m) (hx : w.cell? ⟨bx, 0, none⟩ = some (.pointer (some ⟨P, 0, none⟩))) (hbp : bx ≠ P) (hf : m.fuel ≤ 1000000) (hr : l.r < 8) (ht : m.tx[l.r]? = some t) (hts : t.size ≤ 100000) (he : Env w) :
    Calls Tryz.prog 78 #[.agg (lnC l), .pointer (some ⟨bx, 0, none⟩)] w fun e w' => e = .returned (.tuple #[]) ∧ McAt w' P (putM m l.r (smD t)) ∧ UpB P w w' := by
  obtain ⟨W, hW⟩ : ∃ W, W = w.alloc (.cells (lnC l) 67) := ⟨_, rfl⟩
  have hb : Below w.heap.size w W := by rw [hW]; exact (Below.refl _ w).alloc (Nat.le_refl _) _
  obtain ⟨f1, f2⟩ := sum_facts hW h hx hbp
  have hlen : (smD t).size ≤ 1000000 := by rw [smD_size]; omega
  obtain ⟨k1, k2, k3⟩ := f1 W.drew (Below.refl _ W).drew
  have heW : Env W.drew := he.up hb.drew
  have hC := Sm_any t W.drew (by omega) heW
  have HC : Hid (Calls Tryz.prog 79 #[.string t] W.drew fun e w' => e = .returned (.string (smD t)) ∧ (w'.cell? ⟨bx, 0, none⟩ = some (.pointer (some ⟨P, 0, none⟩)) ∧ w'.cell? ⟨w.heap.size, 1, none⟩ = some (.int .i64 (l.r : Int))) ∧ Hid (Below W.heap.size W w')) := hC.mono fun e w' q => by
    have q2 : Below W.heap.size W w' := ⟨q.2.os, q.2.tape, q.2.output, q.2.size, q.2.block⟩
    obtain ⟨_, j2, j3⟩ := f1 w' q2
    exact ⟨q.1, ⟨j2, by rw [Lib.cell_of_heap j3]; rfl⟩, q2⟩
  have HP : Hid (∀ V : World, Hid (Below W.heap.size W V) → Calls Tryz.prog 68 #[.pointer (some ⟨P, 0, none⟩), .int .i64 (l.r : Int), .string (smD t)] V fun e w' => e = .returned (.tuple #[]) ∧ (w'.cell? ⟨bx, 0, none⟩ = some (.pointer (some ⟨P, 0, none⟩)) ∧ w'.cell? ⟨w.heap.size, 1, none⟩ = some (.int .i64 (l.r : Int))) ∧ Hid (McAt w' P (putM m l.r (smD t)) ∧ UpB P w w')) := fun V hV => (put_any m P l.r (smD t) V (f1 V hV.out).1 hf hr hlen).mono fun e w' q => by
    obtain ⟨j1, j2, j3⟩ := f2 V w' hV.out q.2.2
    exact ⟨q.1, ⟨j1, by rw [Lib.cell_of_heap j2]; rfl⟩, q.2.1, j3⟩
  have HS : Hid (W.drew.cell? ⟨bx, 0, none⟩ = some (.pointer (some ⟨P, 0, none⟩)) ∧ W.drew.cell? ⟨w.heap.size, 1, none⟩ = some (.int .i64 (l.r : Int))) := ⟨k2, by rw [Lib.cell_of_heap k3]; rfl⟩
  have ct : W.drew.cell? ⟨P, 2 + l.r, none⟩ = some (.string t) := (k1.cell _).trans (mcL_lo l.r t ht)
  have hri : (l.r : Int) < 8 := by omega
  rw [hW] at HC HP HS ct
  generalize smD t = res at *
  clear h hf hC hb hW hx f1 f2 k1 k2 k3 hlen hr hbp ht hts he heW
  unfold lnC at *
  go_enter Tryz.func78, Tryz.ntmps78
  go_wp2
  refine wp_region_held_drew (S := fun V => V.cell? ⟨bx, 0, none⟩ = some (.pointer (some ⟨P, 0, none⟩)) ∧ V.cell? ⟨w.heap.size, 1, none⟩ = some (.int .i64 (l.r : Int))) (by kernel_rfl) HS.out (fun hHeld => ?_)
  refine wpAnyH_take (i := 0) (v := .pointer (some ⟨P, 0, none⟩)) rfl (by kernel_rfl) (by kernel_rfl) (by kernel_rfl) (fun _ _ _ h => h) (Or.inl ⟨by rfl, ?_⟩) (by assumption) ?_
  · intro V hSV
    try dsimp only at hSV
    go_simp
    try with_reducible rfl
  try simp only [Act.put, List.setIfInBounds_toArray, List.set_cons_zero, List.set_cons_succ]
  refine wpAnyH_take (i := 1) (v := .pointer (some ⟨w.heap.size, 1, none⟩)) rfl (by kernel_rfl) (by kernel_rfl) (by kernel_rfl) (fun _ _ _ h => h) (Or.inl ⟨by rfl, ?_⟩) (by assumption) ?_
  · intro V hSV
    try dsimp only at hSV
    go_simp
    try with_reducible rfl
  try simp only [Act.put, List.setIfInBounds_toArray, List.set_cons_zero, List.set_cons_succ]
  refine wpAnyH_take (i := 2) (v := .int .i64 (l.r : Int)) rfl (by kernel_rfl) (by kernel_rfl) (by kernel_rfl) (fun _ _ _ h => h) (Or.inl ⟨by rfl, ?_⟩) (by assumption) ?_
  · intro V hSV
    try dsimp only at hSV
    go_simp
    try with_reducible rfl
  try simp only [Act.put, List.setIfInBounds_toArray, List.set_cons_zero, List.set_cons_succ]
  refine wpAnyH_take (i := 3) (v := .pointer (some ⟨P, 0, none⟩)) rfl (by kernel_rfl) (by kernel_rfl) (by kernel_rfl) (fun _ _ _ h => h) (Or.inl ⟨by rfl, ?_⟩) (by assumption) ?_
  · intro V hSV
    try dsimp only at hSV
    go_simp
    try with_reducible rfl
  try simp only [Act.put, List.setIfInBounds_toArray, List.set_cons_zero, List.set_cons_succ]
  refine wpAnyH_take (i := 4) (v := .pointer (some ⟨w.heap.size, 1, none⟩)) rfl (by kernel_rfl) (by kernel_rfl) (by kernel_rfl) (fun _ _ _ h => h) (Or.inl ⟨by rfl, ?_⟩) (by assumption) ?_
  · intro V hSV
    try dsimp only at hSV
    go_simp
    try with_reducible rfl
  try simp only [Act.put, List.setIfInBounds_toArray, List.set_cons_zero, List.set_cons_succ]
  refine wpAnyH_take (i := 5) (v := .int .i64 (l.r : Int)) rfl (by kernel_rfl) (by kernel_rfl) (by kernel_rfl) (fun _ _ _ h => h) (Or.inl ⟨by rfl, ?_⟩) (by assumption) ?_
  · intro V hSV
    try dsimp only at hSV
    go_simp
    try with_reducible rfl
  try simp only [Act.put, List.setIfInBounds_toArray, List.set_cons_zero, List.set_cons_succ]
  refine wpAnyH_take (i := 6) (v := .pointer (some ⟨P, 0, none⟩)) rfl (by kernel_rfl) (by kernel_rfl) (by kernel_rfl) (fun _ _ _ h => h) (Or.inl ⟨by rfl, ?_⟩) (by assumption) ?_
  · intro V hSV
    try dsimp only at hSV
    go_simp
    try with_reducible rfl
  try simp only [Act.put, List.setIfInBounds_toArray, List.set_cons_zero, List.set_cons_succ]
  refine wpAnyH_take (i := 7) (v := .pointer (some ⟨P, 2, none⟩)) rfl (by kernel_rfl) (by kernel_rfl) (by kernel_rfl) (fun _ _ _ h => h) (Or.inl ⟨by rfl, ?_⟩) (by assumption) ?_
  · intro V hSV
    try dsimp only at hSV
    go_simp
    try with_reducible rfl
  try simp only [Act.put, List.setIfInBounds_toArray, List.set_cons_zero, List.set_cons_succ]
  refine wpAnyH_take (i := 8) (v := .pointer (some ⟨P, 2 + l.r, none⟩)) rfl (by kernel_rfl) (by kernel_rfl) (by kernel_rfl) (fun _ _ _ h => h) (Or.inl ⟨by rfl, ?_⟩) (by assumption) ?_
  · intro V hSV
    try dsimp only at hSV
    go_simp
    try with_reducible rfl
  try simp only [Act.put, List.setIfInBounds_toArray, List.set_cons_zero, List.set_cons_succ]
  refine wpAnyH_ready (rs := [9]) (by kernel_rfl) (by simp) (AllReadyH.cons rfl (fun K hK => ?_) AllReadyH.nil)
  go_simp
  refine hK.out _ _ hHeld (fun hHeld => ?_)
  clear hK K
  try simp only [Act.put, List.setIfInBounds_toArray, List.set_cons_zero, List.set_cons_succ]
  refine wpAnyH_ready (rs := [10]) (by kernel_rfl) (by simp) (AllReadyH.cons rfl (fun K hK => ?_) AllReadyH.nil)
  go_simp
  refine HC.out.mono ?_
  rintro e w1 ⟨rfl, hS1, H1⟩
  refine hK.out _ _ hS1 (fun hHeld => ?_)
  clear hK K
  try simp only [Act.put, List.setIfInBounds_toArray, List.set_cons_zero, List.set_cons_succ]
  refine wpAnyH_ready (rs := [11]) (by kernel_rfl) (by simp) (AllReadyH.cons rfl (fun K hK => ?_) AllReadyH.nil)
  go_simp
  refine (HP.out _ H1).mono ?_
  rintro e w2 ⟨rfl, hS2, H2⟩
  refine hK.out _ _ hS2 (fun hHeld => ?_)
  clear hK K
  refine wpAnyH_done (by kernel_rfl) ?_ _
  try simp only [Act.put, List.setIfInBounds_toArray, List.set_cons_zero, List.set_cons_succ]
  go_wp2
  go_end0
  exact ⟨rfl, H2.out⟩

set_option maxHeartbeats 2000000 in
set_option linter.unusedSimpArgs false in
set_option maxRecDepth 100000 in
theorem deed_size (m : Mc) (P bx : Nat) (l : Ln) (t : ByteArray) (w : World) (h : McAt w P m) (hx : w.cell? ⟨bx, 0, none⟩ = some (.pointer (some ⟨P, 0, none⟩))) (hbp : bx ≠ P) (hf : m.fuel ≤ 1000000) (hr : l.r < 8) (hs : l.s < 8) (ht : m.tx[l.s]? = some t) (hts : t.size ≤ 100000) (he : Env w) :
    Calls Tryz.prog 76 #[.agg (lnC l), .pointer (some ⟨bx, 0, none⟩)] w fun e w' => e = .returned (.tuple #[]) ∧ McAt w' P (putM m l.r (szF t)) ∧ UpB P w w' := by
  obtain ⟨W, hW⟩ : ∃ W, W = w.alloc (.cells (lnC l) 67) := ⟨_, rfl⟩
  have hb : Below w.heap.size w W := by rw [hW]; exact (Below.refl _ w).alloc (Nat.le_refl _) _
  obtain ⟨f1, f2⟩ := sum_facts hW h hx hbp
  have hlen : (szF t).size ≤ 1000000 := by have := szF_len (t := t) (by omega); omega
  obtain ⟨k1, k2, k3⟩ := f1 W.drew (Below.refl _ W).drew
  have heW : Env W.drew := he.up hb.drew
  have hC := Itoa_any t.size (by omega) W.drew heW
  have HC : Hid (Calls Tryz.prog 77 #[.int .i64 (t.size : Int)] W.drew fun e w' => e = .returned (.string (szF t)) ∧ (w'.cell? ⟨bx, 0, none⟩ = some (.pointer (some ⟨P, 0, none⟩)) ∧ w'.cell? ⟨w.heap.size, 1, none⟩ = some (.int .i64 (l.r : Int)) ∧ w'.cell? ⟨w.heap.size, 2, none⟩ = some (.int .i64 (l.s : Int))) ∧ Hid (Below W.heap.size W w')) := hC.mono fun e w' q => by
    have q2 : Below W.heap.size W w' := ⟨q.2.os, q.2.tape, q.2.output, q.2.size, q.2.block⟩
    obtain ⟨_, j2, j3⟩ := f1 w' q2
    exact ⟨q.1, ⟨j2, by rw [Lib.cell_of_heap j3]; rfl, by rw [Lib.cell_of_heap j3]; rfl⟩, q2⟩
  have HP : Hid (∀ V : World, Hid (Below W.heap.size W V) → Calls Tryz.prog 68 #[.pointer (some ⟨P, 0, none⟩), .int .i64 (l.r : Int), .string (szF t)] V fun e w' => e = .returned (.tuple #[]) ∧ (w'.cell? ⟨bx, 0, none⟩ = some (.pointer (some ⟨P, 0, none⟩)) ∧ w'.cell? ⟨w.heap.size, 1, none⟩ = some (.int .i64 (l.r : Int)) ∧ w'.cell? ⟨w.heap.size, 2, none⟩ = some (.int .i64 (l.s : Int))) ∧ Hid (McAt w' P (putM m l.r (szF t)) ∧ UpB P w w')) := fun V hV => (put_any m P l.r (szF t) V (f1 V hV.out).1 hf hr hlen).mono fun e w' q => by
    obtain ⟨j1, j2, j3⟩ := f2 V w' hV.out q.2.2
    exact ⟨q.1, ⟨j1, by rw [Lib.cell_of_heap j2]; rfl, by rw [Lib.cell_of_heap j2]; rfl⟩, q.2.1, j3⟩
  have HS : Hid (W.drew.cell? ⟨bx, 0, none⟩ = some (.pointer (some ⟨P, 0, none⟩)) ∧ W.drew.cell? ⟨w.heap.size, 1, none⟩ = some (.int .i64 (l.r : Int)) ∧ W.drew.cell? ⟨w.heap.size, 2, none⟩ = some (.int .i64 (l.s : Int))) := ⟨k2, by rw [Lib.cell_of_heap k3]; rfl, by rw [Lib.cell_of_heap k3]; rfl⟩
  have ct : W.drew.cell? ⟨P, 2 + l.s, none⟩ = some (.string t) := (k1.cell _).trans (mcL_lo l.s t ht)
  have hri : (l.r : Int) < 8 := by omega
  have hsi : (l.s : Int) < 8 := by omega
  have htz : (t.size : Int) ≤ 100000 := by omega
  rw [hW] at HC HP HS ct
  generalize szF t = res at *
  clear h hf hC hb hW hx f1 f2 k1 k2 k3 hlen hr hs hbp ht hts he heW
  unfold lnC at *
  go_enter Tryz.func76, Tryz.ntmps76
  go_wp2
  refine wp_region_held_drew (S := fun V => V.cell? ⟨bx, 0, none⟩ = some (.pointer (some ⟨P, 0, none⟩)) ∧ V.cell? ⟨w.heap.size, 1, none⟩ = some (.int .i64 (l.r : Int)) ∧ V.cell? ⟨w.heap.size, 2, none⟩ = some (.int .i64 (l.s : Int))) (by kernel_rfl) HS.out (fun hHeld => ?_)
  refine wpAnyH_take (i := 0) (v := .pointer (some ⟨P, 0, none⟩)) rfl (by kernel_rfl) (by kernel_rfl) (by kernel_rfl) (fun _ _ _ h => h) (Or.inl ⟨by rfl, ?_⟩) (by assumption) ?_
  · intro V hSV
    try dsimp only at hSV
    go_simp
    try with_reducible rfl
  try simp only [Act.put, List.setIfInBounds_toArray, List.set_cons_zero, List.set_cons_succ]
  refine wpAnyH_take (i := 1) (v := .pointer (some ⟨w.heap.size, 1, none⟩)) rfl (by kernel_rfl) (by kernel_rfl) (by kernel_rfl) (fun _ _ _ h => h) (Or.inl ⟨by rfl, ?_⟩) (by assumption) ?_
  · intro V hSV
    try dsimp only at hSV
    go_simp
    try with_reducible rfl
  try simp only [Act.put, List.setIfInBounds_toArray, List.set_cons_zero, List.set_cons_succ]
  refine wpAnyH_take (i := 2) (v := .int .i64 (l.r : Int)) rfl (by kernel_rfl) (by kernel_rfl) (by kernel_rfl) (fun _ _ _ h => h) (Or.inl ⟨by rfl, ?_⟩) (by assumption) ?_
  · intro V hSV
    try dsimp only at hSV
    go_simp
    try with_reducible rfl
  try simp only [Act.put, List.setIfInBounds_toArray, List.set_cons_zero, List.set_cons_succ]
  refine wpAnyH_take (i := 3) (v := .pointer (some ⟨P, 0, none⟩)) rfl (by kernel_rfl) (by kernel_rfl) (by kernel_rfl) (fun _ _ _ h => h) (Or.inl ⟨by rfl, ?_⟩) (by assumption) ?_
  · intro V hSV
    try dsimp only at hSV
    go_simp
    try with_reducible rfl
  try simp only [Act.put, List.setIfInBounds_toArray, List.set_cons_zero, List.set_cons_succ]
  refine wpAnyH_take (i := 4) (v := .pointer (some ⟨w.heap.size, 2, none⟩)) rfl (by kernel_rfl) (by kernel_rfl) (by kernel_rfl) (fun _ _ _ h => h) (Or.inl ⟨by rfl, ?_⟩) (by assumption) ?_
  · intro V hSV
    try dsimp only at hSV
    go_simp
    try with_reducible rfl
  try simp only [Act.put, List.setIfInBounds_toArray, List.set_cons_zero, List.set_cons_succ]
  refine wpAnyH_take (i := 5) (v := .int .i64 (l.s : Int)) rfl (by kernel_rfl) (by kernel_rfl) (by kernel_rfl) (fun _ _ _ h => h) (Or.inl ⟨by rfl, ?_⟩) (by assumption) ?_
  · intro V hSV
    try dsimp only at hSV
    go_simp
    try with_reducible rfl
  try simp only [Act.put, List.setIfInBounds_toArray, List.set_cons_zero, List.set_cons_succ]
  refine wpAnyH_take (i := 6) (v := .pointer (some ⟨P, 0, none⟩)) rfl (by kernel_rfl) (by kernel_rfl) (by kernel_rfl) (fun _ _ _ h => h) (Or.inl ⟨by rfl, ?_⟩) (by assumption) ?_
  · intro V hSV
    try dsimp only at hSV
    go_simp
    try with_reducible rfl
  try simp only [Act.put, List.setIfInBounds_toArray, List.set_cons_zero, List.set_cons_succ]
  refine wpAnyH_take (i := 7) (v := .pointer (some ⟨P, 2, none⟩)) rfl (by kernel_rfl) (by kernel_rfl) (by kernel_rfl) (fun _ _ _ h => h) (Or.inl ⟨by rfl, ?_⟩) (by assumption) ?_
  · intro V hSV
    try dsimp only at hSV
    go_simp
    try with_reducible rfl
  try simp only [Act.put, List.setIfInBounds_toArray, List.set_cons_zero, List.set_cons_succ]
  refine wpAnyH_take (i := 8) (v := .pointer (some ⟨P, 2 + l.s, none⟩)) rfl (by kernel_rfl) (by kernel_rfl) (by kernel_rfl) (fun _ _ _ h => h) (Or.inl ⟨by rfl, ?_⟩) (by assumption) ?_
  · intro V hSV
    try dsimp only at hSV
    go_simp
    try with_reducible rfl
  try simp only [Act.put, List.setIfInBounds_toArray, List.set_cons_zero, List.set_cons_succ]
  refine wpAnyH_ready (rs := [9]) (by kernel_rfl) (by simp) (AllReadyH.cons rfl (fun K hK => ?_) AllReadyH.nil)
  go_simp
  refine hK.out _ _ hHeld (fun hHeld => ?_)
  clear hK K
  try simp only [Act.put, List.setIfInBounds_toArray, List.set_cons_zero, List.set_cons_succ]
  refine wpAnyH_take (i := 10) (v := .int .i64 (t.size : Int)) rfl (by kernel_rfl) (by kernel_rfl) (by kernel_rfl) (fun _ _ _ h => h) (Or.inl ⟨by rfl, ?_⟩) (by assumption) ?_
  · intro V hSV
    try dsimp only at hSV
    go_simp
    try with_reducible rfl
  try simp only [Act.put, List.setIfInBounds_toArray, List.set_cons_zero, List.set_cons_succ]
  refine wpAnyH_ready (rs := [11]) (by kernel_rfl) (by simp) (AllReadyH.cons rfl (fun K hK => ?_) AllReadyH.nil)
  go_simp
  refine HC.out.mono ?_
  rintro e w1 ⟨rfl, hS1, H1⟩
  refine hK.out _ _ hS1 (fun hHeld => ?_)
  clear hK K
  try simp only [Act.put, List.setIfInBounds_toArray, List.set_cons_zero, List.set_cons_succ]
  refine wpAnyH_ready (rs := [12]) (by kernel_rfl) (by simp) (AllReadyH.cons rfl (fun K hK => ?_) AllReadyH.nil)
  go_simp
  refine (HP.out _ H1).mono ?_
  rintro e w2 ⟨rfl, hS2, H2⟩
  refine hK.out _ _ hS2 (fun hHeld => ?_)
  clear hK K
  refine wpAnyH_done (by kernel_rfl) ?_ _
  try simp only [Act.put, List.setIfInBounds_toArray, List.set_cons_zero, List.set_cons_succ]
  go_wp2
  go_end0
  exact ⟨rfl, H2.out⟩
end Go.Proofs.YtapiedeekbfpnaaGreatDoor

/- Two lines are run: what must be in any case. -/
namespace Go.Proofs.YtapiedeekbfpnaaGreatDoor
open Go.RowKit Go.Shelf Go.Maps Go.WideMaps Go.Sort

def tSet : ByteArray := ⟨#[115, 101, 116]⟩
def tMake : ByteArray := ⟨#[109, 97, 107, 101]⟩
def tHi : ByteArray := ⟨#[104, 105]⟩
def tOut : ByteArray := ⟨#[111, 117, 116]⟩
def bl1 : Ln := ⟨tSet, 0, 0, ⟨#[]⟩, tHi, 0, 0⟩
def bl2 : Ln := ⟨tMake, 0, 0, tOut, ⟨#[]⟩, 0, 0⟩
def bm0 (fv : Value) (mp : Nat) : Mc := ⟨fv, mp, List.replicate 8 ⟨#[]⟩, 100, 0, false, 0⟩
def bm1 (fv : Value) (mp : Nat) : Mc := ⟨fv, mp, tHi :: List.replicate 7 ⟨#[]⟩, 99, 1, false, 0⟩
def bm2 (fv : Value) (mp : Nat) : Mc := ⟨fv, mp, tHi :: List.replicate 7 ⟨#[]⟩, 98, 2, false, 0⟩
def bfl : Fl := ⟨tOut, tHi, false⟩
theorem bput (fv : Value) (mp : Nat) : putM { bm0 fv mp with next := 1 } 0 tHi = bm1 fv mp := rfl
theorem bmk (fv : Value) (mp : Nat) : mkM { bm1 fv mp with next := 2 } [] bfl = bm2 fv mp := rfl
theorem bmkD (fv : Value) (mp : Nat) : mkD { bm1 fv mp with next := 2 } [] bfl (byD []) = byD [bfl] := by
  have h1 : mayF [] bfl.pa = true ∧ (burnM { bm1 fv mp with next := 2 } bfl.tx.size).2 = true := ⟨rfl, rfl⟩
  unfold mkD
  rw [if_pos h1]
  exact (byD_snoc [] bfl).symm
/-- Two lines in memory. -/
structure TwoAt (w : World) (g : Nat) : Prop where
  lt : g < w.heap.size
  a : ∀ j v, ((lnC bl1).toList ++ (lnC bl2).toList)[j]? = some v → w.cell? ⟨g, j, none⟩ = some v
theorem TwoAt.keep {w w' : World} {g : Nat} (h : TwoAt w g) (hh : w'.heap[g]? = w.heap[g]?) (hs : w.heap.size ≤ w'.heap.size) : TwoAt w' g := ⟨Nat.lt_of_lt_of_le h.lt hs, fun j v hv => (cell_same hh j).trans (h.a j v hv)⟩
theorem TwoAt.c {w : World} {g : Nat} (h : TwoAt w g) :
    (w.cell? ⟨g, 0, none⟩ = some (.string ⟨#[115, 101, 116]⟩) ∧ w.cell? ⟨g, 1, none⟩ = some (.int .i64 0) ∧ w.cell? ⟨g, 2, none⟩ = some (.int .i64 0) ∧ w.cell? ⟨g, 3, none⟩ = some (.string ⟨#[]⟩) ∧ w.cell? ⟨g, 4, none⟩ = some (.string ⟨#[104, 105]⟩) ∧ w.cell? ⟨g, 5, none⟩ = some (.int .i64 0) ∧ w.cell? ⟨g, 6, none⟩ = some (.int .i64 0)) ∧
    (w.cell? ⟨g, 7, none⟩ = some (.string ⟨#[109, 97, 107, 101]⟩) ∧ w.cell? ⟨g, 8, none⟩ = some (.int .i64 0) ∧ w.cell? ⟨g, 9, none⟩ = some (.int .i64 0) ∧ w.cell? ⟨g, 10, none⟩ = some (.string ⟨#[111, 117, 116]⟩) ∧ w.cell? ⟨g, 11, none⟩ = some (.string ⟨#[]⟩) ∧ w.cell? ⟨g, 12, none⟩ = some (.int .i64 0) ∧ w.cell? ⟨g, 13, none⟩ = some (.int .i64 0)) :=
  ⟨⟨h.a 0 _ rfl, h.a 1 _ rfl, h.a 2 _ rfl, h.a 3 _ rfl, h.a 4 _ rfl, h.a 5 _ rfl, h.a 6 _ rfl⟩, ⟨h.a 7 _ rfl, h.a 8 _ rfl, h.a 9 _ rfl, h.a 10 _ rfl, h.a 11 _ rfl, h.a 12 _ rfl, h.a 13 _ rfl⟩⟩

theorem rd {w1 : World} {P : Nat} {m : Mc} (hm : McAt w1 P m) (l : Ln) (x : Nat) :
    (w1.alloc (.cells (lnC l) 67)).cell? ⟨P, 11, none⟩ = some (.int .i64 (m.next : Int)) ∧ (w1.alloc (.cells (lnC l) 67)).frozen? ⟨P, 11, none⟩ = false ∧
    McAt ((w1.alloc (.cells (lnC l) 67)).setCell ⟨P, 11, none⟩ (.int .i64 (x : Int))) P { m with next := x } ∧ LnAt ((w1.alloc (.cells (lnC l) 67)).setCell ⟨P, 11, none⟩ (.int .i64 (x : Int))) w1.heap.size l ∧ UpB P w1 ((w1.alloc (.cells (lnC l) 67)).setCell ⟨P, 11, none⟩ (.int .i64 (x : Int))) := by
  have hb : Below w1.heap.size w1 (w1.alloc (.cells (lnC l) 67)) := (Below.refl _ w1).alloc (Nat.le_refl _) _
  have h1 := hm.below hb
  have hP := hm.lt
  refine ⟨h1.c11, h1.frozen 11, h1.setNext x, ?_, (UpB.of_below hb).trans (UpB.set P 11 _ _)⟩
  exact (Below.heap_setCell _ ⟨P, 11, none⟩ _ w1.heap.size (by show w1.heap.size ≠ P; omega)).trans (heap_alloc_new w1 _)
theorem ded_set : ∀ j, j < 13 → dedK[j]? = some (tSet.data.toList, []) → dedN[j]? = some 67 := by decide
theorem ded_make : ∀ j, j < 13 → dedK[j]? = some (tMake.data.toList, []) → dedN[j]? = some 80 := by decide
theorem dedK_lt {j : Nat} {x : List UInt8 × List Nat} (h : dedK[j]? = some x) : j < 13 := (List.getElem?_eq_some_iff.1 h).1

set_option maxHeartbeats 4000000 in
set_option maxRecDepth 100000 in
theorem run_begun (fv : Value) (P mp g cap : Nat) (w : World) (h : McAt w P (bm0 fv mp)) (ho : w.ownsMap Tryz.prog 9 fileE mp 0 (byD [])) (ht : TwoAt w g) (hne : mp ≠ P) (hgP : g ≠ P) :
    Calls Tryz.prog 21 #[.pointer (some ⟨P, 0, none⟩), .slice (some ⟨g, 0, none⟩) 2 cap] w fun e w' => e = .returned (.tuple #[]) ∧ McAt w' P (bm2 fv mp) ∧ (∃ n', n' ≤ 1 ∧ w'.ownsMap Tryz.prog 9 fileE mp n' (byD [bfl])) ∧ UpC P mp w w' := by
  have HND : Hid (Calls Tryz.prog 36 #[.pointer (some ⟨P, 0, none⟩)] w fun e w' => ∃ M bx, e = .returned (.map (some M)) ∧ Hid (DdI w.heap.size M bx P w 13 w')) := (newDeeds_any P w).mono fun e w' q => by obtain ⟨M, bx, q1, q2⟩ := q; exact ⟨M, bx, q1, q2⟩
  have HH : Hid (McAt w P (bm0 fv mp) ∧ w.ownsMap Tryz.prog 9 fileE mp 0 (byD []) ∧ TwoAt w g) := ⟨h, ho, ht⟩
  clear h ho ht
  go_enter Tryz.func21, Tryz.ntmps21
  go_wp2_with (first
    | (go_at_call 36; refine HND.out.mono ?_; rintro e w1 ⟨M, bx, rfl, HD⟩)
    | go_in)
  have hb1 := HD.out.bel
  have m1 := HH.out.1.below hb1
  have o1 := ownsMap_heap HH.out.2.1 (hb1.block mp HH.out.2.1.lt)
  have t1 := HH.out.2.2.keep (hb1.block g HH.out.2.2.lt) hb1.size
  have hMl := HD.out.lt
  have hlo := HD.out.lo
  have hbxl : bx < w1.heap.size := World.block_lt_of_cell? w1 ⟨bx, 0, none⟩ HD.out.env
  have hPl := HH.out.1.lt
  have hmpl := HH.out.2.1.lt
  have hgl := HH.out.2.2.lt
  obtain ⟨⟨a0, a1, a2, a3, a4, a5, a6⟩, _⟩ := t1.c
  have n1 : w1.cell? ⟨P, 11, none⟩ = some (.int .i64 0) := m1.c11
  have n2 : w1.cell? ⟨P, 12, none⟩ = some (.bool false) := m1.c12
  obtain ⟨r1, r2, r3, r4, r5⟩ := rd m1 bl1 1
  have r1 : (w1.alloc (.cells #[.string ⟨#[115, 101, 116]⟩, .int .i64 0, .int .i64 0, .string ⟨#[]⟩, .string ⟨#[104, 105]⟩, .int .i64 0, .int .i64 0] 67)).cell? ⟨P, 11, none⟩ = some (.int .i64 0) := r1
  have r2 : (w1.alloc (.cells #[.string ⟨#[115, 101, 116]⟩, .int .i64 0, .int .i64 0, .string ⟨#[]⟩, .string ⟨#[104, 105]⟩, .int .i64 0, .int .i64 0] 67)).frozen? ⟨P, 11, none⟩ = false := r2
  have r4 : ((w1.alloc (.cells #[.string ⟨#[115, 101, 116]⟩, .int .i64 0, .int .i64 0, .string ⟨#[]⟩, .string ⟨#[104, 105]⟩, .int .i64 0, .int .i64 0] 67)).setCell ⟨P, 11, none⟩ (.int .i64 1)).heap[w1.heap.size]? = some (.cells #[.string ⟨#[115, 101, 116]⟩, .int .i64 0, .int .i64 0, .string ⟨#[]⟩, .string ⟨#[104, 105]⟩, .int .i64 0, .int .i64 0] 67 (0, 0)) := r4
  obtain ⟨⟨b0, _⟩, ⟨b1, _⟩, ⟨b2, _⟩, ⟨b3, _⟩, ⟨b4, _⟩, ⟨b5, _⟩, ⟨b6, _⟩⟩ := ln_cells r4
  obtain ⟨j1, n1', k1, k2, k3⟩ := look_deed HD.out tSet (by decide) (f := [0, 6]) rfl
  rw [ded_set j1 (dedK_lt k1) k1] at k2
  obtain rfl := Option.some.inj k2
  have hlk1 := k3 ((w1.alloc (.cells #[.string ⟨#[115, 101, 116]⟩, .int .i64 0, .int .i64 0, .string ⟨#[]⟩, .string ⟨#[104, 105]⟩, .int .i64 0, .int .i64 0] 67)).setCell ⟨P, 11, none⟩ (.int .i64 1)) (r5.block M hMl (by omega))
  have hlk1 : (Instr.lookup 70 (.map (some M)) (.string ⟨#[115, 101, 116]⟩) false).run Tryz.prog ((w1.alloc (.cells #[.string ⟨#[115, 101, 116]⟩, .int .i64 0, .int .i64 0, .string ⟨#[]⟩, .string ⟨#[104, 105]⟩, .int .i64 0, .int .i64 0] 67)).setCell ⟨P, 11, none⟩ (.int .i64 1)) = .ok (.func (.func 67) #[] #[.pointer (some ⟨bx, 0, none⟩)]) ((w1.alloc (.cells #[.string ⟨#[115, 101, 116]⟩, .int .i64 0, .int .i64 0, .string ⟨#[]⟩, .string ⟨#[104, 105]⟩, .int .i64 0, .int .i64 0] 67)).setCell ⟨P, 11, none⟩ (.int .i64 1)) := hlk1
  have hds := deed_set { bm0 fv mp with next := 1 } P bx bl1 _ r3 ((cell_same (r5.block bx hbxl (by omega)) 0).trans HD.out.env) (show 100 ≤ 1000000 by decide) (show 0 < 8 by decide) (by decide)
  have HDS : Hid (Calls Tryz.prog 67 #[.agg #[.string ⟨#[115, 101, 116]⟩, .int .i64 0, .int .i64 0, .string ⟨#[]⟩, .string ⟨#[104, 105]⟩, .int .i64 0, .int .i64 0], .pointer (some ⟨bx, 0, none⟩)] ((w1.alloc (.cells #[.string ⟨#[115, 101, 116]⟩, .int .i64 0, .int .i64 0, .string ⟨#[]⟩, .string ⟨#[104, 105]⟩, .int .i64 0, .int .i64 0] 67)).setCell ⟨P, 11, none⟩ (.int .i64 1)) fun e w' => e = .returned (.tuple #[]) ∧ Hid (McAt w' P (bm1 fv mp) ∧ UpB P w1 w')) := hds.mono fun e w' q => ⟨q.1, q.2.1, r5.trans q.2.2⟩
  have HK : Hid (DdI w.heap.size M bx P w 13 w1 ∧ w1.ownsMap Tryz.prog 9 fileE mp 0 (byD []) ∧ TwoAt w1 g ∧ (P < w.heap.size ∧ mp < w.heap.size ∧ g < w.heap.size ∧ w.heap.size ≤ bx ∧ bx < M ∧ M < w1.heap.size ∧ w.heap.size ≤ w1.heap.size)) := ⟨HD.out, o1, t1, hPl, hmpl, hgl, hlo.1, hlo.2, hMl, hb1.size⟩
  clear r3 r5 hds k1 k3 r4 hb1 m1 o1 t1
  refine wp_loop_rounds 3 ?_
  rw [rounds_succ]
  go_wp2_with (first
    | (go_at_call 67; refine HDS.out.mono ?_; rintro e w4 ⟨rfl, H4⟩)
    | go_in)
  clear a0 a1 a2 a3 a4 a5 a6 n1 n2 r1 r2 b0 b1 b2 b3 b4 b5 b6 hlk1 HDS
  have u4 := H4.out.2
  have m4 := H4.out.1
  have o4 := ownsMap_heap HK.out.2.1 (u4.block mp (by omega) hne)
  have t4 := HK.out.2.2.1.keep (u4.block g (by omega) hgP) u4.size
  have x4 : w4.cell? ⟨bx, 0, none⟩ = some (.pointer (some ⟨P, 0, none⟩)) := (cell_same (u4.block bx hbxl (by omega)) 0).trans HK.out.1.env
  obtain ⟨_, ⟨a0, a1, a2, a3, a4, a5, a6⟩⟩ := t4.c
  have n1 : w4.cell? ⟨P, 11, none⟩ = some (.int .i64 1) := m4.c11
  have n2 : w4.cell? ⟨P, 12, none⟩ = some (.bool false) := m4.c12
  obtain ⟨r1, r2, r3, r4, r5⟩ := rd m4 bl2 2
  have r1 : (w4.alloc (.cells #[.string ⟨#[109, 97, 107, 101]⟩, .int .i64 0, .int .i64 0, .string ⟨#[111, 117, 116]⟩, .string ⟨#[]⟩, .int .i64 0, .int .i64 0] 67)).cell? ⟨P, 11, none⟩ = some (.int .i64 1) := r1
  have r2 : (w4.alloc (.cells #[.string ⟨#[109, 97, 107, 101]⟩, .int .i64 0, .int .i64 0, .string ⟨#[111, 117, 116]⟩, .string ⟨#[]⟩, .int .i64 0, .int .i64 0] 67)).frozen? ⟨P, 11, none⟩ = false := r2
  have r4 : ((w4.alloc (.cells #[.string ⟨#[109, 97, 107, 101]⟩, .int .i64 0, .int .i64 0, .string ⟨#[111, 117, 116]⟩, .string ⟨#[]⟩, .int .i64 0, .int .i64 0] 67)).setCell ⟨P, 11, none⟩ (.int .i64 2)).heap[w4.heap.size]? = some (.cells #[.string ⟨#[109, 97, 107, 101]⟩, .int .i64 0, .int .i64 0, .string ⟨#[111, 117, 116]⟩, .string ⟨#[]⟩, .int .i64 0, .int .i64 0] 67 (0, 0)) := r4
  obtain ⟨⟨b0, _⟩, ⟨b1, _⟩, ⟨b2, _⟩, ⟨b3, _⟩, ⟨b4, _⟩, ⟨b5, _⟩, ⟨b6, _⟩⟩ := ln_cells r4
  obtain ⟨j1, n1', k1, k2, k3⟩ := look_deed HK.out.1 tMake (by decide) (f := [7, 0]) rfl
  rw [ded_make j1 (dedK_lt k1) k1] at k2
  obtain rfl := Option.some.inj k2
  have h4s := u4.size
  have hlk1 := k3 ((w4.alloc (.cells #[.string ⟨#[109, 97, 107, 101]⟩, .int .i64 0, .int .i64 0, .string ⟨#[111, 117, 116]⟩, .string ⟨#[]⟩, .int .i64 0, .int .i64 0] 67)).setCell ⟨P, 11, none⟩ (.int .i64 2)) ((r5.block M (by omega) (by omega)).trans (u4.block M hMl (by omega)))
  have hlk1 : (Instr.lookup 70 (.map (some M)) (.string ⟨#[109, 97, 107, 101]⟩) false).run Tryz.prog ((w4.alloc (.cells #[.string ⟨#[109, 97, 107, 101]⟩, .int .i64 0, .int .i64 0, .string ⟨#[111, 117, 116]⟩, .string ⟨#[]⟩, .int .i64 0, .int .i64 0] 67)).setCell ⟨P, 11, none⟩ (.int .i64 2)) = .ok (.func (.func 80) #[] #[.pointer (some ⟨bx, 0, none⟩)]) ((w4.alloc (.cells #[.string ⟨#[109, 97, 107, 101]⟩, .int .i64 0, .int .i64 0, .string ⟨#[111, 117, 116]⟩, .string ⟨#[]⟩, .int .i64 0, .int .i64 0] 67)).setCell ⟨P, 11, none⟩ (.int .i64 2)) := hlk1
  have hds := deed_make { bm1 fv mp with next := 2 } P bx 0 [] bl2 tHi _ r3 ((cell_same (r5.block bx (by omega) (by omega)) 0).trans x4) (show 99 ≤ 1000000 by decide) (show 0 < 8 by decide) rfl (by decide) (by decide) (ownsMap_heap o4 (r5.block mp (by omega) hne)) List.nodup_nil (by decide) hne (by omega)
  have HDS : Hid (Calls Tryz.prog 80 #[.agg #[.string ⟨#[109, 97, 107, 101]⟩, .int .i64 0, .int .i64 0, .string ⟨#[111, 117, 116]⟩, .string ⟨#[]⟩, .int .i64 0, .int .i64 0], .pointer (some ⟨bx, 0, none⟩)] ((w4.alloc (.cells #[.string ⟨#[109, 97, 107, 101]⟩, .int .i64 0, .int .i64 0, .string ⟨#[111, 117, 116]⟩, .string ⟨#[]⟩, .int .i64 0, .int .i64 0] 67)).setCell ⟨P, 11, none⟩ (.int .i64 2)) fun e w' => e = .returned (.tuple #[]) ∧ Hid (McAt w' P (bm2 fv mp) ∧ (∃ n', n' ≤ 1 ∧ w'.ownsMap Tryz.prog 9 fileE mp n' (byD [bfl])) ∧ UpC P mp w w')) := hds.mono fun e w' q => by
    obtain ⟨q0, q1, ⟨n', q2, q3⟩, q4⟩ := q
    refine ⟨q0, q1, ⟨n', q2, ?_⟩, ?_⟩
    · have e1 := bmkD fv mp
      have q3 : w'.ownsMap Tryz.prog 9 fileE mp n' (mkD { bm1 fv mp with next := 2 } [] bfl (byD [])) := q3
      rw [e1] at q3
      exact q3
    · have h0 : UpC P mp w w1 := ⟨HK.out.1.bel.os, HK.out.1.bel.tape, HK.out.1.bel.output, HK.out.1.bel.size, fun g hg _ _ => HK.out.1.bel.block g hg⟩
      exact ((h0.trans (UpC.of u4)).trans (UpC.of r5)).trans q4
  clear r3 r5 hds k1 k3 r4 m4 o4 t4 u4 x4
  rw [rounds_succ]
  go_wp2_with (first
    | (go_at_call 80; refine HDS.out.mono ?_; rintro e w7 ⟨rfl, H7⟩)
    | go_in)
  clear a0 a1 a2 a3 a4 a5 a6 n1 n2 r1 r2 b0 b1 b2 b3 b4 b5 b6 hlk1 HDS
  have n1 : w7.cell? ⟨P, 11, none⟩ = some (.int .i64 2) := H7.out.1.c11
  have n2 : w7.cell? ⟨P, 12, none⟩ = some (.bool false) := H7.out.1.c12
  rw [rounds_succ]
  go_wp2
  go_end0
  exact ⟨rfl, H7.out⟩
end Go.Proofs.YtapiedeekbfpnaaGreatDoor

/- A machine does a line, whichever it is. -/
namespace Go.Proofs.YtapiedeekbfpnaaGreatDoor
open Go.RowKit Go.Shelf Go.Maps Go.WideMaps Go.Sort

theorem wk_of {l : Ln} {j : Nat} (h : dedK[j]? = some (l.wd.data.toList, [])) : wkF l = j ∧ j < 13 := by
  have hj := dedK_lt h
  refine ⟨?_, hj⟩
  unfold wkF
  have h2 : wrdL[j]? = some l.wd.data.toList := by
    have h3 : (dedK.map (·.1))[j]? = some l.wd.data.toList := by rw [List.getElem?_map, h]; rfl
    exact h3
  have hn : wrdL.Nodup := by decide
  obtain ⟨h4, h5⟩ := List.getElem?_eq_some_iff.1 h2
  rw [← h5]
  exact List.Nodup.idxOf_getElem hn j h4
/-- How a deed ends. -/
def DeP (P mp n : Nat) (m' : Mc) (L' : List Fl) (w : World) (e : Ending) (w' : World) : Prop :=
  e = .returned (.tuple #[]) ∧ McAt w' P m' ∧ (∃ n', n' ≤ n + 1 ∧ w'.ownsMap Tryz.prog 9 fileE mp n' (byD L')) ∧ UpC P mp w w'
theorem de_of {N P mp n : Nat} {args : Array Value} {m' : Mc} {L : List Fl} {w : World} (ho : w.ownsMap Tryz.prog 9 fileE mp n (byD L)) (hne : mp ≠ P)
    (hc : Calls Tryz.prog N args w fun e w' => e = .returned (.tuple #[]) ∧ McAt w' P m' ∧ UpB P w w') : Calls Tryz.prog N args w (DeP P mp n m' L w) :=
  hc.mono fun e w' q => ⟨q.1, q.2.1, ⟨n, by omega, ownsMap_heap ho (q.2.2.block mp ho.lt hne)⟩, UpC.of q.2.2⟩
theorem rdM_do (F L : List Fl) (m : Mc) (l : Ln) (h : wkF l = 1) : doM F L m l = rdM F m l.r l.pa := by
  unfold doM rdM
  simp only [h]
  all_goals (cases fndF F l.pa <;> rfl)

theorem deed_all (F L : List Fl) (m : Mc) (P bx n : Nat) (ao : Option Addr) (cap : Nat) (l : Ln) (w : World) (h : McAt w P m) (hx : w.cell? ⟨bx, 0, none⟩ = some (.pointer (some ⟨P, 0, none⟩))) (hbp : bx ≠ P) (hne : m.mp ≠ P)
    (hfv : m.fv = .slice ao F.length cap) (hl : IsFl w ao F) (hF : TrOk F) (hmo : MOk m L) (hf : m.fuel ≤ 1000000) (hlo : LnOk l) (he : Env w) (ho : w.ownsMap Tryz.prog 9 fileE m.mp n (byD L)) (hnn : n ≤ 1000000)
    {j N : Nat} (hj : dedK[j]? = some (l.wd.data.toList, [])) (hN : dedN[j]? = some N) :
    Calls Tryz.prog N #[.agg (lnC l), .pointer (some ⟨bx, 0, none⟩)] w (DeP P m.mp n (doM F L m l) (doL L m l) w) := by
  obtain ⟨hk, hj13⟩ := wk_of hj
  have tr := txF_get hmo hlo.r
  have ts := txF_get hmo hlo.s
  have zr := txF_size hmo l.r
  have zs := txF_size hmo l.s
  have mk : ∀ {b : Bool} {w' : World}, (∃ n', n' ≤ n + 1 ∧ w'.ownsMap Tryz.prog 9 fileE m.mp n' (mkD m L ⟨l.pa, txF m l.r, b⟩ (byD L))) → ∃ n', n' ≤ n + 1 ∧ w'.ownsMap Tryz.prog 9 fileE m.mp n' (byD (mkL m L ⟨l.pa, txF m l.r, b⟩)) := by
    intro b w' h
    rw [mkD_byD hmo.tr.up] at h
    exact h
  match j, hj13, hk, hN with
  | 0, _, hk, hN =>
    obtain rfl := Option.some.inj hN
    have e1 : doM F L m l = putM m l.r l.tx := by unfold doM; simp only [hk]
    have e2 : doL L m l = L := by unfold doL; simp only [hk]
    rw [e1, e2]
    exact de_of ho hne (deed_set m P bx l w h hx hf hlo.r (by have := hlo.tx; omega))
  | 1, _, hk, hN =>
    obtain rfl := Option.some.inj hN
    have e2 : doL L m l = L := by unfold doL; simp only [hk]
    rw [rdM_do F L m l hk, e2]
    exact de_of ho hne (deed_read m P bx ao cap F l w h hx hfv hl hF hf hlo.r)
  | 2, _, hk, hN =>
    obtain rfl := Option.some.inj hN
    have e1 : doM F L m l = putM m l.r (lstF F l.pa) := by unfold doM; simp only [hk]
    have e2 : doL L m l = L := by unfold doL; simp only [hk]
    rw [e1, e2]
    exact de_of ho hne (deed_list m P bx ao cap F l w h hx hbp hfv hl hF hf hlo.r (by have := hlo.pa; omega))
  | 3, _, hk, hN =>
    obtain rfl := Option.some.inj hN
    have e1 : doM F L m l = putM m l.r (jnF (txF m l.r) (txF m l.s)) := by unfold doM; simp only [hk]
    have e2 : doL L m l = L := by unfold doL; simp only [hk]
    rw [e1, e2]
    have hz : (jnF (txF m l.r) (txF m l.s)).size ≤ 1000000 := by
      have : (jnF (txF m l.r) (txF m l.s)).size = ((txF m l.r).data.toList ++ (txF m l.s).data.toList).length := List.size_toArray
      rw [this, List.length_append, Array.length_toList, Array.length_toList]
      have e1 : (txF m l.r).data.size = (txF m l.r).size := rfl
      have e2 : (txF m l.s).data.size = (txF m l.s).size := rfl
      omega
    exact de_of ho hne (deed_join m P bx l (txF m l.r) (txF m l.s) _ w h hx hf hlo.r hlo.s tr ts (fun W => catB _ _ _ (by simp [jnF, bA]) (by omega) W) hz)
  | 4, _, hk, hN =>
    obtain rfl := Option.some.inj hN
    have e1 : doM F L m l = putM m l.r (cutM (txF m l.r) l.n l.m) := by unfold doM; simp only [hk]
    have e2 : doL L m l = L := by unfold doL; simp only [hk]
    rw [e1, e2]
    exact de_of ho hne (deed_cut m P bx l (txF m l.r) w h hx hf hlo.r tr (by omega))
  | 5, _, hk, hN =>
    obtain rfl := Option.some.inj hN
    have e1 : doM F L m l = putM m l.r (szF (txF m l.s)) := by unfold doM; simp only [hk]
    have e2 : doL L m l = L := by unfold doL; simp only [hk]
    rw [e1, e2]
    exact de_of ho hne (deed_size m P bx l (txF m l.s) w h hx hbp hf hlo.r hlo.s ts zs he)
  | 6, _, hk, hN =>
    obtain rfl := Option.some.inj hN
    have e1 : doM F L m l = putM m l.r (smD (txF m l.r)) := by unfold doM; simp only [hk]
    have e2 : doL L m l = L := by unfold doL; simp only [hk]
    rw [e1, e2]
    exact de_of ho hne (deed_sum m P bx l (txF m l.r) w h hx hbp hf hlo.r tr zr he)
  | 7, _, hk, hN =>
    obtain rfl := Option.some.inj hN
    have e1 : doM F L m l = mkM m L ⟨l.pa, txF m l.r, false⟩ := by unfold doM; simp only [hk]
    have e2 : doL L m l = mkL m L ⟨l.pa, txF m l.r, false⟩ := by unfold doL; simp only [hk]
    rw [e1, e2]
    exact (deed_make m P bx n L l (txF m l.r) w h hx hf hlo.r tr (by omega) (by have := hlo.pa; omega) ho hmo.tr.nodup hnn hne hbp).mono fun e w' q => ⟨q.1, q.2.1, mk q.2.2.1, q.2.2.2⟩
  | 8, _, hk, hN =>
    obtain rfl := Option.some.inj hN
    have e1 : doM F L m l = mkM m L ⟨l.pa, txF m l.r, true⟩ := by unfold doM; simp only [hk]
    have e2 : doL L m l = mkL m L ⟨l.pa, txF m l.r, true⟩ := by unfold doL; simp only [hk]
    rw [e1, e2]
    exact (deed_run m P bx n L l (txF m l.r) w h hx hf hlo.r tr (by omega) (by have := hlo.pa; omega) ho hmo.tr.nodup hnn hne hbp).mono fun e w' q => ⟨q.1, q.2.1, mk q.2.2.1, q.2.2.2⟩
  | 9, _, hk, hN =>
    obtain rfl := Option.some.inj hN
    have e1 : doM F L m l = goM m (decide ((txF m l.r).data.toList = (txF m l.s).data.toList)) l.n := by unfold doM; simp only [hk]
    have e2 : doL L m l = L := by unfold doL; simp only [hk]
    rw [e1, e2]
    refine de_of ho hne ((deed_same m P bx l (txF m l.r) (txF m l.s) w h hx hf hlo.r hlo.s tr ts).mono fun e w' q => ?_)
    obtain ⟨q1, b, hb, q2, q3⟩ := q
    have eb : b = decide ((txF m l.r).data.toList = (txF m l.s).data.toList) := by rw [Bool.eq_iff_iff, hb, decide_eq_true_iff]
    rw [← eb]
    exact ⟨q1, q2, q3⟩
  | 10, _, hk, hN =>
    obtain rfl := Option.some.inj hN
    have e1 : doM F L m l = goM m (decide ((txF m l.r).data.toList < (txF m l.s).data.toList)) l.n := by unfold doM; simp only [hk]
    have e2 : doL L m l = L := by unfold doL; simp only [hk]
    rw [e1, e2]
    refine de_of ho hne ((deed_less m P bx l (txF m l.r) (txF m l.s) w h hx hf hlo.r hlo.s tr ts).mono fun e w' q => ?_)
    obtain ⟨q1, b, hb, q2, q3⟩ := q
    have eb : b = decide ((txF m l.r).data.toList < (txF m l.s).data.toList) := by rw [Bool.eq_iff_iff, hb, decide_eq_true_iff]
    rw [← eb]
    exact ⟨q1, q2, q3⟩
  | 11, _, hk, hN =>
    obtain rfl := Option.some.inj hN
    have e1 : doM F L m l = goM m true l.n := by unfold doM; simp only [hk]
    have e2 : doL L m l = L := by unfold doL; simp only [hk]
    rw [e1, e2]
    exact de_of ho hne (deed_goto m P bx l w h hx hf)
  | 12, _, hk, hN =>
    obtain rfl := Option.some.inj hN
    have e1 : doM F L m l = endM m l.n := by unfold doM; simp only [hk]
    have e2 : doL L m l = L := by unfold doL; simp only [hk]
    rw [e1, e2]
    exact de_of ho hne (deed_exit m P bx l w h hx hf)
  | j + 13, hj, _, _ => omega
theorem deed_enters {j N : Nat} (hN : dedN[j]? = some N) : ∀ args w, (callFunc N args).run Tryz.prog w = .ok (.enter N args) w := by
  have hj : j < 13 := (List.getElem?_eq_some_iff.1 hN).1
  match j, hj, hN with
  | 0, _, hN => obtain rfl := Option.some.inj hN; exact enters_of Tryz.func67 (by kernel_rfl) rfl
  | 1, _, hN => obtain rfl := Option.some.inj hN; exact enters_of Tryz.func69 (by kernel_rfl) rfl
  | 2, _, hN => obtain rfl := Option.some.inj hN; exact enters_of Tryz.func71 (by kernel_rfl) rfl
  | 3, _, hN => obtain rfl := Option.some.inj hN; exact enters_of Tryz.func73 (by kernel_rfl) rfl
  | 4, _, hN => obtain rfl := Option.some.inj hN; exact enters_of Tryz.func74 (by kernel_rfl) rfl
  | 5, _, hN => obtain rfl := Option.some.inj hN; exact enters_of Tryz.func76 (by kernel_rfl) rfl
  | 6, _, hN => obtain rfl := Option.some.inj hN; exact enters_of Tryz.func78 (by kernel_rfl) rfl
  | 7, _, hN => obtain rfl := Option.some.inj hN; exact enters_of Tryz.func80 (by kernel_rfl) rfl
  | 8, _, hN => obtain rfl := Option.some.inj hN; exact enters_of Tryz.func82 (by kernel_rfl) rfl
  | 9, _, hN => obtain rfl := Option.some.inj hN; exact enters_of Tryz.func83 (by kernel_rfl) rfl
  | 10, _, hN => obtain rfl := Option.some.inj hN; exact enters_of Tryz.func85 (by kernel_rfl) rfl
  | 11, _, hN => obtain rfl := Option.some.inj hN; exact enters_of Tryz.func86 (by kernel_rfl) rfl
  | 12, _, hN => obtain rfl := Option.some.inj hN; exact enters_of Tryz.func87 (by kernel_rfl) rfl
end Go.Proofs.YtapiedeekbfpnaaGreatDoor

/- What must be in any case. -/
namespace Go.Proofs.YtapiedeekbfpnaaGreatDoor
open Go.RowKit Go.Shelf Go.Maps Go.WideMaps Go.Sort

set_option maxHeartbeats 2000000 in
set_option maxRecDepth 100000 in
theorem newMachine_begun (w : World) :
    Calls Tryz.prog 20 #[.slice none 0 0, .int .i64 100] w fun e w' => e = .returned (.pointer (some ⟨w.heap.size + 1, 0, none⟩)) ∧ McAt w' (w.heap.size + 1) (bm0 (.slice none 0 0) w.heap.size) ∧ w'.ownsMap Tryz.prog 9 fileE w.heap.size 0 (byD []) ∧ Below w.heap.size w w' := by
  have hmm := @run_makeMap Tryz.prog
  have h1 : ∀ o : Obj, Below w.heap.size w ((w.alloc (.map #[] 0)).alloc o) := fun o => ((Below.refl _ w).alloc (Nat.le_refl _) _).alloc (by rw [World.size_alloc]; omega) _
  have h2 : ∀ o : Obj, ((w.alloc (.map #[] 0)).alloc o).ownsMap Tryz.prog 9 fileE w.heap.size 0 (byD []) := fun o => (World.ownsMap_made (H := Unit) w Tryz.prog 9 fileE).alloc o
  have h3 : ∀ cs : Array Value, cs = (mcL (bm0 (.slice none 0 0) w.heap.size)).toArray → McAt ((w.alloc (.map #[] 0)).alloc (.cells cs 52)) (w.heap.size + 1) (bm0 (.slice none 0 0) w.heap.size) := fun cs e => by
    refine ⟨?_, rfl⟩
    have := heap_alloc_new (w.alloc (.map #[] 0)) (.cells cs 52)
    rw [World.size_alloc] at this
    rw [this, e]
  have H1 : Hid (∀ o : Obj, Below w.heap.size w ((w.alloc (.map #[] 0)).alloc o)) := h1
  have H2 : Hid (∀ o : Obj, ((w.alloc (.map #[] 0)).alloc o).ownsMap Tryz.prog 9 fileE w.heap.size 0 (byD [])) := h2
  have H3 : Hid (∀ cs : Array Value, cs = (mcL (bm0 (.slice none 0 0) w.heap.size)).toArray → McAt ((w.alloc (.map #[] 0)).alloc (.cells cs 52)) (w.heap.size + 1) (bm0 (.slice none 0 0) w.heap.size)) := h3
  clear h1 h2 h3
  go_enter Tryz.func20, Tryz.ntmps20
  go_wp2
  go_ret
  exact ⟨rfl, H3.out _ rfl, H2.out _, H1.out _⟩

def bs1 : ByteArray := ⟨#[115, 101, 116, 32, 97, 32, 104, 105]⟩
def bs2 : ByteArray := ⟨#[109, 97, 107, 101, 32, 111, 117, 116, 32, 97]⟩
def bs3 : ByteArray := ⟨#[103, 111, 116, 111, 32, 53]⟩
theorem b_path : pathOk (bA [111, 117, 116]) = true := by
  have hn : nameOk (⟨([111, 117, 116] : List UInt8).toArray⟩ : ByteArray) = true := by
    unfold nameOk
    rw [Lib.toList_data]
    decide
  show (decide ((bA [111, 117, 116]).size ≤ 100) && (nameOk (⟨([111, 117, 116] : List UInt8).toArray⟩ : ByteArray) && true)) = true
  rw [hn]
  decide
theorem b_l1 : linF 2 bs1.data.toList = some bl1 := rfl
theorem b_l2 : linF 2 bs2.data.toList = some bl2 := by
  have e : linF 2 bs2.data.toList = (if pathOk (bA [111, 117, 116]) = true then some { Ln.none with wd := tMake, pa := tOut } else none).bind (fun l' => foldP 2 [0] [[97]] l') := rfl
  rw [e, if_pos b_path]
  rfl
theorem b_bad : badF 2 [bs1, bs2] = none := by
  refine bad_none fun j hj => ?_
  match j, hj with
  | 0, _ => show (linF 2 bs1.data.toList).isSome = true; rw [b_l1]; rfl
  | 1, _ => show (linF 2 bs2.data.toList).isSome = true; rw [b_l2]; rfl
theorem b_lns : lnsF 2 [bs1, bs2] = [bl1, bl2] := by
  unfold lnsF
  rw [List.filterMap_cons, List.filterMap_cons, b_l1, b_l2]
  rfl
theorem b_chk : chkF [bs1, bs2] = (0, 0) := by
  unfold chkF
  rw [if_neg (by rintro (h | ⟨s, h, h2⟩); exact absurd h (by decide); simp at h; rcases h with rfl | rfl; exact absurd h2 (by decide); exact absurd h2 (by decide)), show badF [bs1, bs2].length [bs1, bs2] = none from b_bad]
theorem b_chk3 : chkF [bs3] = (0, 1) := by
  unfold chkF
  rw [if_neg (by rintro (h | ⟨s, h, h2⟩); exact absurd h (by decide); simp at h; rcases h with rfl; exact absurd h2 (by decide)), show badF [bs3].length [bs3] = some 0 from by decide]

set_option maxHeartbeats 4000000 in
set_option maxRecDepth 100000 in
theorem Run_begun (g0 c0 : Nat) (w : World) (ht : TxAt w (some ⟨g0, 0, none⟩) [bs1, bs2]) (hm : MaxIs w) :
    Calls Tryz.prog 9 #[.slice none 0 0, .slice (some ⟨g0, 0, none⟩) 2 c0, .int .i64 100] w fun e w' => ∃ v, e = .returned (.tuple #[v, .int .i64 0, .int .i64 2, .int .i64 0]) ∧ w'.ownsRow w.heap.size 35 3 v 1 (flCells [bfl]) ∧ Below w.heap.size w w' := by
  have HC : Hid (Calls Tryz.prog 13 #[.slice none 0 0] w fun e w' => e = .returned (.int .i64 0) ∧ Hid (Below w.heap.size w w')) := (Check_any none 0 [] w (.inl rfl) hm).mono fun e w' q => ⟨q.1, q.2⟩
  have HL : Hid (∀ V, Hid (Below w.heap.size w V) → Calls Tryz.prog 19 #[.slice (some ⟨g0, 0, none⟩) 2 c0] V fun e w' => ∃ g cap, e = .returned (.tuple #[.slice (some ⟨g, 0, none⟩) 2 cap, .int .i64 0, .int .i64 0]) ∧ Hid (Below V.heap.size V w' ∧ TwoAt w' g)) := by
    intro V hV
    refine (linesOf_any (some ⟨g0, 0, none⟩) c0 [bs1, bs2] V (ht.below hV.out) (hm.up hV.out) (by decide)).mono ?_
    rintro e w' ⟨v, h1, h2, h3⟩
    rw [b_chk] at h1 h3
    obtain ⟨h4, h5⟩ := h3 rfl
    rw [show lnsF [bs1, bs2].length [bs1, bs2] = [bl1, bl2] from b_lns] at h4
    have h4 : w'.ownsRow V.heap.size 67 7 v (1 + 1) ((lnC bl1).toList ++ (lnC bl2).toList) := h4
    obtain ⟨g, cap, hv⟩ := own_block h4
    subst hv
    refine ⟨g, cap, h1, h2, (h4.lt g rfl).2, fun j v hv => ?_⟩
    have := h4.cells rfl j v hv
    rwa [addr_add, Nat.zero_add] at this
  clear ht hm
  go_enter Tryz.func9, Tryz.ntmps9
  go_wp2_with (first
    | (go_at_call 13; refine HC.out.mono ?_; rintro e w1 ⟨rfl, H1⟩)
    | (go_at_call 19; refine (HL.out _ H1).mono ?_; rintro e w2 ⟨g, cap, rfl, H2⟩)
    | (go_at_call 20; refine (newMachine_begun _).mono ?_; rintro e w3 ⟨rfl, q1, q2, q3⟩; have H3 : Hid (McAt w3 (w2.heap.size + 1) (bm0 (.slice none 0 0) w2.heap.size) ∧ w3.ownsMap Tryz.prog 9 fileE w2.heap.size 0 (byD []) ∧ Below w2.heap.size w2 w3) := ⟨q1, q2, q3⟩; clear q1 q2 q3)
    | (go_at_call 21; refine (run_begun (.slice none 0 0) (w2.heap.size + 1) w2.heap.size g cap w3 H3.out.1 H3.out.2.1 (H2.out.2.keep (H3.out.2.2.block g H2.out.2.lt) H3.out.2.2.size) (by omega) (by have := H2.out.2.lt; omega)).mono ?_; rintro e w4 ⟨rfl, q1, q2, q3⟩; have H4 : Hid (McAt w4 (w2.heap.size + 1) (bm2 (.slice none 0 0) w2.heap.size) ∧ (∃ n', n' ≤ 1 ∧ w4.ownsMap Tryz.prog 9 fileE w2.heap.size n' (byD [bfl])) ∧ UpC (w2.heap.size + 1) w2.heap.size w3 w4) := ⟨q1, q2, q3⟩; clear q1 q2 q3)
    | go_in)
  obtain ⟨P, hP⟩ : ∃ P, P = w2.heap.size + 1 := ⟨_, rfl⟩
  rw [← hP] at H3 H4 ⊢
  have HPe : Hid (P = w2.heap.size + 1) := hP
  clear hP
  have m4 := H4.out.1
  have s1 : w4.cell? ⟨P, 13, none⟩ = some (.int .i64 0) := m4.c13
  have s2 : w4.cell? ⟨P, 10, none⟩ = some (.int .i64 98) := m4.c10
  have HM : Hid (Calls Tryz.prog 22 #[.pointer (some ⟨P, 0, none⟩)] w4.drew fun e w' => ∃ v, e = .returned v ∧ (w'.cell? ⟨P, 13, none⟩ = some (.int .i64 0) ∧ w'.cell? ⟨P, 10, none⟩ = some (.int .i64 98)) ∧ Hid (w'.ownsRow w4.heap.size 35 3 v 1 (flCells [bfl]) ∧ Below w4.heap.size w4 w')) := by
    obtain ⟨n', h1, h2⟩ := H4.out.2.1
    refine (madeFiles_any (bm2 (.slice none 0 0) w2.heap.size) P n' [bfl] w4.drew ⟨m4.at_, m4.len⟩ (ownsMap_heap h2 rfl) (by omega) (List.pairwise_singleton _ _) (by decide)).mono ?_
    rintro e w' ⟨v, k1, k2, k3⟩
    have k3 : Below w4.heap.size w4 w' := ⟨k3.os, k3.tape, k3.output, k3.size, k3.block⟩
    have m5 := m4.below k3
    exact ⟨v, k1, ⟨m5.c13, m5.c10⟩, k2, k3⟩
  have HS : Hid (w4.drew.cell? ⟨P, 13, none⟩ = some (.int .i64 0) ∧ w4.drew.cell? ⟨P, 10, none⟩ = some (.int .i64 98)) := ⟨s1, s2⟩
  clear m4
  go_region_held3 (fun V => V.cell? ⟨P, 13, none⟩ = some (.int .i64 0) ∧ V.cell? ⟨P, 10, none⟩ = some (.int .i64 98)) (first | assumption | exact HS.out | go_keep) (first
    | (go_at_call 22; refine HM.out.mono ?_; rintro e w5 ⟨v5, rfl, hS5, H5⟩)
    | fail)
  have hw2 : IntKind.i64.wrap 2 = 2 := by rw [IntKind.wrap_i64]; decide
  rw [hw2]
  go_wp2
  refine bodyPost_ret (v := .tuple #[v5, .int .i64 0, .int .i64 2, .int .i64 0]) (by simp [results, Tryz.results9]) rfl ?_
  have hb4 : Below w.heap.size w w4 := by
    have h1 := H1.out
    have h2 := H2.out.1
    have h3 := H3.out.2.2
    have h4 := H4.out.2.2
    have hp := HPe.out
    have s2 := h2.size
    have s1 := h1.size
    exact ⟨h4.os.trans (h3.os.trans (h2.os.trans h1.os)), h4.tape.trans (h3.tape.trans (h2.tape.trans h1.tape)), h4.output.trans (h3.output.trans (h2.output.trans h1.output)), Nat.le_trans s1 (Nat.le_trans s2 (Nat.le_trans h3.size h4.size)), fun b hb => (h4.block b (Nat.lt_of_lt_of_le (by omega) h3.size) (by omega) (by omega)).trans ((h3.block b (by omega)).trans ((h2.block b (by omega)).trans (h1.block b hb)))⟩
  exact ⟨v5, rfl, row_low H5.out.1 hb4.size, below_low hb4 H5.out.2 hb4.size⟩

theorem two_texts (w : World) : TxAt (w.alloc (.cells #[.string ⟨#[115, 101, 116, 32, 97, 32, 104, 105]⟩, .string ⟨#[109, 97, 107, 101, 32, 111, 117, 116, 32, 97]⟩] 9)) (some ⟨w.heap.size, 0, none⟩) [bs1, bs2] := by
  refine .inr ⟨w.heap.size, 0, rfl, by rw [World.size_alloc]; omega, fun j hj => ?_⟩
  rw [Nat.zero_add, Lib.cell_of_heap (heap_alloc_new w _)]
  match j, hj with
  | 0, _ => rfl
  | 1, _ => rfl
theorem one_text (w : World) : TxAt (w.alloc (.cells #[.string ⟨#[103, 111, 116, 111, 32, 53]⟩] 9)) (some ⟨w.heap.size, 0, none⟩) [bs3] := by
  refine .inr ⟨w.heap.size, 0, rfl, by rw [World.size_alloc]; omega, fun j hj => ?_⟩
  rw [Nat.zero_add, Lib.cell_of_heap (heap_alloc_new w _)]
  match j, hj with
  | 0, _ => rfl

set_option maxHeartbeats 4000000 in
set_option maxRecDepth 100000 in
theorem sbegun_any (w : World) (hm : MaxIs w) :
    Calls Tryz.prog 11 #[] w fun e w' => e = .returned (.bool true) ∧ Below w.heap.size w w' := by
  have hb1 : Below w.heap.size w (w.alloc (.cells #[.string ⟨#[115, 101, 116, 32, 97, 32, 104, 105]⟩, .string ⟨#[109, 97, 107, 101, 32, 111, 117, 116, 32, 97]⟩] 9)) := (Below.refl _ w).alloc (Nat.le_refl _) _
  have hR := Run_begun w.heap.size 2 _ (two_texts w) (hm.up hb1)
  have HR : Hid (Calls Tryz.prog 9 #[.slice none 0 0, .slice (some ⟨w.heap.size, 0, none⟩) 2 2, .int .i64 100] (w.alloc (.cells #[.string ⟨#[115, 101, 116, 32, 97, 32, 104, 105]⟩, .string ⟨#[109, 97, 107, 101, 32, 111, 117, 116, 32, 97]⟩] 9)) fun e w' => ∃ g cap, e = .returned (.tuple #[.slice (some ⟨g, 0, none⟩) 1 cap, .int .i64 0, .int .i64 2, .int .i64 0]) ∧ Hid (w'.cell? ⟨g, 1, none⟩ = some (.string ⟨#[104, 105]⟩) ∧ g < w'.heap.size ∧ Below w.heap.size w w')) := by
    refine hR.mono ?_
    rintro e w' ⟨v, k1, k2, k3⟩
    obtain ⟨g, cap, hv⟩ := own_block k2
    subst hv
    refine ⟨g, cap, k1, ?_, (k2.lt g rfl).2, below_low hb1 k3 hb1.size⟩
    have := k2.cells rfl 1 (.string ⟨#[104, 105]⟩) rfl
    rwa [addr_add, Nat.zero_add] at this
  have HC : Hid (∀ V, Hid (Below w.heap.size w V) → Calls Tryz.prog 26 #[.slice (some ⟨V.heap.size, 0, none⟩) 1 1] (V.alloc (.cells #[.string ⟨#[103, 111, 116, 111, 32, 53]⟩] 9)) fun e w' => e = .returned (.tuple #[.int .i64 0, .int .i64 1]) ∧ Hid (Below V.heap.size V w')) := by
    intro V hV
    have hb : Below V.heap.size V (V.alloc (.cells #[.string ⟨#[103, 111, 116, 111, 32, 53]⟩] 9)) := (Below.refl _ V).alloc (Nat.le_refl _) _
    refine (SCheck_any (some ⟨V.heap.size, 0, none⟩) 1 [bs3] _ (one_text V) ((hm.up hV.out).up hb) (by decide)).mono ?_
    rintro e w' ⟨k1, k2⟩
    rw [b_chk3] at k1
    exact ⟨k1, below_low hb k2 hb.size⟩
  clear hR hb1 hm
  go_enter Tryz.func11, Tryz.ntmps11
  go_wp2_with (first
    | (go_at_call 9; refine HR.out.mono ?_; rintro e w1 ⟨g, cap, rfl, H1⟩)
    | (go_at_call 26; refine (HC.out w1 H1.out.2.2).mono ?_; rintro e w2 ⟨rfl, H2⟩; have ct : w2.cell? ⟨g, 1, none⟩ = some (.string ⟨#[104, 105]⟩) := ((H2.out.cell (p := ⟨g, 1, none⟩) H1.out.2.1).trans H1.out.1))
    | go_in)
  go_ret
  exact ⟨rfl, below_low H1.out.2.2 H2.out H1.out.2.2.size⟩
end Go.Proofs.YtapiedeekbfpnaaGreatDoor

/- A machine runs whatever lines. -/
namespace Go.Proofs.YtapiedeekbfpnaaGreatDoor
open Go.RowKit Go.Shelf Go.Maps Go.WideMaps Go.Sort

/-- Lines in memory. -/
def LsAt (w : World) (lo : Option Addr) (ls : List Ln) : Prop := ls = [] ∨ ∃ g, lo = some ⟨g, 0, none⟩ ∧ g < w.heap.size ∧ ∀ j (hj : j < ls.length) i (v : Value), (lnC ls[j])[i]? = some v → w.cell? ⟨g, j * 7 + i, none⟩ = some v
theorem LsAt.keep {w w' : World} {lo : Option Addr} {ls : List Ln} (h : LsAt w lo ls) (hs : w.heap.size ≤ w'.heap.size) (hb : ∀ g, lo = some ⟨g, 0, none⟩ → g < w.heap.size → w'.heap[g]? = w.heap[g]?) : LsAt w' lo ls := by
  rcases h with h | ⟨g, h1, h2, h3⟩
  · exact .inl h
  · exact .inr ⟨g, h1, Nat.lt_of_lt_of_le h2 hs, fun j hj i v hv => (cell_same (hb g h1 h2) _).trans (h3 j hj i v hv)⟩
theorem lnCells_get (ls : List Ln) : ∀ j (hj : j < ls.length) i (v : Value), (lnC ls[j])[i]? = some v → (lnCells ls)[j * 7 + i]? = some v := by
  induction ls with
  | nil => intro j hj; simp at hj
  | cons l r ih =>
    intro j hj i v hv
    have e : lnCells (l :: r) = (lnC l).toList ++ lnCells r := rfl
    have e7 : (lnC l).toList.length = 7 := rfl
    rw [e]
    cases j with
    | zero =>
      have hi : i < 7 := (Array.getElem?_eq_some_iff.1 hv).1
      rw [List.getElem?_append_left (by omega)]
      simpa using hv
    | succ j =>
      rw [List.getElem?_append_right (by omega), e7]
      have := ih j (by simpa using hj) i v hv
      rw [show (j + 1) * 7 + i - 7 = j * 7 + i by omega]
      exact this
theorem ls_own {w : World} {B : Nat} {v : Value} {ls : List Ln} (h : w.ownsRow B 67 7 v ls.length (lnCells ls)) : ∃ lo cap, v = .slice lo ls.length cap ∧ LsAt w lo ls ∧ ∀ g, lo = some ⟨g, 0, none⟩ → g < w.heap.size := by
  rcases h.2 with ⟨h1, h2⟩ | ⟨g, cap, cur, hv, _, hh, _⟩
  · refine ⟨none, 0, ?_, .inl (List.length_eq_zero_iff.1 h2), fun g hg => by cases hg⟩
    rw [h1, h2]
  · subst hv
    refine ⟨some ⟨g, 0, none⟩, cap, rfl, .inr ⟨g, rfl, (h.lt g rfl).2, fun j hj i v hv => ?_⟩, fun g' hg => by injection hg with hg; injection hg with hg; have := (h.lt g rfl).2; omega⟩
    have := h.cells rfl (j * 7 + i) v (lnCells_get ls j hj i v hv)
    rwa [addr_add, Nat.zero_add] at this
theorem UpC.below {P M B : Nat} {w w' : World} (h : UpC P M w w') (hP : B ≤ P) (hM : B ≤ M) (hB : B ≤ w.heap.size) : Below B w w' := ⟨h.os, h.tape, h.output, h.size, fun g hg => h.block g (by omega) (by omega) (by omega)⟩
theorem UpC.pre {P M : Nat} {a b c : World} (h : Below a.heap.size a b) (k : UpC P M b c) : UpC P M a c := (⟨h.os, h.tape, h.output, h.size, fun g hg _ _ => h.block g hg⟩ : UpC P M a b).trans k
/-- What holds at the head of each round. -/
structure RnI (F : List Fl) (ls : List Ln) (ao : Option Addr) (cap P mp : Nat) (w1 : World) (R : Mc × List Fl) (kx : Nat) (m : Mc) (L : List Fl) (n : Nat) (wr : World) : Prop where
  mc : McAt wr P m
  own : wr.ownsMap Tryz.prog 9 fileE mp n (byD L)
  mpe : m.mp = mp
  fv : m.fv = .slice ao F.length cap
  ok : MOk m L
  nf : n + m.fuel + (if m.ended = true then 0 else 1) ≤ 100001
  go : m.ended = true ∨ m.fuel < kx
  res : runM F ls kx m L = R
  up : UpC P mp w1 wr
theorem RnI.step {F : List Fl} {ls : List Ln} {ao : Option Addr} {cap P mp : Nat} {w1 : World} {R : Mc × List Fl} {k : Nat} {m : Mc} {L : List Fl} {n : Nat} {wr W w4 : World} (h : RnI F ls ao cap P mp w1 R (k + 1) m L n wr)
    (hs : stp ls m = false) (hp : PaOk (lnAt ls m)) (hW : UpC P mp wr W) {e : Ending} (hd : DeP P mp n (doM F L (nxM m) (lnAt ls m)) (doL L (nxM m) (lnAt ls m)) W e w4) : ∃ m' L' n', RnI F ls ao cap P mp w1 R k m' L' n' w4 := by
  obtain ⟨_, d1, ⟨n', d2, d3⟩, d4⟩ := hd
  have g := do_goes F L (nxM m) (lnAt ls m)
  have he : m.ended = false := by unfold stp at hs; rw [Bool.or_eq_false_iff] at hs; exact hs.1
  have hnf := h.nf
  rw [he, if_neg (by simp)] at hnf
  have hgo : m.fuel < k + 1 := h.go.resolve_left (by rw [he]; simp)
  have g1 : (doM F L (nxM m) (lnAt ls m)).fuel < m.fuel ∨ (doM F L (nxM m) (lnAt ls m)).ended = true := g.1
  have g2 : (doM F L (nxM m) (lnAt ls m)).fuel ≤ m.fuel := g.2.1
  refine ⟨_, _, n', d1, d3, g.2.2.2.1.trans h.mpe, g.2.2.2.2.trans h.fv, MOk.do (show MOk (nxM m) L from h.ok.tx_same rfl) _ hp, ?_, ?_, ?_, (h.up.trans hW).trans d4⟩
  · split
    · omega
    · rename_i hne
      have := g1.resolve_right hne
      omega
  · rcases g1 with g1 | g1
    · exact .inr (by omega)
    · exact .inl g1
  · rw [← h.res, runM_go F ls m L hs k]
/-- How a run ends. -/
def RunP (F : List Fl) (ls : List Ln) (P mp : Nat) (m0 : Mc) (w : World) (e : Ending) (w' : World) : Prop :=
  e = .returned (.tuple #[]) ∧ ∃ m L n, Hid (runM F ls (m0.fuel + 1) m0 [] = (m, L) ∧ McAt w' P m ∧ MOk m L ∧ n ≤ 100001 ∧ w'.ownsMap Tryz.prog 9 fileE mp n (byD L) ∧ UpC P mp w w' ∧ m.fuel ≤ m0.fuel)

theorem run_fuel {F : List Fl} {ls : List Ln} : ∀ (k : Nat) (m : Mc) (L : List Fl), (runM F ls k m L).1.fuel ≤ m.fuel
  | 0, _, _ => Nat.le_refl _
  | k + 1, m, L => by
    unfold runM
    split
    · exact Nat.le_refl _
    · exact Nat.le_trans (run_fuel k _ _) (do_goes F L (nxM m) (lnAt ls m)).2.1

set_option maxHeartbeats 4000000 in
set_option maxRecDepth 100000 in
theorem run_any (F : List Fl) (ls : List Ln) (ao lo : Option Addr) (cap lcap P mp : Nat) (m0 : Mc) (w0 w : World) (hb0 : Below w0.heap.size w0 w) (hP : w0.heap.size ≤ P) (hmp : w0.heap.size ≤ mp) (hne : mp ≠ P) (he : Env w0) (hl : IsFl w0 ao F) (hF : TrOk F)
    (h : McAt w P m0) (hm0 : m0.mp = mp) (hfv : m0.fv = .slice ao F.length cap) (hok : MOk m0 []) (hend : m0.ended = false) (hfu : m0.fuel ≤ 100000) (ho : w.ownsMap Tryz.prog 9 fileE mp 0 (byD []))
    (hls : LsAt w lo ls) (hlg : ∀ g, lo = some ⟨g, 0, none⟩ → g ≠ P ∧ g ≠ mp) (hln : ls.length ≤ 1000) (hlo : ∀ l ∈ ls, LnOk l ∧ PaOk l ∧ (∃ f, frmF l.wd.data.toList = some f) ∧ l.wd.size ≤ 100000) :
    Calls Tryz.prog 21 #[.pointer (some ⟨P, 0, none⟩), .slice lo ls.length lcap] w (RunP F ls P mp m0 w) := by
  have HND : Hid (Calls Tryz.prog 36 #[.pointer (some ⟨P, 0, none⟩)] w fun e w' => ∃ M bx, e = .returned (.map (some M)) ∧ Hid (DdI w.heap.size M bx P w 13 w')) := (newDeeds_any P w).mono fun e w' q => by obtain ⟨M, bx, q1, q2⟩ := q; exact ⟨M, bx, q1, q2⟩
  have HH : Hid (McAt w P m0 ∧ w.ownsMap Tryz.prog 9 fileE mp 0 (byD []) ∧ LsAt w lo ls ∧ m0.mp = mp ∧ m0.fv = .slice ao F.length cap ∧ MOk m0 [] ∧ m0.ended = false ∧ m0.fuel ≤ 100000) := ⟨h, ho, hls, hm0, hfv, hok, hend, hfu⟩
  have HE : Hid (∀ (V : World), Below w0.heap.size w0 V → Env V ∧ IsFl V ao F) := fun V hV => ⟨he.up hV, hl.below hV (Nat.le_refl _)⟩
  have HB0 : Hid (Below w0.heap.size w0 w ∧ w0.heap.size ≤ P ∧ w0.heap.size ≤ mp ∧ mp ≠ P) := ⟨hb0, hP, hmp, hne⟩
  have HLO : Hid ((∀ l ∈ ls, LnOk l ∧ PaOk l ∧ (∃ f, frmF l.wd.data.toList = some f) ∧ l.wd.size ≤ 100000) ∧ TrOk F ∧ ∀ g, lo = some ⟨g, 0, none⟩ → g ≠ P ∧ g ≠ mp) := ⟨hlo, hF, hlg⟩
  have HLN : Hid (ls.length ≤ 1000) := hln
  have hlni : (ls.length : Int) ≤ 1000 := by omega
  clear hb0 hP hmp hne he hl hF h hm0 hfv hok hend hfu ho hls hlg hln hlo
  go_enter Tryz.func21, Tryz.ntmps21
  go_wp2_with (first
    | (go_at_call 36; refine HND.out.mono ?_; rintro e w1 ⟨M, bx, rfl, HD⟩)
    | go_in)
  have hb1 := HD.out.bel
  have hlo := HD.out.lo
  have hMl := HD.out.lt
  have H1 : Hid (RnI F ls ao cap P mp w1 (runM F ls (m0.fuel + 1) m0 []) (m0.fuel + 1) m0 [] 0 w1) := by
    refine ⟨HH.out.1.below hb1, ownsMap_heap HH.out.2.1 (hb1.block mp HH.out.2.1.lt), HH.out.2.2.2.1, HH.out.2.2.2.2.1, HH.out.2.2.2.2.2.1, ?_, .inr (by omega), rfl, ⟨rfl, rfl, rfl, Nat.le_refl _, fun _ _ _ _ => rfl⟩⟩
    rw [HH.out.2.2.2.2.2.2.1, if_neg (by simp)]
    have := HH.out.2.2.2.2.2.2.2
    omega
  have HG : Hid (LsAt w1 lo ls ∧ P < w.heap.size ∧ mp < w.heap.size ∧ w.heap.size ≤ bx ∧ bx < M ∧ M < w1.heap.size ∧ bx < w1.heap.size) := ⟨HH.out.2.2.1.keep hb1.size (fun g _ hg => hb1.block g hg), HH.out.1.lt, HH.out.2.1.lt, hlo.1, hlo.2, hMl, by omega⟩
  have HB1 : Hid (Below w0.heap.size w0 w1) := below_low HB0.out.1 hb1 HB0.out.1.size
  have HBW : Hid (Below w.heap.size w w1) := hb1
  clear hb1 hlo hMl
  go_loopg [5] (m0.fuel + 1) (fun kx _ wr => ∃ m L n q, q ≤ kx ∧ Hid (RnI F ls ao cap P mp w1 (runM F ls (m0.fuel + 1) m0 []) q m L n wr))
  case atStart => exact ⟨m0, [], 0, _, Nat.le_refl _, H1⟩
  case round =>
    obtain ⟨m, L, n, q, hq, HR⟩ := hrel
    have c11 := HR.out.mc.c11
    have c12 := HR.out.mc.c12
    have fin : stp ls m = true → Hid (∃ m' L' n', runM F ls (m0.fuel + 1) m0 [] = (m', L') ∧ McAt wr P m' ∧ MOk m' L' ∧ n' ≤ 100001 ∧ wr.ownsMap Tryz.prog 9 fileE mp n' (byD L') ∧ UpC P mp w wr ∧ m'.fuel ≤ m0.fuel) := fun hs => by
      have e := HR.out.res
      rw [runM_stp F ls m L hs] at e
      refine ⟨m, L, n, e.symm, HR.out.mc, HR.out.ok, by have := HR.out.nf; omega, HR.out.own, UpC.pre HBW.out HR.out.up, ?_⟩
      have := run_fuel (F := F) (ls := ls) (m0.fuel + 1) m0 []
      rw [← e] at this
      exact this
    have FIN : Hid (stp ls m = true → Hid (∃ m' L' n', runM F ls (m0.fuel + 1) m0 [] = (m', L') ∧ McAt wr P m' ∧ MOk m' L' ∧ n' ≤ 100001 ∧ wr.ownsMap Tryz.prog 9 fileE mp n' (byD L') ∧ UpC P mp w wr ∧ m'.fuel ≤ m0.fuel)) := fin
    clear fin
    cases hE : m.ended with
    | true =>
      rw [hE] at c12
      have HF := FIN.out (by unfold stp; rw [hE]; rfl)
      clear hE
      go_wp2
      go_end0
      obtain ⟨m', L', n', hh⟩ := HF.out
      exact ⟨rfl, m', L', n', hh⟩
    | false =>
      rw [hE] at c12
      by_cases hn : m.next < ls.length
      · have hs : stp ls m = false := by unfold stp; rw [hE, decide_eq_false (by omega)]; rfl
        have hmem : lnAt ls m ∈ ls := by
          unfold lnAt
          rw [List.getD_eq_getElem?_getD, List.getElem?_eq_getElem hn]
          exact List.getElem_mem hn
        obtain ⟨o1, o2, ⟨fr, o3⟩, o4⟩ := HLO.out.1 _ hmem
        obtain ⟨k, hk⟩ : ∃ k, q = k + 1 := ⟨q - 1, by have := HR.out.go.resolve_left (by rw [hE]; simp); omega⟩
        subst hk
        have HSt : Hid (stp ls m = false ∧ PaOk (lnAt ls m)) := ⟨hs, o2⟩
        obtain ⟨g, rfl, hg, hcl⟩ : ∃ g, lo = some ⟨g, 0, none⟩ ∧ g < wr.heap.size ∧ ∀ j (hj : j < ls.length) i (v : Value), (lnC ls[j])[i]? = some v → wr.cell? ⟨g, j * 7 + i, none⟩ = some v := by
          rcases HG.out.1.keep HR.out.up.size (fun g e hg => HR.out.up.block g hg (HLO.out.2.2 g e).1 (HLO.out.2.2 g e).2) with h | h
          · rw [h] at hn; simp at hn
          · exact h
        have hcl := hcl m.next hn
        have hla : ls[m.next] = lnAt ls m := by
          unfold lnAt
          rw [List.getD_eq_getElem?_getD, List.getElem?_eq_getElem hn]
          rfl
        rw [hla] at hcl
        obtain ⟨r1, r2, r3, r4, r5⟩ := rd HR.out.mc (lnAt ls m) (m.next + 1)
        have hu5 : UpC P mp wr ((wr.alloc (.cells (lnC (lnAt ls m)) 67)).setCell ⟨P, 11, none⟩ (.int .i64 ((m.next + 1 : Nat) : Int))) := UpC.of r5
        obtain ⟨j, N, k1, k2, k3⟩ := look_deed HD.out (lnAt ls m).wd (by unfold maxLen; omega) o3
        have hsz := HR.out.up.size
        have hMk : ((wr.alloc (.cells (lnC (lnAt ls m)) 67)).setCell ⟨P, 11, none⟩ (.int .i64 ((m.next + 1 : Nat) : Int))).heap[M]? = w1.heap[M]? := (hu5.block M (by have := HG.out; omega) (by have := HG.out; omega) (by have := HG.out; omega)).trans (HR.out.up.block M HG.out.2.2.2.2.2.1 (by have := HG.out; omega) (by have := HG.out; omega))
        have hxk : ((wr.alloc (.cells (lnC (lnAt ls m)) 67)).setCell ⟨P, 11, none⟩ (.int .i64 ((m.next + 1 : Nat) : Int))).cell? ⟨bx, 0, none⟩ = some (.pointer (some ⟨P, 0, none⟩)) := (cell_same ((hu5.block bx (by have := HG.out; omega) (by have := HG.out; omega) (by have := HG.out; omega)).trans (HR.out.up.block bx HG.out.2.2.2.2.2.2 (by have := HG.out; omega) (by have := HG.out; omega))) 0).trans HD.out.env
        have hlk := k3 _ hMk
        have hB2 : Below w0.heap.size w0 ((wr.alloc (.cells (lnC (lnAt ls m)) 67)).setCell ⟨P, 11, none⟩ (.int .i64 ((m.next + 1 : Nat) : Int))) := HB1.out.trans ((HR.out.up.trans hu5).below HB0.out.2.1 HB0.out.2.2.1 HB1.out.size)
        obtain ⟨e1, e2⟩ := HE.out _ hB2
        have hmo : MOk (nxM m) L := HR.out.ok.tx_same rfl
        have hown2 := ownsMap_heap HR.out.own (r5.block mp HR.out.own.lt HB0.out.2.2.2)
        have hnf := HR.out.nf
        have hdd := deed_all F L (nxM m) P bx n ao cap (lnAt ls m) _ r3 hxk (by have := HG.out; omega) (show m.mp ≠ P by rw [HR.out.mpe]; exact HB0.out.2.2.2) HR.out.fv e2 HLO.out.2.1 hmo (show m.fuel ≤ 1000000 by omega) o1 e1 (show World.ownsMap _ _ _ _ m.mp _ _ by rw [HR.out.mpe]; exact hown2) (by omega) k1 k2
        have hdd2 : Calls Tryz.prog N #[.agg (lnC (lnAt ls m)), .pointer (some ⟨bx, 0, none⟩)] ((wr.alloc (.cells (lnC (lnAt ls m)) 67)).setCell ⟨P, 11, none⟩ (.int .i64 ((m.next + 1 : Nat) : Int))) (DeP P mp n (doM F L (nxM m) (lnAt ls m)) (doL L (nxM m) (lnAt ls m)) ((wr.alloc (.cells (lnC (lnAt ls m)) 67)).setCell ⟨P, 11, none⟩ (.int .i64 ((m.next + 1 : Nat) : Int)))) := by
          have em : (nxM m).mp = mp := HR.out.mpe
          rw [em] at hdd
          exact hdd
        have eg := deed_enters k2
        obtain ⟨⟨b0, _⟩, ⟨b1, _⟩, ⟨b2, _⟩, ⟨b3, _⟩, ⟨b4, _⟩, ⟨b5, _⟩, ⟨b6, _⟩⟩ := ln_cells r4
        have HST : Hid (∀ {e : Ending} {w4 : World}, DeP P mp n (doM F L (nxM m) (lnAt ls m)) (doL L (nxM m) (lnAt ls m)) ((wr.alloc (.cells (lnC (lnAt ls m)) 67)).setCell ⟨P, 11, none⟩ (.int .i64 ((m.next + 1 : Nat) : Int))) e w4 → Hid (e = .returned (.tuple #[]) ∧ ∃ m' L' n', RnI F ls ao cap P mp w1 (runM F ls (m0.fuel + 1) m0 []) k m' L' n' w4)) := fun {e w4} hd => ⟨hd.1, HR.out.step HSt.out.1 HSt.out.2 hu5 hd⟩
        have a0 : wr.cell? ⟨g, m.next * 7, none⟩ = some (.string (lnAt ls m).wd) := hcl 0 _ rfl
        have a1 : wr.cell? ⟨g, m.next * 7 + 1, none⟩ = some (.int .i64 ((lnAt ls m).r : Int)) := hcl 1 _ rfl
        have a2 : wr.cell? ⟨g, m.next * 7 + 2, none⟩ = some (.int .i64 ((lnAt ls m).s : Int)) := hcl 2 _ rfl
        have a3 : wr.cell? ⟨g, m.next * 7 + 3, none⟩ = some (.string (lnAt ls m).pa) := hcl 3 _ rfl
        have a4 : wr.cell? ⟨g, m.next * 7 + 4, none⟩ = some (.string (lnAt ls m).tx) := hcl 4 _ rfl
        have a5 : wr.cell? ⟨g, m.next * 7 + 5, none⟩ = some (.int .i64 ((lnAt ls m).n : Int)) := hcl 5 _ rfl
        have a6 : wr.cell? ⟨g, m.next * 7 + 6, none⟩ = some (.int .i64 ((lnAt ls m).m : Int)) := hcl 6 _ rfl
        generalize lnAt ls m = l at *
        obtain ⟨y, hy⟩ : ∃ y, m.next + 1 = y := ⟨_, rfl⟩
        rw [hy] at hlk b0 b1 b2 b3 b4 b5 b6 hdd2 HST
        have hy1 : (m.next : Int) + 1 = (y : Int) := by omega
        have hy2 : IntKind.i64.wrap (y : Int) = (y : Int) := by rw [IntKind.wrap_i64]; have := HLN.out; omega
        have hni : (m.next : Int) < (ls.length : Int) := by omega
        generalize m.next = nx at *
        clear hcl hla hmem hs o1 o2 o3 o4 hE hn hy k1 k2 k3 hMk hxk hB2 e1 e2 hmo hown2 hnf hdd r3 r4 r5 hu5 hsz hg
        unfold lnC at *
        go_wp2_with (first
          | (go_at_fn N; refine hdd2.mono ?_; rintro e w4 hd4; have H4 := HST.out hd4; obtain rfl := H4.out.1; clear hd4)
          | go_in)
        obtain ⟨m', L', n', H5⟩ := H4.out.2
        go_roundg k
        case measure => omega
        case rel => exact ⟨m', L', n', k, Nat.le_refl _, H5⟩
      · have HF := FIN.out (by unfold stp; rw [decide_eq_true (show ls.length ≤ m.next by omega)]; simp)
        have hni : ¬ (m.next : Int) < (ls.length : Int) := by omega
        generalize (m.next : Int) = nx at *
        clear hE hn
        go_wp2
        go_end0
        obtain ⟨m', L', n', hh⟩ := HF.out
        exact ⟨rfl, m', L', n', hh⟩
end Go.Proofs.YtapiedeekbfpnaaGreatDoor
