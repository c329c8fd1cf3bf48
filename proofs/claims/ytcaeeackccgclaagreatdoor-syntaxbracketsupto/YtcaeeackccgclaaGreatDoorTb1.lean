/- strings.Builder, in a block of its own. -/
import Derived.Test.YtcaeeackccgclaaGreatDoorChecked
import Derived.Below
import Derived.ProofKit
import Derived.Lib.Builder
import Derived.Lib.AppendStr
import Derived.Lib.UnsafeStr
import Derived.Lib.Strings
import Derived.Lib.Slices
import Derived.Lib.Walk
import Derived.Lib.OthersKept
import Derived.Laws.Externs
import Derived.WalkKit
import Derived.WalkSpells
import Derived.WalkLawsBesides
import Derived.Deep.RegionWith
import Derived.BigRegion
import Derived.WalkSmall
import Derived.Lib.SmallJoins
import Derived.Deep.QuietTactic
import Derived.BigQuiet
import Derived.Shelf.Strconv.AtoiAll
import Derived.Shelf.Small.Strs
import Derived.Lib.MinMax
import Derived.Deep.RegionHeld3
import Derived.Lib.AtoiAllCases
import Derived.Deep.AppendLies
import Derived.Deep.DrawnRows
namespace Go.Proofs.YtcaeeackccgclaaGreatDoor
open Go.RowKit

theorem szB : (Tryz.prog.info? 43).map (·.size) = some 2 := by kernel_rfl
theorem infB : (Tryz.prog.info? 5).map (fun i => (i.zero, i.size, i.bytes)) = some (some (.int .u8 0), 1, 1) := by kernel_rfl
theorem celB : Tryz.prog.cellsOf 5 = 1 := by kernel_rfl
theorem info_parts {i : Option TypeInfo} {z : Value} {s b : Nat} (h : i.map (fun i => (i.zero, i.size, i.bytes)) = some (some z, s, b)) : ∃ i0, i = some i0 ∧ i0.zero = some z ∧ i0.size = s ∧ i0.bytes = b := by
  cases i with
  | none => cases h
  | some i0 =>
    simp at h
    exact ⟨i0, rfl, h.1, h.2.1, h.2.2⟩
/-- What a write leaves: below B all is as it was; of the rest all but the builder's block b and rows of bytes. -/
def Kp (B b : Nat) (w w' : World) : Prop := Below B w w' ∧ Lib.OthersKept 5 (some b) w w'
theorem Kp.bel {B b : Nat} {w w' : World} (h : Kp B b w w') : Below B w w' := h.1
theorem Kp.size {B b : Nat} {w w' : World} (h : Kp B b w w') : w.heap.size ≤ w'.heap.size := h.1.size
theorem Kp.refl (B b : Nat) (w : World) : Kp B b w w := ⟨Below.refl _ _, Lib.OthersKept.refl _ _ _⟩
theorem Kp.trans {B b : Nat} {a c d : World} (h : Kp B b a c) (k : Kp B b c d) : Kp B b a d := ⟨h.1.trans k.1, h.2.trans k.2⟩
theorem own_kind {w : World} {B : Nat} {e : TypeId} {v : Value} {n : Nat} {xs : List Value} (h : w.ownsRow B e 1 v n xs) : ∀ g, v.ownBlock = some g → ∃ c fz, w.heap[g]? = some (.cells c e fz) := by
  intro g hg
  rcases h.2 with ⟨hv, _⟩ | ⟨g', cap, cur, hv, _, hh, _⟩
  · rw [hv] at hg; cases hg
  · rw [hv] at hg
    obtain rfl : g' = g := by simpa [Value.ownBlock] using hg
    exact ⟨_, _, hh⟩

set_option maxHeartbeats 1000000 in
set_option maxRecDepth 100000 in
theorem cc_used (b : Nat) (w : World) (h0 : w.cell? ⟨b, 0, none⟩ = some (.pointer (some ⟨b, 0, none⟩))) :
    Calls Tryz.prog 34 #[.pointer (some ⟨b, 0, none⟩)] w fun e w' => e = .returned (.tuple #[]) ∧ w' = w := by
  obtain ⟨j, hj, _⟩ := Option.map_eq_some_iff.1 szB
  go_enter Tryz.func34, Tryz.ntmps34
  go_wp2
  rw [Lib.run_neq_ptr_same w _ Tryz.underlying41 hj]
  go_wp2
  go_end0
  exact ⟨rfl, rfl⟩

theorem lieL : liesAt Tryz.prog Tryz.prog.depth 43 (2 / Tryz.prog.cellsOf 43) 0 43 1 = true := by kernel_rfl
abbrev BdAt (B b : Nat) (p : Value) (bs : List Value) (w : World) : Prop := Lib.BuilderAt 43 5 B b p bs w
abbrev BdIs (B b : Nat) (bs : List Value) (w : World) : Prop := Lib.IsBuilder 43 5 B b bs w

set_option maxHeartbeats 1000000 in
set_option maxRecDepth 100000 in
theorem ccL_fresh (b : Nat) (w : World) (h0 : w.cell? ⟨b, 0, none⟩ = some (.pointer none)) (hsh : w.shape? b = some (43, 2)) (hfz : w.frozen? ⟨b, 0, none⟩ = false) :
    Calls Tryz.prog 34 #[.pointer (some ⟨b, 0, none⟩)] w fun e w' => e = .returned (.tuple #[]) ∧ w' = w.setCell ⟨b, 0, none⟩ (.pointer (some ⟨b, 0, none⟩)) := by
  obtain ⟨j, hj, hjs⟩ := Option.map_eq_some_iff.1 szB
  go_enter Tryz.func34, Tryz.ntmps34
  go_wp2
  rw [Lib.run_to_unsafe w ⟨b, 0, none⟩ Tryz.underlying41 Tryz.underlying86 hj (by rw [hjs]; decide) hsh (Nat.zero_lt_succ 1)]
  simp only [Result.andThen]
  rw [Oper.upon_value]
  go_wp2
  rw [run_callFunc_extern Tryz.func50 (by kernel_rfl) (by kernel_rfl) (by kernel_rfl) (e := Extern.AbiNoEscape.same) (by kernel_rfl)]
  rw [Lib.run_noEscape]
  simp only [Result.andThen]
  rw [Oper.upon_value]
  go_wp2
  rw [Lib.run_from_unsafe w ⟨b, 0, none⟩ Tryz.underlying86 Tryz.underlying41 hj hsh lieL]
  simp only [Result.andThen]
  rw [Oper.upon_value]
  go_wp2
  go_end0
  exact ⟨rfl, rfl⟩

theorem ccL_any (B b : Nat) (bs : List Value) (w : World) (h : BdIs B b bs w) :
    Calls Tryz.prog 34 #[.pointer (some ⟨b, 0, none⟩)] w fun e w' => e = .returned (.tuple #[]) ∧ (BdAt B b (.pointer (some ⟨b, 0, none⟩)) bs w' ∧ Kp B b w w') := by
  rcases h with h | h
  · refine (ccL_fresh b w h.cell0 h.shape h.frozen0).mono ?_
    rintro e w' ⟨rfl, rfl⟩
    exact ⟨rfl, h.used _, (Below.refl B w).setCell (p := ⟨b, 0, none⟩) h.1 _, (Lib.OthersKept.refl _ _ _).setCell ⟨b, 0, none⟩ rfl _⟩
  · refine (cc_used b w h.cell0).mono ?_
    rintro e w' ⟨rfl, rfl⟩
    exact ⟨rfl, h, Kp.refl _ _ _⟩

set_option maxHeartbeats 1000000 in
set_option maxRecDepth 100000 in
theorem wbL_any (B b : Nat) (bs : List Value) (c : Int) (w : World) (h : BdIs B b bs w) (hlen : bs.length + 1 ≤ 140737488355328) (hBw : B ≤ w.heap.size) :
    Calls Tryz.prog 29 #[.pointer (some ⟨b, 0, none⟩), .int .u8 c] w fun e w' => e = .returned .nilIface ∧ (BdAt B b (.pointer (some ⟨b, 0, none⟩)) (bs ++ [.int .u8 c]) w' ∧ Kp B b w w') := by
  obtain ⟨i0, hi, hz0, hz1, hz2⟩ := info_parts infB
  go_enter Tryz.func29, Tryz.ntmps29
  go_wp2_with (go_at_call 34; refine (ccL_any B b bs _ h).mono ?_)
  rintro e w1 ⟨rfl, h1, hb1, hk1⟩
  obtain ⟨hB, v, hbk, hown, hne⟩ := h1
  have c0 : w1.cell? ⟨b, 0, none⟩ = some (.pointer (some ⟨b, 0, none⟩)) := by rw [Lib.cell_of_heap hbk]; rfl
  have c1 : w1.cell? ⟨b, 1, none⟩ = some v := by rw [Lib.cell_of_heap hbk]; rfl
  go_wp2_with (at_builtin; refine wpList_append_own _ rfl _ _ 34 rfl B 5 i0 (.int .u8 0) 1 1 Tryz.underlying34 hi hz0 hz1 hz2 rfl (by decide) _ _ _ rfl (hown.alloc _) ⟨w1.heap.size, 0, none⟩ 1 1 [.int .u8 c] rfl rfl ?c1 ?c2 ?c3 ?c4 ?c5 ?_)
  case c1 =>
    intro j u hj
    match j, hj with
    | 0, hj => simp at hj; subst hj; simp [Addr.add]
  case c2 => intro u hu; simp at hu; subst hu; rfl
  case c3 => unfold maxLen; omega
  case c4 => omega
  case c5 => have := hb1.size; simp; omega
  intro v' w2 hown' hgrow _
  have hlt : b < w1.heap.size := by
    rcases Nat.lt_or_ge b w1.heap.size with h' | h'
    · exact h'
    · simp [Array.getElem?_eq_none h'] at hbk
  have hb2 : w2.heap[b]? = some (.cells #[.pointer (some ⟨b, 0, none⟩), v] 43 (0, 0)) := by
    rw [hgrow.block b (by simp; omega) (fun e => hne e.symm), Lib.alloc_old w1 _ b hlt]
    exact hbk
  have d0 : w2.cell? ⟨b, 0, none⟩ = some (.pointer (some ⟨b, 0, none⟩)) := by rw [Lib.cell_of_heap hb2]; rfl
  have d1 : w2.cell? ⟨b, 1, none⟩ = some v := by rw [Lib.cell_of_heap hb2]; rfl
  have f1 : w2.frozen? ⟨b, 1, none⟩ = false := Lib.frozen_of_heap hb2 1
  obtain ⟨g, cap, rfl⟩ : ∃ g cap, v' = .slice (some ⟨g, 0, none⟩) (bs.length + 1) cap := by
    rcases hown'.2 with ⟨_, h0⟩ | ⟨g, cap, cur, hv, _⟩
    · omega
    · exact ⟨g, cap, hv⟩
  go_wp2
  go_ret
  refine ⟨rfl, ?_, ?_, ((hk1.alloc _).grown hgrow (own_kind (hown.alloc _))).setCell ⟨b, 1, none⟩ rfl _⟩
  · exact Lib.BuilderAt.put (T := 43) (e := 5) hB hb2 (bs' := bs ++ [.int .u8 c]) (by simpa using hown') (by decide)
  · exact ((hb1.alloc (by have := hb1.size; omega) _).grown hgrow (by have := hb1.size; simp; omega) (fun k hk => (hown.lt k hk).1)).setCell (p := ⟨b, 1, none⟩) hB _

set_option maxHeartbeats 2000000 in
set_option maxRecDepth 100000 in
theorem wsL_any (B b : Nat) (bs : List Value) (s : ByteArray) (w : World) (h : BdIs B b bs w) (hlen : bs.length + s.size ≤ 140737488355328) (hBw : B ≤ w.heap.size) :
    Calls Tryz.prog 23 #[.pointer (some ⟨b, 0, none⟩), .string s] w fun e w' => e = .returned (.tuple #[.int .i64 s.size, .nilIface]) ∧ (BdAt B b (.pointer (some ⟨b, 0, none⟩)) (bs ++ Lib.strCells s) w' ∧ Kp B b w w') := by
  obtain ⟨i0, hi, hz0, hz1, hz2⟩ := info_parts infB
  go_enter Tryz.func23, Tryz.ntmps23
  go_wp2_with (go_at_call 34; refine (ccL_any B b bs _ h).mono ?_)
  rintro e w1 ⟨rfl, h1, hb1, hk1⟩
  obtain ⟨hB, v, hbk, hown, hne⟩ := h1
  have c0 : w1.cell? ⟨b, 0, none⟩ = some (.pointer (some ⟨b, 0, none⟩)) := by rw [Lib.cell_of_heap hbk]; rfl
  have c1 : w1.cell? ⟨b, 1, none⟩ = some v := by rw [Lib.cell_of_heap hbk]; rfl
  go_wp2_with (at_builtin; refine Lib.wpList_append_own_string _ rfl _ _ 34 9 rfl B 5 i0 Tryz.underlying34 Tryz.underlying9 hi hz0 hz1 hz2 _ _ _ rfl hown s rfl ?c3 ?c4 ?c5 ?_)
  case c3 => unfold maxLen; omega
  case c4 => omega
  case c5 => have := hb1.size; omega
  intro v' w2 hown' hgrow _
  have hlt : b < w1.heap.size := by
    rcases Nat.lt_or_ge b w1.heap.size with h' | h'
    · exact h'
    · simp [Array.getElem?_eq_none h'] at hbk
  have hb2 : w2.heap[b]? = some (.cells #[.pointer (some ⟨b, 0, none⟩), v] 43 (0, 0)) := by
    rw [hgrow.block b hlt (fun e => hne e.symm)]
    exact hbk
  have d0 : w2.cell? ⟨b, 0, none⟩ = some (.pointer (some ⟨b, 0, none⟩)) := by rw [Lib.cell_of_heap hb2]; rfl
  have d1 : w2.cell? ⟨b, 1, none⟩ = some v := by rw [Lib.cell_of_heap hb2]; rfl
  have f1 : w2.frozen? ⟨b, 1, none⟩ = false := Lib.frozen_of_heap hb2 1
  obtain ⟨ao, n', cap, rfl⟩ : ∃ ao n' cap, v' = .slice ao n' cap := by
    rcases hown'.2 with ⟨hv, _⟩ | ⟨g, cap, cur, hv, _⟩
    · exact ⟨_, _, _, hv⟩
    · exact ⟨_, _, _, hv⟩
  go_wp2
  go_ret2
  refine ⟨rfl, ?_, ?_, (hk1.grown hgrow (own_kind hown)).setCell ⟨b, 1, none⟩ rfl _⟩
  · exact Lib.BuilderAt.put (T := 43) (e := 5) hB hb2 (bs' := bs ++ Lib.strCells s) (by simpa [Lib.strCells_length] using hown') (by decide)
  · exact (hb1.grown hgrow (by have := hb1.size; omega) (fun k hk => (hown.lt k hk).1)).setCell (p := ⟨b, 1, none⟩) hB _

set_option maxHeartbeats 2000000 in
set_option maxRecDepth 100000 in
theorem stL_any (B b : Nat) (l : List UInt8) (w : World) (h : BdIs B b (Lib.byteCells l) w) (h0 : l ≠ []) :
    Calls Tryz.prog 12 #[.pointer (some ⟨b, 0, none⟩)] w fun e w' => e = .returned (.string ⟨l.toArray⟩) ∧ Below B w w' := by
  obtain ⟨p, hB, v, hbk, hown, hne⟩ : ∃ p, BdAt B b p (Lib.byteCells l) w := by
    rcases h with h | h
    · exact ⟨_, h⟩
    · exact ⟨_, h⟩
  have hl0 : l.length ≠ 0 := by simpa using h0
  rw [Lib.byteCells_length] at hown
  obtain ⟨g, cap, cur, rfl, hbg, hg, hnc, hcm, hcs, htake⟩ : ∃ g cap cur, v = .slice (some ⟨g, 0, none⟩) l.length cap ∧ B ≤ g ∧ w.heap[g]? = some (.cells cur 5 (0, 0)) ∧ l.length ≤ cap ∧ cap ≤ maxLen ∧ cur.size = cap * 1 ∧ cur.toList.take (l.length * 1) = Lib.byteCells l := by
    rcases hown.2 with ⟨_, hz⟩ | ⟨g, cap, cur, hv, r⟩
    · exact absurd hz hl0
    · exact ⟨g, cap, cur, hv, r⟩
  have c1 : w.cell? ⟨b, 1, none⟩ = some (.slice (some ⟨g, 0, none⟩) l.length cap) := by rw [Lib.cell_of_heap hbk]; rfl
  have hSD : (Builtin.unsafeSliceData_ #[34] 56 #[.slice (some ⟨g, 0, none⟩) l.length cap]).run Tryz.prog w.drew = .ok (.pointer (some ⟨g, 0, none⟩)) w.drew :=
    Lib.run_unsafeSliceData_row _ _ _ _ _ _ (by omega)
  have hUS : (Builtin.unsafeString_ #[56, 3] 9 #[.pointer (some ⟨g, 0, none⟩), .int .i64 l.length]).run Tryz.prog w.drew = .ok (.string ⟨l.toArray⟩) (w.drew.freeze ⟨g, 0, none⟩ l.length) := by
    refine Lib.run_unsafeString_row w.drew 56 3 9 5 Tryz.underlying56 celB g cur.size (by have hg' : w.drew.heap[g]? = some (.cells cur 5 (0, 0)) := hg; simp [World.shape?, hg']) l h0 (by omega) (by unfold maxLen at hcm; omega) ?_
    intro j x hx
    have := hown.cells (g := g) rfl j (.int .u8 x.toNat) (by simp [Lib.byteCells, hx])
    exact this
  go_enter Tryz.func12, Tryz.ntmps12
  go_wp2
  go_region
  all_goals (go_wp2; go_ret; exact ⟨rfl, Lib.below_freeze (Below.drew (Below.refl B w)) (p := ⟨g, 0, none⟩) hbg _⟩)

set_option maxHeartbeats 2000000 in
set_option maxRecDepth 100000 in
theorem stL_zero (B b : Nat) (w : World) (h : BdIs B b [] w) (hBw : B ≤ w.heap.size) :
    Calls Tryz.prog 12 #[.pointer (some ⟨b, 0, none⟩)] w fun e w' => e = .returned (.string ⟨#[]⟩) ∧ Below B w w' := by
  obtain ⟨p, hB, v, hbk, hown, hne⟩ : ∃ p, BdAt B b p [] w := by
    rcases h with h | h
    · exact ⟨_, h⟩
    · exact ⟨_, h⟩
  have hown' : w.ownsRow B 5 1 v 0 [] := hown
  have c1 : w.cell? ⟨b, 1, none⟩ = some v := by rw [Lib.cell_of_heap hbk]; rfl
  rcases hown'.2 with ⟨rfl, _⟩ | ⟨g, cap, cur, rfl, hbg, hg, _, _, hcs, _⟩
  · have hSD : (Builtin.unsafeSliceData_ #[34] 56 #[.slice none 0 0]).run Tryz.prog w.drew = .ok (.pointer none) w.drew := Lib.run_unsafeSliceData_nil _ _ _ _ _
    have hUS : (Builtin.unsafeString_ #[56, 3] 9 #[.pointer none, .int .i64 0]).run Tryz.prog w.drew = .ok (.string ⟨#[]⟩) w.drew := Lib.run_unsafeString_none _ _ _ _ _
    clear hown hown' hbk hne
    go_enter Tryz.func12, Tryz.ntmps12
    go_wp2
    go_region
    all_goals (go_wp2; go_ret; exact ⟨rfl, (Below.refl B w).drew⟩)
  · by_cases hc0 : cap = 0
    · subst hc0
      have hsh : w.drew.shape? g = some (5, cur.size) := by
        have hg' : w.drew.heap[g]? = some (.cells cur 5 (0, 0)) := hg
        simp [World.shape?, hg']
      have hSD : (Builtin.unsafeSliceData_ #[34] 56 #[.slice (some ⟨g, 0, none⟩) 0 0]).run Tryz.prog w.drew = .ok (.pointer (some ⟨w.heap.size, 0, none⟩)) (w.drew.alloc (.view ⟨g, 0, none⟩ 5)) := Lib.run_unsafeSliceData_zero _ _ _ _ Tryz.underlying56 _ _ _ hsh
      have hUS : ∀ W : World, (Builtin.unsafeString_ #[56, 3] 9 #[.pointer (some ⟨w.heap.size, 0, none⟩), .int .i64 0]).run Tryz.prog W = .ok (.string ⟨#[]⟩) W := fun W => Lib.run_unsafeString_none _ _ _ _ _
      have hc1 : w.drew.cell? ⟨b, 1, none⟩ = some (.slice (some ⟨g, 0, none⟩) 0 0) := c1
      have hbl : b < w.heap.size := World.block_lt_of_cell? w ⟨b, 1, none⟩ c1
      have hc2 : (w.alloc (.view ⟨g, 0, none⟩ 5)).drew.cell? ⟨b, 1, none⟩ = some (.slice (some ⟨g, 0, none⟩) 0 0) := (World.cell?_alloc_lt w _ ⟨b, 1, none⟩ hbl).trans c1
      clear hown hown' hbk hne
      go_enter Tryz.func12, Tryz.ntmps12
      go_wp2
      go_region
      all_goals (go_wp2; go_ret; exact ⟨rfl, ((Below.refl B w).alloc hBw _).drew⟩)
    · have hSD : (Builtin.unsafeSliceData_ #[34] 56 #[.slice (some ⟨g, 0, none⟩) 0 cap]).run Tryz.prog w.drew = .ok (.pointer (some ⟨g, 0, none⟩)) w.drew := Lib.run_unsafeSliceData_row _ _ _ _ _ _ hc0
      have hUS : (Builtin.unsafeString_ #[56, 3] 9 #[.pointer (some ⟨g, 0, none⟩), .int .i64 0]).run Tryz.prog w.drew = .ok (.string ⟨#[]⟩) w.drew := Lib.run_unsafeString_none _ _ _ _ _
      clear hown hown' hbk hne
      go_enter Tryz.func12, Tryz.ntmps12
      go_wp2
      go_region
      all_goals (go_wp2; go_ret; exact ⟨rfl, (Below.refl B w).drew⟩)
end Go.Proofs.YtcaeeackccgclaaGreatDoor

/- The writer of sources: a strings.Builder within a struct. -/
namespace Go.Proofs.YtcaeeackccgclaaGreatDoor
open Go.RowKit

theorem lieW : liesAt Tryz.prog Tryz.prog.depth 45 (3 / Tryz.prog.cellsOf 45) 0 43 1 = true := by kernel_rfl
/-- A writer lies in block b: what it has of bytes, and in how many blocks one is. -/
def WrAt (B b : Nat) (n : Int) (p : Value) (bs : List Value) (w : World) : Prop := B ≤ b ∧ ∃ v, w.heap[b]? = some (.cells #[p, v, .int .i64 n] 45 (0, 0)) ∧ w.ownsRow B 5 1 v bs.length bs ∧ v.ownBlock ≠ some b
def WrIs (B b : Nat) (n : Int) (bs : List Value) (w : World) : Prop := WrAt B b n (.pointer none) bs w ∨ WrAt B b n (.pointer (some ⟨b, 0, none⟩)) bs w
theorem rowKeep {w w' : World} {B n sz : Nat} {e : TypeId} {v : Value} {xs : List Value} (h : w.ownsRow B e sz v n xs) (hk : ∀ g, v.ownBlock = some g → w'.heap[g]? = w.heap[g]?) : w'.ownsRow B e sz v n xs := by
  refine ⟨h.1, ?_⟩
  rcases h.2 with h2 | ⟨g, cap, cur, a, b, hg, r⟩
  · exact .inl h2
  · exact .inr ⟨g, cap, cur, a, b, (hk g (by rw [a]; rfl)).trans hg, r⟩
theorem wr_put {B b : Nat} {n : Int} {p v v' : Value} {bs' : List Value} {w : World} (hB : B ≤ b) (hb : w.heap[b]? = some (.cells #[p, v, .int .i64 n] 45 (0, 0))) (hown : w.ownsRow B 5 1 v' bs'.length bs') : WrAt B b n p bs' (w.setCell ⟨b, 1, none⟩ v') := by
  have hne : v'.ownBlock ≠ some b := fun e => by
    obtain ⟨c, fz, hc⟩ := own_kind hown b e
    rw [hb] at hc
    injection hc with hc
    injection hc with _ hc
    exact absurd hc (by decide)
  refine ⟨hB, v', by simp [World.setCell, Array.getElem?_modify, hb], rowKeep hown fun g hg => ?_, hne⟩
  exact Below.heap_setCell w ⟨b, 1, none⟩ v' g (fun e => hne (by rw [hg]; first | rw [e] | rw [← e]))
theorem WrAt.used {B b : Nat} {n : Int} {p : Value} {bs : List Value} {w : World} (h : WrAt B b n p bs w) : WrAt B b n (.pointer (some ⟨b, 0, none⟩)) bs (w.setCell ⟨b, 0, none⟩ (.pointer (some ⟨b, 0, none⟩))) := by
  obtain ⟨hB, v, hb, hown, hne⟩ := h
  refine ⟨hB, v, by simp [World.setCell, Array.getElem?_modify, hb], rowKeep hown fun g hg => ?_, hne⟩
  exact Below.heap_setCell w ⟨b, 0, none⟩ _ g (fun e => hne (by rw [hg]; first | rw [e] | rw [← e]))

set_option maxHeartbeats 1000000 in
set_option maxRecDepth 100000 in
theorem ccW_fresh (b : Nat) (w : World) (h0 : w.cell? ⟨b, 0, none⟩ = some (.pointer none)) (hsh : w.shape? b = some (45, 3)) (hfz : w.frozen? ⟨b, 0, none⟩ = false) :
    Calls Tryz.prog 34 #[.pointer (some ⟨b, 0, none⟩)] w fun e w' => e = .returned (.tuple #[]) ∧ w' = w.setCell ⟨b, 0, none⟩ (.pointer (some ⟨b, 0, none⟩)) := by
  obtain ⟨j, hj, hjs⟩ := Option.map_eq_some_iff.1 szB
  go_enter Tryz.func34, Tryz.ntmps34
  go_wp2
  rw [Lib.run_to_unsafe w ⟨b, 0, none⟩ Tryz.underlying41 Tryz.underlying86 hj (by rw [hjs]; decide) hsh (Nat.zero_lt_succ 2)]
  simp only [Result.andThen]
  rw [Oper.upon_value]
  go_wp2
  rw [run_callFunc_extern Tryz.func50 (by kernel_rfl) (by kernel_rfl) (by kernel_rfl) (e := Extern.AbiNoEscape.same) (by kernel_rfl)]
  rw [Lib.run_noEscape]
  simp only [Result.andThen]
  rw [Oper.upon_value]
  go_wp2
  rw [Lib.run_from_unsafe w ⟨b, 0, none⟩ Tryz.underlying86 Tryz.underlying41 hj hsh lieW]
  simp only [Result.andThen]
  rw [Oper.upon_value]
  go_wp2
  go_end0
  exact ⟨rfl, rfl⟩

theorem ccW_any (B b : Nat) (n : Int) (bs : List Value) (w : World) (h : WrIs B b n bs w) :
    Calls Tryz.prog 34 #[.pointer (some ⟨b, 0, none⟩)] w fun e w' => e = .returned (.tuple #[]) ∧ (WrAt B b n (.pointer (some ⟨b, 0, none⟩)) bs w' ∧ Kp B b w w') := by
  rcases h with h | h
  · obtain ⟨hB, v, hb, _, _⟩ := id h
    refine (ccW_fresh b w (by rw [Lib.cell_of_heap hb]; rfl) (by simp [World.shape?, hb]) (Lib.frozen_of_heap hb 0)).mono ?_
    rintro e w' ⟨rfl, rfl⟩
    exact ⟨rfl, h.used, (Below.refl B w).setCell (p := ⟨b, 0, none⟩) h.1 _, (Lib.OthersKept.refl _ _ _).setCell ⟨b, 0, none⟩ rfl _⟩
  · obtain ⟨hB, v, hb, _, _⟩ := id h
    refine (cc_used b w (by rw [Lib.cell_of_heap hb]; rfl)).mono ?_
    rintro e w' ⟨rfl, rfl⟩
    exact ⟨rfl, h, Kp.refl _ _ _⟩

set_option maxHeartbeats 1000000 in
set_option maxRecDepth 100000 in
theorem wbW_any (B b : Nat) (n : Int) (bs : List Value) (c : Int) (w : World) (h : WrIs B b n bs w) (hlen : bs.length + 1 ≤ 140737488355328) (hBw : B ≤ w.heap.size) :
    Calls Tryz.prog 29 #[.pointer (some ⟨b, 0, none⟩), .int .u8 c] w fun e w' => e = .returned .nilIface ∧ (WrAt B b n (.pointer (some ⟨b, 0, none⟩)) (bs ++ [.int .u8 c]) w' ∧ Kp B b w w') := by
  obtain ⟨i0, hi, hz0, hz1, hz2⟩ := info_parts infB
  go_enter Tryz.func29, Tryz.ntmps29
  go_wp2_with (go_at_call 34; refine (ccW_any B b n bs _ h).mono ?_)
  rintro e w1 ⟨rfl, h1, hb1, hk1⟩
  obtain ⟨hB, v, hbk, hown, hne⟩ := h1
  have c0 : w1.cell? ⟨b, 0, none⟩ = some (.pointer (some ⟨b, 0, none⟩)) := by rw [Lib.cell_of_heap hbk]; rfl
  have c1 : w1.cell? ⟨b, 1, none⟩ = some v := by rw [Lib.cell_of_heap hbk]; rfl
  go_wp2_with (at_builtin; refine wpList_append_own _ rfl _ _ 34 rfl B 5 i0 (.int .u8 0) 1 1 Tryz.underlying34 hi hz0 hz1 hz2 rfl (by decide) _ _ _ rfl (hown.alloc _) ⟨w1.heap.size, 0, none⟩ 1 1 [.int .u8 c] rfl rfl ?c1 ?c2 ?c3 ?c4 ?c5 ?_)
  case c1 =>
    intro j u hj
    match j, hj with
    | 0, hj => simp at hj; subst hj; simp [Addr.add]
  case c2 => intro u hu; simp at hu; subst hu; rfl
  case c3 => unfold maxLen; omega
  case c4 => omega
  case c5 => have := hb1.size; simp; omega
  intro v' w2 hown' hgrow _
  have hlt : b < w1.heap.size := by
    rcases Nat.lt_or_ge b w1.heap.size with h' | h'
    · exact h'
    · simp [Array.getElem?_eq_none h'] at hbk
  have hb2 : w2.heap[b]? = some (.cells #[.pointer (some ⟨b, 0, none⟩), v, .int .i64 n] 45 (0, 0)) := by
    rw [hgrow.block b (by simp; omega) (fun e => hne e.symm), Lib.alloc_old w1 _ b hlt]
    exact hbk
  have d0 : w2.cell? ⟨b, 0, none⟩ = some (.pointer (some ⟨b, 0, none⟩)) := by rw [Lib.cell_of_heap hb2]; rfl
  have d1 : w2.cell? ⟨b, 1, none⟩ = some v := by rw [Lib.cell_of_heap hb2]; rfl
  have f1 : w2.frozen? ⟨b, 1, none⟩ = false := Lib.frozen_of_heap hb2 1
  obtain ⟨g, cap, rfl⟩ : ∃ g cap, v' = .slice (some ⟨g, 0, none⟩) (bs.length + 1) cap := by
    rcases hown'.2 with ⟨_, h0⟩ | ⟨g, cap, cur, hv, _⟩
    · omega
    · exact ⟨g, cap, hv⟩
  go_wp2
  go_ret
  refine ⟨rfl, ?_, ?_, ((hk1.alloc _).grown hgrow (own_kind (hown.alloc _))).setCell ⟨b, 1, none⟩ rfl _⟩
  · exact wr_put hB hb2 (bs' := bs ++ [.int .u8 c]) (by simpa using hown')
  · exact ((hb1.alloc (by have := hb1.size; omega) _).grown hgrow (by have := hb1.size; simp; omega) (fun k hk => (hown.lt k hk).1)).setCell (p := ⟨b, 1, none⟩) hB _

set_option maxHeartbeats 2000000 in
set_option maxRecDepth 100000 in
theorem wsW_any (B b : Nat) (n : Int) (bs : List Value) (s : ByteArray) (w : World) (h : WrIs B b n bs w) (hlen : bs.length + s.size ≤ 140737488355328) (hBw : B ≤ w.heap.size) :
    Calls Tryz.prog 23 #[.pointer (some ⟨b, 0, none⟩), .string s] w fun e w' => e = .returned (.tuple #[.int .i64 s.size, .nilIface]) ∧ (WrAt B b n (.pointer (some ⟨b, 0, none⟩)) (bs ++ Lib.strCells s) w' ∧ Kp B b w w') := by
  obtain ⟨i0, hi, hz0, hz1, hz2⟩ := info_parts infB
  go_enter Tryz.func23, Tryz.ntmps23
  go_wp2_with (go_at_call 34; refine (ccW_any B b n bs _ h).mono ?_)
  rintro e w1 ⟨rfl, h1, hb1, hk1⟩
  obtain ⟨hB, v, hbk, hown, hne⟩ := h1
  have c0 : w1.cell? ⟨b, 0, none⟩ = some (.pointer (some ⟨b, 0, none⟩)) := by rw [Lib.cell_of_heap hbk]; rfl
  have c1 : w1.cell? ⟨b, 1, none⟩ = some v := by rw [Lib.cell_of_heap hbk]; rfl
  go_wp2_with (at_builtin; refine Lib.wpList_append_own_string _ rfl _ _ 34 9 rfl B 5 i0 Tryz.underlying34 Tryz.underlying9 hi hz0 hz1 hz2 _ _ _ rfl hown s rfl ?c3 ?c4 ?c5 ?_)
  case c3 => unfold maxLen; omega
  case c4 => omega
  case c5 => have := hb1.size; omega
  intro v' w2 hown' hgrow _
  have hlt : b < w1.heap.size := by
    rcases Nat.lt_or_ge b w1.heap.size with h' | h'
    · exact h'
    · simp [Array.getElem?_eq_none h'] at hbk
  have hb2 : w2.heap[b]? = some (.cells #[.pointer (some ⟨b, 0, none⟩), v, .int .i64 n] 45 (0, 0)) := by
    rw [hgrow.block b hlt (fun e => hne e.symm)]
    exact hbk
  have d0 : w2.cell? ⟨b, 0, none⟩ = some (.pointer (some ⟨b, 0, none⟩)) := by rw [Lib.cell_of_heap hb2]; rfl
  have d1 : w2.cell? ⟨b, 1, none⟩ = some v := by rw [Lib.cell_of_heap hb2]; rfl
  have f1 : w2.frozen? ⟨b, 1, none⟩ = false := Lib.frozen_of_heap hb2 1
  obtain ⟨ao, n', cap, rfl⟩ : ∃ ao n' cap, v' = .slice ao n' cap := by
    rcases hown'.2 with ⟨hv, _⟩ | ⟨g, cap, cur, hv, _⟩
    · exact ⟨_, _, _, hv⟩
    · exact ⟨_, _, _, hv⟩
  go_wp2
  go_ret2
  refine ⟨rfl, ?_, ?_, (hk1.grown hgrow (own_kind hown)).setCell ⟨b, 1, none⟩ rfl _⟩
  · exact wr_put hB hb2 (bs' := bs ++ Lib.strCells s) (by simpa [Lib.strCells_length] using hown')
  · exact (hb1.grown hgrow (by have := hb1.size; omega) (fun k hk => (hown.lt k hk).1)).setCell (p := ⟨b, 1, none⟩) hB _

set_option maxHeartbeats 2000000 in
set_option maxRecDepth 100000 in
theorem stW_any (B b : Nat) (n : Int) (l : List UInt8) (w : World) (h : WrIs B b n (Lib.byteCells l) w) (h0 : l ≠ []) :
    Calls Tryz.prog 12 #[.pointer (some ⟨b, 0, none⟩)] w fun e w' => e = .returned (.string ⟨l.toArray⟩) ∧ Below B w w' := by
  obtain ⟨p, hB, v, hbk, hown, hne⟩ : ∃ p, WrAt B b n p (Lib.byteCells l) w := by
    rcases h with h | h
    · exact ⟨_, h⟩
    · exact ⟨_, h⟩
  have hl0 : l.length ≠ 0 := by simpa using h0
  rw [Lib.byteCells_length] at hown
  obtain ⟨g, cap, cur, rfl, hbg, hg, hnc, hcm, hcs, htake⟩ : ∃ g cap cur, v = .slice (some ⟨g, 0, none⟩) l.length cap ∧ B ≤ g ∧ w.heap[g]? = some (.cells cur 5 (0, 0)) ∧ l.length ≤ cap ∧ cap ≤ maxLen ∧ cur.size = cap * 1 ∧ cur.toList.take (l.length * 1) = Lib.byteCells l := by
    rcases hown.2 with ⟨_, hz⟩ | ⟨g, cap, cur, hv, r⟩
    · exact absurd hz hl0
    · exact ⟨g, cap, cur, hv, r⟩
  have c1 : w.cell? ⟨b, 1, none⟩ = some (.slice (some ⟨g, 0, none⟩) l.length cap) := by rw [Lib.cell_of_heap hbk]; rfl
  have hSD : (Builtin.unsafeSliceData_ #[34] 56 #[.slice (some ⟨g, 0, none⟩) l.length cap]).run Tryz.prog w.drew = .ok (.pointer (some ⟨g, 0, none⟩)) w.drew :=
    Lib.run_unsafeSliceData_row _ _ _ _ _ _ (by omega)
  have hUS : (Builtin.unsafeString_ #[56, 3] 9 #[.pointer (some ⟨g, 0, none⟩), .int .i64 l.length]).run Tryz.prog w.drew = .ok (.string ⟨l.toArray⟩) (w.drew.freeze ⟨g, 0, none⟩ l.length) := by
    refine Lib.run_unsafeString_row w.drew 56 3 9 5 Tryz.underlying56 celB g cur.size (by have hg' : w.drew.heap[g]? = some (.cells cur 5 (0, 0)) := hg; simp [World.shape?, hg']) l h0 (by omega) (by unfold maxLen at hcm; omega) ?_
    intro j x hx
    have := hown.cells (g := g) rfl j (.int .u8 x.toNat) (by simp [Lib.byteCells, hx])
    exact this
  go_enter Tryz.func12, Tryz.ntmps12
  go_wp2
  go_region
  all_goals (go_wp2; go_ret; exact ⟨rfl, Lib.below_freeze (Below.drew (Below.refl B w)) (p := ⟨g, 0, none⟩) hbg _⟩)
end Go.Proofs.YtcaeeackccgclaaGreatDoor

/- A text between quotes, as the writer writes it. -/
namespace Go.Proofs.YtcaeeackccgclaaGreatDoor
open Go.RowKit Go.Joins
/-- How a byte is written. -/
def qt1 (c : UInt8) : List UInt8 := if c.toNat = 10 then [92, 110] else if c.toNat = 9 then [92, 116] else if c.toNat = 92 ∨ c.toNat = 34 then [92, c] else [c]
def qtL (l : List UInt8) : List UInt8 := 34 :: (l.flatMap qt1 ++ [34])
theorem qt1_len (c : UInt8) : (qt1 c).length ≤ 2 := by
  unfold qt1
  split
  · decide
  · split
    · decide
    · split <;> simp
theorem qt_len (l : List UInt8) : (l.flatMap qt1).length ≤ 2 * l.length := by
  induction l with
  | nil => simp
  | cons c l ih =>
    have := qt1_len c
    simp only [List.flatMap_cons, List.length_append, List.length_cons]
    omega
theorem qt_take {s : ByteArray} {k : Nat} (hk : k < s.size) : (s.data.toList.take (k + 1)).flatMap qt1 = (s.data.toList.take k).flatMap qt1 ++ qt1 s[k] := by
  have hl : k < s.data.toList.length := by simpa using hk
  rw [List.take_succ_eq_append_getElem hl, List.flatMap_append]
  congr 1
  simp
  rfl
theorem WrIs.drew {B b : Nat} {n : Int} {bs : List Value} {w : World} (h : WrIs B b n bs w) : WrIs B b n bs w.drew := h
theorem Kp.drew {B b : Nat} {w w' : World} (h : Kp B b w w') : Kp B b w w'.drew := ⟨h.1.drew, h.2⟩

set_option maxHeartbeats 4000000 in
set_option maxRecDepth 100000 in
theorem wtext_any (B b : Nat) (n : Int) (l0 : List UInt8) (s : ByteArray) (w : World) (h : WrIs B b n (Lib.byteCells l0) w) (hlen : l0.length + 2 * s.size + 2 ≤ 140737488355328) (hBw : B ≤ w.heap.size) :
    Calls Tryz.prog 56 #[.pointer (some ⟨b, 0, none⟩), .string s] w fun e w' => e = .returned (.tuple #[]) ∧ Hid (WrIs B b n (Lib.byteCells (l0 ++ qtL s.data.toList)) w' ∧ Kp B b w w') := by
  have HWb : Hid (∀ (l : List UInt8) (c : UInt8) (W : World), WrIs B b n (Lib.byteCells l) W → l.length + 1 ≤ 140737488355328 → Kp B b w W → Calls Tryz.prog 29 #[.pointer (some ⟨b, 0, none⟩), .int .u8 (c.toNat : Int)] W fun e w' => e = .returned .nilIface ∧ Hid (WrIs B b n (Lib.byteCells (l ++ [c])) w' ∧ Kp B b w w')) := fun l c W h1 h2 h3 =>
    (wbW_any B b n _ c.toNat W h1 (by rw [Lib.byteCells_length]; exact h2) (Nat.le_trans hBw h3.size)).mono fun e w' ⟨q1, q2, q3⟩ => ⟨q1, .inr (by
      have e : Lib.byteCells (l ++ [c]) = Lib.byteCells l ++ [.int .u8 (c.toNat : Int)] := by simp [Lib.byteCells]
      rw [e]
      exact q2), h3.trans q3⟩
  have HWs : Hid (∀ (l : List UInt8) (t : List UInt8) (W : World), WrIs B b n (Lib.byteCells l) W → l.length + t.length ≤ 140737488355328 → Kp B b w W → Calls Tryz.prog 23 #[.pointer (some ⟨b, 0, none⟩), .string ⟨t.toArray⟩] W fun e w' => ∃ m, e = .returned (.tuple #[.int .i64 m, .nilIface]) ∧ Hid (WrIs B b n (Lib.byteCells (l ++ t)) w' ∧ Kp B b w w')) := fun l t W h1 h2 h3 =>
    (wsW_any B b n _ ⟨t.toArray⟩ W h1 (by rw [Lib.byteCells_length]; exact h2) (Nat.le_trans hBw h3.size)).mono fun e w' ⟨q1, q2, q3⟩ => ⟨_, q1, .inr (by
      have e : Lib.byteCells (l ++ t) = Lib.byteCells l ++ Lib.strCells ⟨t.toArray⟩ := by simp [Lib.byteCells, Lib.strCells]
      rw [e]
      exact q2), h3.trans q3⟩
  have H0 := HWb.out l0 34 w h (by omega) (Kp.refl _ _ _)
  have hsz : (s.size : Int) ≤ 140737488355328 := by omega
  have HQ : Hid (∀ k, ((s.data.toList.take k).flatMap qt1).length ≤ 2 * k) := fun k => by
    have h1 := qt_len (s.data.toList.take k)
    have h2 : (s.data.toList.take k).length ≤ k := by simp; omega
    omega
  clear h
  go_enter Tryz.func56, Tryz.ntmps56
  go_wp2_with fail
  refine H0.mono ?_
  rintro e w1 ⟨rfl, G1⟩
  have HI : Hid (WrIs B b n (Lib.byteCells (l0 ++ 34 :: (s.data.toList.take 0).flatMap qt1)) w1 ∧ Kp B b w w1) := G1
  clear H0 G1
  go_wp2
  go_loopw [11] (fun i wr => ∃ k : Nat, k ≤ s.size ∧ i = .int .i64 (k : Int) ∧ Hid (WrIs B b n (Lib.byteCells (l0 ++ 34 :: (s.data.toList.take k).flatMap qt1)) wr ∧ Kp B b w wr)) (fun i _ => s.size - (intOf i).toNat)
  case atStart => exact ⟨0, Nat.zero_le _, rfl, HI⟩
  case round =>
    clear HI
    obtain ⟨k, hk, rfl, HI⟩ := hrel
    have hq := HQ.out k
    by_cases hlt : k < s.size
    · have hki : (k : Int) < (s.size : Int) := by omega
      have hst := qt_take hlt
      have hgo : ∀ wr2, WrIs B b n (Lib.byteCells (l0 ++ 34 :: (s.data.toList.take k).flatMap qt1 ++ qt1 s[k])) wr2 → WrIs B b n (Lib.byteCells (l0 ++ 34 :: (s.data.toList.take (k + 1)).flatMap qt1)) wr2 := fun wr2 h2 => by
        rw [hst]
        simpa using h2
      have HGo : Hid (∀ wr2, WrIs B b n (Lib.byteCells (l0 ++ 34 :: (s.data.toList.take k).flatMap qt1 ++ qt1 s[k])) wr2 → WrIs B b n (Lib.byteCells (l0 ++ 34 :: (s.data.toList.take (k + 1)).flatMap qt1)) wr2) := hgo
      have hlq : (l0 ++ 34 :: (s.data.toList.take k).flatMap qt1).length + 2 ≤ 140737488355328 := by simp only [List.length_append, List.length_cons]; omega
      clear hgo hst hq
      generalize l0 ++ 34 :: (s.data.toList.take k).flatMap qt1 = l1 at *
      have hc8 : s[k].toNat < 256 := s[k].toNat_lt
      by_cases h10 : s[k].toNat = 10
      · have h10i : (s[k].toNat : Int) = 10 := by omega
        have H1 := HWs.out l1 [92, 110] wr HI.out.1 (by simpa using hlq) HI.out.2
        have eq : qt1 s[k] = [92, 110] := by unfold qt1; rw [if_pos h10]
        rw [eq] at HGo
        clear HI h10 eq
        go_wp2_with fail
        refine H1.mono ?_
        rintro e w2 ⟨m, rfl, G2⟩
        have HE : Hid _ := And.intro (HGo.out w2 G2.out.1) G2.out.2
        clear H1 G2 HGo
        go_wp2
        exact ⟨⟨k + 1, by omega, by go_num, HE⟩, by simp [intOf]; omega⟩
      · have h10i : ¬ (s[k].toNat : Int) = 10 := by omega
        by_cases h9 : s[k].toNat = 9
        · have h9i : (s[k].toNat : Int) = 9 := by omega
          have H1 := HWs.out l1 [92, 116] wr HI.out.1 (by simpa using hlq) HI.out.2
          have eq : qt1 s[k] = [92, 116] := by unfold qt1; rw [if_neg h10, if_pos h9]
          rw [eq] at HGo
          clear HI h10 h9 eq
          go_wp2_with fail
          refine H1.mono ?_
          rintro e w2 ⟨m, rfl, G2⟩
          have HE : Hid _ := And.intro (HGo.out w2 G2.out.1) G2.out.2
          clear H1 G2 HGo
          go_wp2
          exact ⟨⟨k + 1, by omega, by go_num, HE⟩, by simp [intOf]; omega⟩
        · have h9i : ¬ (s[k].toNat : Int) = 9 := by omega
          by_cases h92 : s[k].toNat = 92 ∨ s[k].toNat = 34
          · have H1 := HWb.out l1 92 wr HI.out.1 (by omega) HI.out.2
            have eq : qt1 s[k] = [92, s[k]] := by unfold qt1; rw [if_neg h10, if_neg h9, if_pos h92]
            rw [eq] at HGo
            have HZ : Hid (∀ w2, WrIs B b n (Lib.byteCells (l1 ++ [92])) w2 ∧ Kp B b w w2 → Calls Tryz.prog 29 #[.pointer (some ⟨b, 0, none⟩), .int .u8 (s[k].toNat : Int)] w2.drew fun e w' => e = .returned .nilIface ∧ Hid (WrIs B b n (Lib.byteCells (l0 ++ 34 :: (s.data.toList.take (k + 1)).flatMap qt1)) w' ∧ Kp B b w w')) := fun w2 hw2 => (HWb.out (l1 ++ [92]) s[k] w2.drew hw2.1.drew (by simp; omega) hw2.2.drew).mono fun e w' ⟨q1, q2⟩ => ⟨q1, HGo.out w' (by simpa using q2.out.1), q2.out.2⟩
            clear HI h10 h9 eq HGo
            by_cases h92i : (s[k].toNat : Int) = 92
            · clear h92
              go_wp2_with fail
              refine H1.mono ?_
              rintro e w2 ⟨rfl, G2⟩
              have H2 := HZ.out w2 G2.out
              rw [h92i] at H2
              clear H1 G2 HZ
              go_wp2
              go_region_with (go_at_call 29; refine H2.mono ?_; rintro e w3 ⟨rfl, G3⟩)
              all_goals
                go_wp2
                exact ⟨⟨k + 1, by omega, by go_num, G3⟩, by simp [intOf]; omega⟩
            · have h34i : (s[k].toNat : Int) = 34 := by omega
              clear h92
              go_wp2_with fail
              refine H1.mono ?_
              rintro e w2 ⟨rfl, G2⟩
              have H2 := HZ.out w2 G2.out
              rw [h34i] at H2
              clear H1 G2 HZ
              go_wp2
              go_region_with (go_at_call 29; refine H2.mono ?_; rintro e w3 ⟨rfl, G3⟩)
              all_goals
                go_wp2
                exact ⟨⟨k + 1, by omega, by go_num, G3⟩, by simp [intOf]; omega⟩
          · have h92i : ¬ (s[k].toNat : Int) = 92 := by omega
            have h34i : ¬ (s[k].toNat : Int) = 34 := by omega
            have eq : qt1 s[k] = [s[k]] := by unfold qt1; rw [if_neg h10, if_neg h9, if_neg h92]
            rw [eq] at HGo
            have H2 := (HWb.out l1 s[k] wr.drew HI.out.1.drew (by omega) HI.out.2.drew).mono (R' := fun e w' => e = .returned .nilIface ∧ Hid (WrIs B b n (Lib.byteCells (l0 ++ 34 :: (s.data.toList.take (k + 1)).flatMap qt1)) w' ∧ Kp B b w w')) fun e w' ⟨q1, q2⟩ => ⟨q1, HGo.out w' q2.out.1, q2.out.2⟩
            clear HI h10 h9 h92 eq HGo
            go_wp2
            go_region_with (go_at_call 29; refine H2.mono ?_; rintro e w3 ⟨rfl, G3⟩)
            all_goals
              go_wp2
              exact ⟨⟨k + 1, by omega, by go_num, G3⟩, by simp [intOf]; omega⟩
    · obtain rfl : k = s.size := by omega
      have hki : ¬ (s.size : Int) < (s.size : Int) := by omega
      have H1 := HWb.out _ 34 wr HI.out.1 (by simp only [List.length_append, List.length_cons]; omega) HI.out.2
      have e : l0 ++ 34 :: (s.data.toList.take s.size).flatMap qt1 ++ [34] = l0 ++ qtL s.data.toList := by
        have : s.data.toList.take s.size = s.data.toList := List.take_of_length_le (by simp)
        rw [this]
        simp [qtL]
      rw [e] at H1
      clear HI hq e
      go_wp2_with fail
      refine H1.mono ?_
      rintro e w2 ⟨rfl, G2⟩
      clear H1
      go_wp2
      go_end0
      exact ⟨rfl, G2⟩
end Go.Proofs.YtcaeeackccgclaaGreatDoor

/- How a source is split, plain: bytes from the left. -/
namespace Go.Proofs.YtcaeeackccgclaaGreatDoor

def isDg (c : UInt8) : Bool := decide (48 ≤ c.toNat) && decide (c.toNat ≤ 57)
def isLt (c : UInt8) : Bool := (decide (97 ≤ c.toNat) && decide (c.toNat ≤ 122)) || (decide (65 ≤ c.toNat) && decide (c.toNat ≤ 90)) || decide (c.toNat = 95)
def isOpn (c : UInt8) : Bool := decide (c.toNat = 40) || decide (c.toNat = 91) || decide (c.toNat = 123)
def isCls (c : UInt8) : Bool := decide (c.toNat = 41) || decide (c.toNat = 93) || decide (c.toNat = 125)
def isSg1 (c : UInt8) : Bool := [61, 60, 43, 45, 42, 37, 40, 41, 91, 93, 123, 125, 44, 58].contains c.toNat
def isNm (c : UInt8) : Bool := isLt c || isDg c
def isPl (c : UInt8) : Bool := decide (32 ≤ c.toNat) && decide (c.toNat ≠ 34) && decide (c.toNat ≠ 92)
def isNl (c : UInt8) : Bool := decide (c.toNat ≠ 10)
def isBl (o : Nat) (c : UInt8) : Bool := decide (c.toNat = 32) || (decide (c.toNat = 10) && decide (0 < o))
/-- How far it holds. -/
def rch (h : UInt8 → Bool) : List UInt8 → Nat
  | [] => 0
  | c :: r => bif h c then rch h r + 1 else 0
theorem rch_le (h : UInt8 → Bool) : ∀ r : List UInt8, rch h r ≤ r.length
  | [] => Nat.le_refl _
  | c :: r => by
    unfold rch
    cases h c
    · simp
    · simp; exact rch_le h r
def two2 (r : List UInt8) : Bool := [[61, 61], [33, 61], [60, 61], [47, 47]].contains ((r.take 2).map (·.toNat))
def sgn (r : List UInt8) : Nat := bif two2 r then 2 else bif isSg1 (r.getD 0 0) then 1 else 0
def beg (r : List UInt8) : Bool := isLt (r.getD 0 0) || isDg (r.getD 0 0) || decide ((r.getD 0 0).toNat = 34) || decide (0 < sgn r)
def valD (n : Nat) : List UInt8 → Nat
  | [] => n
  | c :: r => valD (10 * n + (c.toNat - 48)) r
def noInt (r : List UInt8) : Bool := decide (9007199254740991 < valD 0 (r.take (rch isDg r))) || (decide (1 < rch isDg r) && decide ((r.getD 0 0).toNat = 48))
/-- Blanks, and what is left out. -/
def skp (o : Nat) : Nat → List UInt8 → Nat
  | 0, r => rch (isBl o) r
  | f + 1, r => bif decide (((r.drop (rch (isBl o) r)).getD 0 0).toNat = 35) then
      rch (isBl o) r + rch isNl (r.drop (rch (isBl o) r)) + skp o f (r.drop (rch (isBl o) r + rch isNl (r.drop (rch (isBl o) r))))
    else rch (isBl o) r

structure Tk where
  kind : Nat
  text : List UInt8
  num : Nat
  pos : Nat
structure Sp where
  pos : Nat
  toks : List Tk
  ins : List Nat
  opn : Nat
/-- A fault: what, and where. -/
abbrev Ft := Nat × Nat

def Sp.top (p : Sp) : Nat := p.ins.getD 0 0
def Sp.add (p : Sp) (k : Nat) : Sp := { p with toks := p.toks ++ [⟨k, [], 0, p.pos⟩] }
/-- Out to there. -/
def outF (i : Nat) : Nat → Sp → Sp
  | 0, p => p
  | f + 1, p => if i < p.top then outF i f ({ p with ins := p.ins.drop 1 }.add 8) else p
def Sp.come (p : Sp) (i : Nat) : Sp :=
  let q := if p.top < i then ({ p with ins := i :: p.ins } : Sp).add 7 else p
  outF i q.ins.length q
/-- What may not stand here. -/
def refu (L : List UInt8) (p : Sp) (i : Nat) : Nat :=
  let r := L.drop p.pos
  let c := r.getD 0 0
  if beg r = false ∨ (isCls c = true ∧ p.opn = 0) then 1
  else if i < p.top ∧ i ∉ p.ins then 4
  else if isDg c = true ∧ noInt r = true then 3
  else if (isOpn c = true ∧ p.opn = 30) ∨ (p.top < i ∧ 30 < p.ins.length) then 2
  else 0
/-- A text behind its first quote: what it says and how far it goes, or where it is wrong. -/
def txt : Nat → List UInt8 → List UInt8 → Nat → Except Nat (List UInt8 × Nat)
  | 0, _, _, at_ => .error at_
  | f + 1, r, said, at_ =>
    let c := (r.getD 0 0).toNat
    if r = [] then .error at_
    else if c = 34 then .ok (said, at_ + 1)
    else if c = 92 then
      let d := ((r.drop 1).getD 0 0).toNat
      if r.drop 1 = [] then .error (at_ + 1)
      else if d = 110 then txt f (r.drop 2) (said ++ [10]) (at_ + 2)
      else if d = 116 then txt f (r.drop 2) (said ++ [9]) (at_ + 2)
      else if d = 92 ∨ d = 34 then txt f (r.drop 2) (said ++ [(r.drop 1).getD 0 0]) (at_ + 2)
      else .error (at_ + 1)
    else if rch isPl r = 0 then .error at_
    else txt f (r.drop (rch isPl r)) (said ++ r.take (rch isPl r)) (at_ + rch isPl r)
def wordsL : List (List Nat) := [[97, 110, 100], [111, 114], [110, 111, 116], [105, 110], [105, 102], [101, 108, 115, 101], [102, 111, 114], [100, 101, 102], [114, 101, 116, 117, 114, 110], [112, 97, 115, 115], [84, 114, 117, 101], [70, 97, 108, 115, 101], [78, 111, 110, 101], [108, 111, 97, 100]]
def isWd (t : List UInt8) : Bool := wordsL.contains (t.map (·.toNat))
/-- One token that may begin here. -/
def tok1 (L : List UInt8) (p : Sp) : Except Ft Sp :=
  let r := L.drop p.pos
  let c := r.getD 0 0
  if c.toNat = 34 then
    match txt (r.length + 1) (r.drop 1) [] (p.pos + 1) with
    | .error x => .error (1, x)
    | .ok (t, x) => .ok { p with pos := x, toks := p.toks ++ [⟨3, t, 0, p.pos⟩] }
  else if isDg c then
    .ok { p with pos := p.pos + rch isDg r, toks := p.toks ++ [⟨2, r.take (rch isDg r), valD 0 (r.take (rch isDg r)), p.pos⟩] }
  else if isLt c then
    .ok { p with pos := p.pos + rch isNm r, toks := p.toks ++ [⟨bif isWd (r.take (rch isNm r)) then 5 else 1, r.take (rch isNm r), 0, p.pos⟩] }
  else
    .ok { p with pos := p.pos + sgn r, toks := p.toks ++ [⟨4, r.take (sgn r), 0, p.pos⟩], opn := if isOpn c then p.opn + 1 else if isCls c then p.opn - 1 else p.opn }
def Sp.skip (L : List UInt8) (p : Sp) : Sp := { p with pos := p.pos + skp p.opn L.length (L.drop p.pos) }
def endL (L : List UInt8) (p : Sp) : Bool := decide (p.pos = L.length) || decide (((L.drop p.pos).getD 0 0).toNat = 10)
/-- The tokens of a line. -/
def toksF (L : List UInt8) : Nat → Nat → Sp → Except Ft Sp
  | 0, _, p => .error (0, p.pos)
  | f + 1, i, p =>
    if endL L p then .ok p
    else if refu L p i ≠ 0 then .error (refu L p i, p.pos)
    else match tok1 L (p.come i) with
      | .error x => .error x
      | .ok q => toksF L f (q.skip L).top (q.skip L)
def lineF (L : List UInt8) (p : Sp) : Except Ft Sp :=
  match toksF L (L.length + 1) (skp p.opn L.length (L.drop p.pos)) (p.skip L) with
  | .error x => .error x
  | .ok q => if 0 < q.opn then .error (1, q.pos) else if p.toks.length < q.toks.length then .ok (q.add 6) else .ok q
def linesF (L : List UInt8) : Nat → Sp → Except Ft Sp
  | 0, p => .error (0, p.pos)
  | f + 1, p =>
    if p.pos = L.length then .ok (p.come 0)
    else match lineF L p with
      | .error x => .error x
      | .ok q => if q.pos = L.length then .ok (q.come 0) else linesF L f { q with pos := q.pos + 1 }
def splitL (L : List UInt8) : Except Ft (List Tk) :=
  match linesF L (L.length + 1) ⟨0, [], [0], 0⟩ with
  | .error x => .error x
  | .ok q => .ok q.toks
theorem begun_ex : (match splitL [97, 32, 61, 32, 49] with | .ok l => l.map fun t => (t.kind, t.text, t.num, t.pos) | .error _ => []) = [(1, [97], 0, 0), (4, [61], 0, 2), (2, [49], 1, 4), (6, [], 0, 5)] := by decide +kernel
end Go.Proofs.YtcaeeackccgclaaGreatDoor

/- How tokens are parsed, plain. -/
namespace Go.Proofs.YtcaeeackccgclaaGreatDoor

/-- An expression. -/
structure Ex where
  kind : Nat
  num : Nat
  text : List UInt8
  kids : List Ex
  names : List (List UInt8)
/-- A statement. -/
structure Sm where
  kind : Nat
  text : List UInt8
  names : List (List UInt8)
  ex : Ex
  body : List Sm
  els : List Sm
/-- The parser. -/
structure Ps where
  toks : List Tk
  fin : Nat
  blk : Nat
  inD : Bool
  deep : Nat
abbrev Px (α : Type) := Option (Except Ft (α × Ps))
def Ps.nx (p : Ps) : Tk := match p.toks with
  | [] => ⟨0, [], 0, p.fin⟩
  | t :: _ => t
def Ps.adv (p : Ps) : Ps := { p with toks := p.toks.drop 1 }
def Ps.inn (p : Ps) : Ps := { p with deep := p.deep + 1 }
def Ps.out (p : Ps) : Ps := { p with deep := p.deep - 1 }
def bnd {α β : Type} (m : Px α) (f : α → Ps → Px β) : Px β := match m with
  | none => none
  | some (.error x) => some (.error x)
  | some (.ok (a, q)) => f a q
def gu {α : Type} (p : Ps) (k : Nat) : Px α := some (.error (k, p.nx.pos))
def ok {α : Type} (a : α) (p : Ps) : Px α := some (.ok (a, p))
theorem bnd_some {α β : Type} {m : Px α} {f : α → Ps → Px β} {z : Except Ft (β × Ps)} (h : bnd m f = some z) : (∃ x, m = some (.error x) ∧ z = .error x) ∨ ∃ a q, m = some (.ok (a, q)) ∧ f a q = some z := by
  match m, h with
  | some (.error x), h => exact .inl ⟨x, rfl, by simpa [bnd] using h.symm⟩
  | some (.ok (a, q)), h => exact .inr ⟨a, q, rfl, h⟩
def isS (t : Tk) (l : List (List UInt8)) : Bool := (t.kind == 4 || t.kind == 5) && l.contains t.text
def Ps.sees (p : Ps) (l : List (List UInt8)) : Bool := isS p.nx l
def guIf (b : Bool) (k : Nat) (p : Ps) : Px Unit := bif b then gu p k else ok () p
def tkS (x : List UInt8) (p : Ps) : Px Unit := bif p.sees [x] then ok () p.adv else gu p 1
def tkK (k : Nat) (p : Ps) : Px Tk := bif p.nx.kind == k then ok p.nx p.adv else gu p 1
def sAtom (p : Ps) : Bool := p.nx.kind == 1 || p.nx.kind == 2 || p.nx.kind == 3 || p.sees [[84, 114, 117, 101], [70, 97, 108, 115, 101], [78, 111, 110, 101], [40], [91], [123]]
def rfD (l : List (List UInt8)) (p : Ps) : Px Unit := guIf ((sAtom p || p.sees l) && p.deep == 30) 2 p
def sSet (p : Ps) : Bool := match p.toks with
  | t :: u :: _ => t.kind == 1 && isS u [[61]]
  | _ => false
def tkN (l : List (List UInt8)) (p : Ps) : Px (List UInt8) := bif p.nx.kind == 1 && l.contains p.nx.text then gu p 6 else bnd (tkK 1 p) fun t q => ok t.text q
/-- Where one may say no more (too deep by far; nothing was taken), nothing is said. -/
def iff {α : Type} (b : Bool) (m : Px α) : Px α := bif b then m else none
def inner (m : Ps → Px Ex) (p : Ps) : Px Ex := iff (decide (p.deep < 1000)) (bnd (m p.inn) fun e q => iff (decide (1 ≤ q.deep)) (ok e q.out))
def less (q p : Ps) : Bool := decide (q.toks.length < p.toks.length)
theorem iff_some {α : Type} {b : Bool} {m : Px α} {z : Except Ft (α × Ps)} (h : iff b m = some z) : b = true ∧ m = some z := by
  cases b with
  | true => exact ⟨rfl, h⟩
  | false => cases h
/-- What stands up to a closing sign. -/
def lsL {σ : Type} (c : List UInt8) (each : σ → Ps → Px σ) : Nat → Bool → σ → Ps → Px σ
  | 0, _, _, _ => none
  | f + 1, first, s, p => bif p.sees [c] then ok s p.adv else bnd (bif first then ok () p else tkS [44] p) fun _ q => bnd (each s q) fun s q => iff (less q p) (lsL c each f false s q)
def lst {σ : Type} (c : List UInt8) (each : σ → Ps → Px σ) (s : σ) (p : Ps) : Px σ := lsL c each (p.toks.length + 1) true s p
def jnL (part : Ps → Px Ex) (l : List (List UInt8)) : Nat → Ex → Ps → Px Ex
  | 0, _, _ => none
  | f + 1, e, p => bif p.sees l then bnd (part p.adv) fun x q => iff (less q p) (jnL part l f ⟨14, 0, p.nx.text, [e, x], []⟩ q) else ok e p
def jn (part : Ps → Px Ex) (l : List (List UInt8)) (p : Ps) : Px Ex := bnd (part p) fun e q => jnL part l (q.toks.length + 1) e q
section
variable (E : Ps → Px Ex)
/-- One kid more. -/
def Ex.kid (s : Ex) (e : Ex) : Ex := { s with kids := s.kids ++ [e] }
def kdE (s : Ex) (p : Ps) : Px Ex := bnd (E p) fun e q => ok (s.kid e) q
def caE (s : Ex) (p : Ps) : Px Ex := iff (decide (s.kids.length < 1000000) && decide (s.names.length < 1000000)) (
  bif sSet p then bnd (tkN s.names p) fun x q => bnd (tkS [61] q) fun _ q => kdE E { s with names := s.names ++ [x] } q
  else bnd (guIf (decide (0 < s.names.length)) 1 p) fun _ q => kdE E s q)
def eaR (s : Ex) (p : Ps) : Px Ex := bnd (guIf (!p.sees [[93]]) 1 p) fun _ q => ok s q
def eaF (s : Ex) (p : Ps) : Px Ex := bif p.sees [[105, 102]] then bnd (kdE E s p.adv) fun s q => eaR s q else eaR s p
def eaE (s : Ex) (p : Ps) : Px Ex := bnd (tkK 1 p) fun t q => bnd (tkS [105, 110] q) fun _ q => bnd (kdE E { s with kind := 9, text := t.text } q) fun s q => eaF E s q
def liE (s : Ex) (p : Ps) : Px Ex := iff (decide (s.kids.length < 1000000)) (bnd (kdE E s p) fun r q => bif decide (r.kids.length = 1) && q.sees [[102, 111, 114]] then eaE E r q.adv else ok r q)
def diE (s : Ex) (p : Ps) : Px Ex := iff (decide (s.kids.length < 1000000)) (bnd (kdE E s p) fun s q => bnd (tkS [58] q) fun _ q => kdE E s q)
def sgA (p : Ps) : Px Ex :=
  bif p.sees [[84, 114, 117, 101]] then ok ⟨2, 0, [], [], []⟩ p.adv
  else bif p.sees [[70, 97, 108, 115, 101]] then ok ⟨3, 0, [], [], []⟩ p.adv
  else bif p.sees [[78, 111, 110, 101]] then ok ⟨1, 0, [], [], []⟩ p.adv
  else bif p.sees [[91]] then lst [93] (liE E) ⟨7, 0, [], [], []⟩ p.adv
  else bif p.sees [[123]] then lst [125] (diE E) ⟨8, 0, [], [], []⟩ p.adv
  else bnd (tkS [40] p) fun _ q => bnd (E q) fun e q => bnd (tkS [41] q) fun _ q => ok e q
def atm (p : Ps) : Px Ex :=
  bif p.nx.kind == 1 then ok ⟨6, 0, p.nx.text, [], []⟩ p.adv
  else bif p.nx.kind == 2 then ok ⟨4, p.nx.num, [], [], []⟩ p.adv
  else bif p.nx.kind == 3 then ok ⟨5, 0, p.nx.text, [], []⟩ p.adv
  else sgA E p
def psL : Nat → Ex → Ps → Px Ex
  | 0, _, _ => none
  | f + 1, e, p => bif p.sees [[40]] then bnd (lst [41] (caE E) ⟨10, 0, [], [e], []⟩ p.adv) fun x q => iff (less q p) (psL f x q)
    else bif p.sees [[91]] then bnd (E p.adv) fun x q => bnd (tkS [93] q) fun _ q => iff (less q p) (psL f ⟨11, 0, [], [e, x], []⟩ q)
    else ok e p
def pst (p : Ps) : Px Ex := bnd (atm E p) fun e q => psL E (q.toks.length + 1) e q
def unL : Nat → Ps → Px Ex
  | 0, _ => none
  | f + 1, p => bif p.sees [[45]] then bnd (rfD [[45]] p.adv) fun _ q => bnd (inner (unL f) q) fun k q => ok ⟨13, 0, [], [k], []⟩ q else pst E p
def una (p : Ps) : Px Ex := unL E (p.toks.length + 1) p
def sum (p : Ps) : Px Ex := jn (jn (una E) [[42], [47, 47], [37]]) [[43], [45]] p
def cmp (p : Ps) : Px Ex := bnd (sum E p) fun e q => bif q.sees [[61, 61], [33, 61], [60], [60, 61], [105, 110]] then bnd (sum E q.adv) fun x r => ok ⟨14, 0, q.nx.text, [e, x], []⟩ r else ok e q
def ngL : Nat → Ps → Px Ex
  | 0, _ => none
  | f + 1, p => bif p.sees [[110, 111, 116]] then bnd (rfD [[110, 111, 116], [45]] p.adv) fun _ q => bnd (inner (ngL f) q) fun k q => ok ⟨12, 0, [], [k], []⟩ q else cmp E p
def neg (p : Ps) : Px Ex := ngL E (p.toks.length + 1) p
def orE (p : Ps) : Px Ex := jn (jn (neg E) [[97, 110, 100]]) [[111, 114]] p
end
/-- An expression, in so many within one another. -/
def exF : Nat → Ps → Px Ex
  | 0, _ => none
  | n + 1, p => bnd (rfD [[110, 111, 116], [45]] p) fun _ q => inner (orE (exF n)) q

/-- Statements of one line. -/
def givS (E : Ps → Px Ex) (p : Ps) : Px Sm := bnd (guIf (!p.inD) 4 p) fun _ p => bnd (tkS [114, 101, 116, 117, 114, 110] p) fun _ p =>
  bif p.nx.kind == 6 then ok ⟨2, [], [], ⟨1, 0, [], [], []⟩, [], []⟩ p else bnd (E p) fun e p => ok ⟨2, [], [], e, [], []⟩ p
def setS (E : Ps → Px Ex) (p : Ps) : Px Sm := bnd (tkK 1 p) fun t p => bnd (tkS [61] p) fun _ p => bnd (E p) fun e p => ok ⟨3, t.text, [], e, [], []⟩ p
end Go.Proofs.YtcaeeackccgclaaGreatDoor

/- The shelf's contracts, laid at this program. -/
namespace Go.Proofs.YtcaeeackccgclaaGreatDoor
open Go.RowKit Go.Shelf

def laysA_ren : Go.Shelf.Ren := ⟨fun | 172 => 99 | 244 => 122 | 245 => 123 | 247 => 134 | 279 => 135 | 280 => 136 | 281 => 137 | 282 => 138 | 287 => 147 | 316 => 32 | 171 => 55 | 205 => 148 | 321 => 154 | 322 => 155 | 243 => 82 | 246 => 114 | 283 => 129 | 284 => 130 | 285 => 131 | 286 => 132 | 129 => 142 | 317 => 141 | 318 => 143 | 319 => 144 | 320 => 145 | 337 => 152 | 338 => 153 | n => n, fun | 9 => 9 | 3 => 3 | 75 => 63 | 76 => 64 | 4 => 4 | 5 => 5 | 167 => 128 | 37 => 34 | 0 => 0 | 85 => 129 | 2 => 2 | 168 => 131 | 53 => 91 | 175 => 139 | 46 => 75 | 210 => 142 | 127 => 56 | 145 => 148 | 143 => 146 | 21 => 21 | 171 => 123 | 173 => 126 | 212 => 136 | 51 => 88 | 20 => 20 | 213 => 137 | 232 => 149 | 233 => 150 | 80 => 47 | n => n, fun | 15 => 2 | 16 => 3 | 17 => 1 | 18 => 4 | 19 => 5 | n => n⟩
theorem laysA : Go.Proofs.LaysC.n172 Tryz.prog laysA_ren := {
  mixed := by kernel_rfl
  f129 := Tryz.func142.trans (congrArg some (by kernel_rfl))
  f171 := Tryz.func55.trans (congrArg some (by kernel_rfl))
  f172 := Tryz.func99.trans (congrArg some (by kernel_rfl))
  f205 := Tryz.func148.trans (congrArg some (by kernel_rfl))
  f243 := Tryz.func82.trans (congrArg some (by kernel_rfl))
  f244 := Tryz.func122.trans (congrArg some (by kernel_rfl))
  f245 := Tryz.func123.trans (congrArg some (by kernel_rfl))
  f246 := Tryz.func114.trans (congrArg some (by kernel_rfl))
  f247 := Tryz.func134.trans (congrArg some (by kernel_rfl))
  f279 := Tryz.func135.trans (congrArg some (by kernel_rfl))
  f280 := Tryz.func136.trans (congrArg some (by kernel_rfl))
  f281 := Tryz.func137.trans (congrArg some (by kernel_rfl))
  f282 := Tryz.func138.trans (congrArg some (by kernel_rfl))
  f283 := Tryz.func129.trans (congrArg some (by kernel_rfl))
  f284 := Tryz.func130.trans (congrArg some (by kernel_rfl))
  f285 := Tryz.func131.trans (congrArg some (by kernel_rfl))
  f286 := Tryz.func132.trans (congrArg some (by kernel_rfl))
  f287 := Tryz.func147.trans (congrArg some (by kernel_rfl))
  f316 := Tryz.func32.trans (congrArg some (by kernel_rfl))
  f317 := Tryz.func141.trans (congrArg some (by kernel_rfl))
  f318 := Tryz.func143.trans (congrArg some (by kernel_rfl))
  f319 := Tryz.func144.trans (congrArg some (by kernel_rfl))
  f320 := Tryz.func145.trans (congrArg some (by kernel_rfl))
  f321 := Tryz.func154.trans (congrArg some (by kernel_rfl))
  f322 := Tryz.func155.trans (congrArg some (by kernel_rfl))
  f337 := Tryz.func152.trans (congrArg some (by kernel_rfl))
  f338 := Tryz.func153.trans (congrArg some (by kernel_rfl))
  t0 := Tryz.underlying0
  a0 := Tryz.isAgg0
  z0 := Tryz.sizeOf0
  v0 := Tryz.zeroValue0
  t2 := Tryz.underlying2
  a2 := Tryz.isAgg2
  z2 := Tryz.sizeOf2
  v2 := Tryz.zeroValue2
  t3 := Tryz.underlying3
  a3 := Tryz.isAgg3
  z3 := Tryz.sizeOf3
  v3 := Tryz.zeroValue3
  t4 := Tryz.underlying4
  a4 := Tryz.isAgg4
  z4 := Tryz.sizeOf4
  v4 := Tryz.zeroValue4
  t5 := Tryz.underlying5
  a5 := Tryz.isAgg5
  z5 := Tryz.sizeOf5
  v5 := Tryz.zeroValue5
  t9 := Tryz.underlying9
  a9 := Tryz.isAgg9
  z9 := Tryz.sizeOf9
  v9 := Tryz.zeroValue9
  t20 := Tryz.underlying20
  a20 := Tryz.isAgg20
  z20 := Tryz.sizeOf20
  v20 := Tryz.zeroValue20
  t21 := Tryz.underlying21
  a21 := Tryz.isAgg21
  z21 := Tryz.sizeOf21
  v21 := Tryz.zeroValue21
  t37 := Tryz.underlying34
  a37 := Tryz.isAgg34
  z37 := Tryz.sizeOf34
  v37 := Tryz.zeroValue34
  t46 := Tryz.underlying75
  a46 := Tryz.isAgg75
  z46 := Tryz.sizeOf75
  v46 := Tryz.zeroValue75
  t51 := Tryz.underlying88
  a51 := Tryz.isAgg88
  z51 := Tryz.sizeOf88
  v51 := Tryz.zeroValue88
  t53 := Tryz.underlying91
  a53 := Tryz.isAgg91
  z53 := Tryz.sizeOf91
  v53 := Tryz.zeroValue91
  t75 := Tryz.underlying63
  a75 := Tryz.isAgg63
  z75 := Tryz.sizeOf63
  v75 := Tryz.zeroValue63
  t76 := Tryz.underlying64
  a76 := Tryz.isAgg64
  z76 := Tryz.sizeOf64
  v76 := Tryz.zeroValue64
  t85 := Tryz.underlying129
  a85 := Tryz.isAgg129
  z85 := Tryz.sizeOf129
  v85 := Tryz.zeroValue129
  t127 := Tryz.underlying56
  a127 := Tryz.isAgg56
  z127 := Tryz.sizeOf56
  v127 := Tryz.zeroValue56
  t143 := Tryz.underlying146
  a143 := Tryz.isAgg146
  z143 := Tryz.sizeOf146
  v143 := Tryz.zeroValue146
  t145 := Tryz.underlying148
  a145 := Tryz.isAgg148
  z145 := Tryz.sizeOf148
  v145 := Tryz.zeroValue148
  t167 := Tryz.underlying128
  a167 := Tryz.isAgg128
  z167 := Tryz.sizeOf128
  v167 := Tryz.zeroValue128
  t168 := Tryz.underlying131
  a168 := Tryz.isAgg131
  z168 := Tryz.sizeOf131
  v168 := Tryz.zeroValue131
  t171 := Tryz.underlying123
  a171 := Tryz.isAgg123
  z171 := Tryz.sizeOf123
  v171 := Tryz.zeroValue123
  t173 := Tryz.underlying126
  a173 := Tryz.isAgg126
  z173 := Tryz.sizeOf126
  v173 := Tryz.zeroValue126
  t175 := Tryz.underlying139
  a175 := Tryz.isAgg139
  z175 := Tryz.sizeOf139
  v175 := Tryz.zeroValue139
  t210 := Tryz.underlying142
  a210 := Tryz.isAgg142
  z210 := Tryz.sizeOf142
  v210 := Tryz.zeroValue142
  t212 := Tryz.underlying136
  a212 := Tryz.isAgg136
  z212 := Tryz.sizeOf136
  v212 := Tryz.zeroValue136
  t213 := Tryz.underlying137
  a213 := Tryz.isAgg137
  z213 := Tryz.sizeOf137
  t232 := Tryz.underlying149
  a232 := Tryz.isAgg149
  z232 := Tryz.sizeOf149
  v232 := Tryz.zeroValue149
  t233 := Tryz.underlying150
  a233 := Tryz.isAgg150
  z233 := Tryz.sizeOf150
  v233 := Tryz.zeroValue150
  g15 := by kernel_rfl
  g16 := by kernel_rfl
  g17 := by kernel_rfl
  g18 := by kernel_rfl
  g19 := by kernel_rfl
  t80 := Tryz.underlying47
  a80 := Tryz.isAgg47
  z80 := Tryz.sizeOf47
  v80 := Tryz.zeroValue47
  i0 := by kernel_rfl
  i2 := by kernel_rfl
  i3 := by kernel_rfl
  i4 := by kernel_rfl
  i5 := by kernel_rfl
  i9 := by kernel_rfl
  i20 := by kernel_rfl
  i21 := by kernel_rfl
  i37 := by kernel_rfl
  i46 := by kernel_rfl
  i51 := by kernel_rfl
  i53 := by kernel_rfl
  i75 := by kernel_rfl
  i76 := by kernel_rfl
  i80 := by kernel_rfl
  i85 := by kernel_rfl
  i127 := by kernel_rfl
  i143 := by kernel_rfl
  i145 := by kernel_rfl
  i167 := by kernel_rfl
  i168 := by kernel_rfl
  i171 := by kernel_rfl
  i173 := by kernel_rfl
  i175 := by kernel_rfl
  i210 := by kernel_rfl
  i212 := by kernel_rfl
  i232 := by kernel_rfl
  i233 := by kernel_rfl
  m15 := by kernel_rfl
  m16 := by kernel_rfl
  m17 := by kernel_rfl
  m18 := by kernel_rfl
  m19 := by kernel_rfl
  c0 := by kernel_rfl
  c2 := by kernel_rfl
  c3 := by kernel_rfl
  c4 := by kernel_rfl
  c5 := by kernel_rfl
  c9 := by kernel_rfl
  c20 := by kernel_rfl
  c21 := by kernel_rfl
  c37 := by kernel_rfl
  c46 := by kernel_rfl
  c51 := by kernel_rfl
  c53 := by kernel_rfl
  c75 := by kernel_rfl
  c76 := by kernel_rfl
  c80 := by kernel_rfl
  c85 := by kernel_rfl
  c127 := by kernel_rfl
  c143 := by kernel_rfl
  c145 := by kernel_rfl
  c167 := by kernel_rfl
  c168 := by kernel_rfl
  c171 := by kernel_rfl
  c173 := by kernel_rfl
  c175 := by kernel_rfl
  c210 := by kernel_rfl
  c212 := by kernel_rfl
  c213 := by kernel_rfl
  c232 := by kernel_rfl
  c233 := by kernel_rfl }

def laysX_ren : Go.Shelf.Ren := ⟨fun | 137 => 118 | 217 => 133 | 266 => 146 | n => n, fun | 9 => 9 | 5 => 5 | 3 => 3 | n => n, fun | n => n⟩
theorem laysX : Go.Proofs.Lays.n137 Tryz.prog laysX_ren := {
  mixed := by kernel_rfl
  f137 := Tryz.func118.trans (congrArg some (by kernel_rfl))
  f217 := Tryz.func133.trans (congrArg some (by kernel_rfl))
  f266 := Tryz.func146.trans (congrArg some (by kernel_rfl))
  t3 := Tryz.underlying3
  a3 := Tryz.isAgg3
  z3 := Tryz.sizeOf3
  v3 := Tryz.zeroValue3
  t5 := Tryz.underlying5
  a5 := Tryz.isAgg5
  z5 := Tryz.sizeOf5
  v5 := Tryz.zeroValue5
  t9 := Tryz.underlying9
  a9 := Tryz.isAgg9
  z9 := Tryz.sizeOf9
  v9 := Tryz.zeroValue9 }
end Go.Proofs.YtcaeeackccgclaaGreatDoor

/- What token's small functions answer of bytes. -/
namespace Go.Proofs.YtcaeeackccgclaaGreatDoor
open Go.RowKit Go.Shelf

theorem ret_b {a b : Bool} (h : a = b) : Ending.returned (.bool a) = .returned (.bool b) := by rw [h]
theorem c_eq (c : UInt8) (n : Nat) : ((c.toNat : Int) == (n : Int)) = decide (c.toNat = n) := by
  rw [Bool.eq_iff_iff]; simp; omega

theorem isDigit_any (c : UInt8) (w : World) : Calls Tryz.prog 95 #[.int .u8 c.toNat] w fun e w' => e = .returned (.bool (isDg c)) ∧ w' = w := by
  unfold isDg
  go_enter Tryz.func95, Tryz.ntmps95
  go_wp2
  all_goals
    go_ret
    refine ⟨ret_b ?_, rfl⟩
    rw [Bool.eq_iff_iff]
    simp_all <;> omega

theorem isLetter_any (c : UInt8) (w : World) : Calls Tryz.prog 100 #[.int .u8 c.toNat] w fun e w' => e = .returned (.bool (isLt c)) ∧ w' = w := by
  unfold isLt
  go_enter Tryz.func100, Tryz.ntmps100
  go_wp2
  all_goals
    go_ret
    refine ⟨ret_b ?_, rfl⟩
    rw [Bool.eq_iff_iff]
    simp_all <;> omega

theorem skip2_any (c : UInt8) (w : World) : Calls Tryz.prog 90 #[.int .u8 c.toNat] w fun e w' => e = .returned (.bool (isNl c)) ∧ w' = w := by
  unfold isNl
  go_enter Tryz.func90, Tryz.ntmps90
  go_wp2
  go_ret
  refine ⟨ret_b ?_, rfl⟩
  rw [Bool.eq_iff_iff]
  simp <;> omega

theorem text1_any (c : UInt8) (w : World) : Calls Tryz.prog 121 #[.int .u8 c.toNat] w fun e w' => e = .returned (.bool (isPl c)) ∧ w' = w := by
  unfold isPl
  go_enter Tryz.func121, Tryz.ntmps121
  go_wp2
  all_goals
    go_ret
    refine ⟨ret_b ?_, rfl⟩
    rw [Bool.eq_iff_iff]
    simp_all <;> omega

theorem token1_any (c : UInt8) (w : World) : Calls Tryz.prog 101 #[.int .u8 c.toNat] w fun e w' => e = .returned (.bool (isNm c)) ∧ w' = w := by
  have H1 : Hid (∀ w, Calls Tryz.prog 100 #[.int .u8 c.toNat] w fun e w' => e = .returned (.bool (isLt c)) ∧ w' = w) := isLetter_any c
  have H2 : Hid (∀ w, Calls Tryz.prog 95 #[.int .u8 c.toNat] w fun e w' => e = .returned (.bool (isDg c)) ∧ w' = w) := isDigit_any c
  unfold isNm
  generalize isLt c = b1 at *
  generalize isDg c = b2 at *
  cases b1 with
  | true =>
    go_enter Tryz.func101, Tryz.ntmps101
    go_wp2_with fail
    refine (H1.out _).mono ?_
    rintro e w' ⟨rfl, rfl⟩
    go_wp2
    go_ret
    exact ⟨rfl, rfl⟩
  | false =>
    go_enter Tryz.func101, Tryz.ntmps101
    go_wp2_with fail
    refine (H1.out _).mono ?_
    rintro e w' ⟨rfl, rfl⟩
    go_wp2_with fail
    refine (H2.out _).mono ?_
    rintro e w' ⟨rfl, rfl⟩
    go_wp2
    go_ret
    exact ⟨rfl, rfl⟩

theorem indexByte_any (s : ByteArray) (c : UInt8) (w : World) : Calls Tryz.prog 118 #[.string s, .int .u8 c.toNat] w fun e w' => e = .returned (.int .i64 (Lib.indexByte s.data.toList c)) ∧ w' = w := by
  have h := Any.strings_IndexByte laysX s c.toNat w
  have e : ((c.toNat : Int)).toNat.toUInt8 = c := by simp
  rw [e] at h
  exact h
theorem idx_nonneg (l : List UInt8) (c : UInt8) : decide (0 ≤ Lib.indexByte l c) = l.contains c := by
  induction l with
  | nil => simp [Lib.indexByte]
  | cons a r ih =>
    rw [List.contains_cons, ← ih]
    have := Lib.indexByte_ge r c
    show decide (0 ≤ (if a == c then (0 : Int) else if Lib.indexByte r c == -1 then -1 else Lib.indexByte r c + 1)) = _
    by_cases h : a = c
    · simp [h]
    · have h' : (c == a) = false := by simp; exact fun e => h e.symm
      have h2 : (a == c) = false := by simp [h]
      rw [h', Bool.false_or, h2]
      rw [Bool.eq_iff_iff]
      by_cases h3 : Lib.indexByte r c = -1
      · simp [h3]
      · simp [h3]
        omega

set_option maxHeartbeats 400000 in
theorem isOpening_any (c : UInt8) (w : World) : Calls Tryz.prog 97 #[.int .u8 c.toNat] w fun e w' => e = .returned (.bool (isOpn c)) ∧ w' = w := by
  have HI : Hid (∀ w, Calls Tryz.prog 118 #[.string ⟨#[40, 91, 123]⟩, .int .u8 c.toNat] w fun e w' => e = .returned (.int .i64 (Lib.indexByte [40, 91, 123] c)) ∧ w' = w) := fun w => indexByte_any ⟨#[40, 91, 123]⟩ c w
  have hb : decide (0 ≤ Lib.indexByte [40, 91, 123] c) = isOpn c := by
    rw [idx_nonneg]
    unfold isOpn
    rw [Bool.eq_iff_iff]
    simp [← UInt8.toNat_inj]
    omega
  generalize Lib.indexByte [40, 91, 123] c = x at HI hb
  go_enter Tryz.func97, Tryz.ntmps97
  go_wp2_with fail
  refine (HI.out _).mono ?_
  rintro e w' ⟨rfl, rfl⟩
  go_wp2
  go_ret
  exact ⟨rfl, rfl⟩

set_option maxHeartbeats 400000 in
theorem isClosing_any (c : UInt8) (w : World) : Calls Tryz.prog 93 #[.int .u8 c.toNat] w fun e w' => e = .returned (.bool (isCls c)) ∧ w' = w := by
  have HI : Hid (∀ w, Calls Tryz.prog 118 #[.string ⟨#[41, 93, 125]⟩, .int .u8 c.toNat] w fun e w' => e = .returned (.int .i64 (Lib.indexByte [41, 93, 125] c)) ∧ w' = w) := fun w => indexByte_any ⟨#[41, 93, 125]⟩ c w
  have hb : decide (0 ≤ Lib.indexByte [41, 93, 125] c) = isCls c := by
    rw [idx_nonneg]
    unfold isCls
    rw [Bool.eq_iff_iff]
    simp [← UInt8.toNat_inj]
    omega
  generalize Lib.indexByte [41, 93, 125] c = x at HI hb
  go_enter Tryz.func93, Tryz.ntmps93
  go_wp2_with fail
  refine (HI.out _).mono ?_
  rintro e w' ⟨rfl, rfl⟩
  go_wp2
  go_ret
  exact ⟨rfl, rfl⟩

/-- What a function value that came in answers of a byte. -/
def Says (F : Nat) (caps : Array Value) (w : World) (h : UInt8 → Bool) : Prop := (∀ args w, (callFunc F args).run Tryz.prog w = .ok (.enter F args) w) ∧ ∀ c : UInt8, Calls Tryz.prog F (#[.int .u8 c.toNat] ++ caps) w fun e w' => e = .returned (.bool (h c)) ∧ w' = w

theorem rch_at (h : UInt8 → Bool) : ∀ (l : List UInt8) (k : Nat), k ≤ l.length → (∀ j (hj : j < l.length), j < k → h l[j] = true) → (∀ hk : k < l.length, h l[k] = false) → rch h l = k := by
  intro l
  induction l with
  | nil => intro k hk _ _; simp at hk; subst hk; rfl
  | cons c r ih =>
    intro k hk h1 h2
    cases k with
    | zero => unfold rch; rw [show h c = false from h2 (by simp)]; rfl
    | succ k =>
      unfold rch
      rw [show h c = true from h1 0 (by simp) (by omega)]
      have := ih k (by simpa using hk) (fun j hj hjk => h1 (j + 1) (by simpa using hj) (by omega)) (fun hk' => h2 (by simpa using hk'))
      rw [this]
      rfl

set_option maxHeartbeats 1000000 in
set_option maxRecDepth 100000 in
theorem reach_any (F : Nat) (h : UInt8 → Bool) (s : ByteArray) (w : World) (hs : s.size ≤ 1000000) (hF : Says F #[] w h) :
    Calls Tryz.prog 116 #[.string s, .func (.func F) #[] #[]] w fun e w' => e = .returned (.int .i64 (rch h s.data.toList)) ∧ w' = w := by
  have HF : Hid (∀ c : UInt8, Calls Tryz.prog F #[.int .u8 c.toNat] w fun e w' => e = .returned (.bool (h c)) ∧ w' = w) := fun c => hF.2 c
  have hen := hF.1
  clear hF
  go_enter Tryz.func116, Tryz.ntmps116
  go_wp2
  go_loop [8] (fun i => ∃ k : Nat, k ≤ s.size ∧ i = .int .i64 k ∧ Hid (∀ j (hj : j < s.size), j < k → h s[j] = true)) (fun i => s.size - (intOf i).toNat)
  case atStart => exact ⟨0, Nat.zero_le _, rfl, by intro j hj h; omega⟩
  case round =>
    obtain ⟨k, hk, rfl, HK⟩ := hrel
    by_cases hlt : k < s.size
    · have hki : (k : Int) < (s.size : Int) := by omega
      cases hb : h s[k] with
      | true =>
        have HN : Hid (∀ j (hj : j < s.size), j < k + 1 → h s[j] = true) := fun j hj hjk => by
          by_cases e : j < k
          · exact HK.out j hj e
          · obtain rfl : j = k := by omega
            exact hb
        have HC := HF.out s[k]
        rw [hb] at HC
        have HC' : Hid (Calls Tryz.prog F #[.int .u8 s[k].toNat] w fun e w' => e = .returned (.bool true) ∧ w' = w) := HC
        clear HC hb
        go_wp2_with fail
        refine HC'.out.mono ?_
        rintro e w' ⟨rfl, rfl⟩
        go_wp2
        refine ⟨⟨k + 1, by omega, by go_num, HN⟩, by simp [intOf]; omega⟩
      | false =>
        have HN : Hid (rch h s.data.toList = k) := rch_at h s.data.toList k (by simpa using hk) (fun j hj hjk => HK.out j (by simpa using hj) hjk) (fun _ => hb)
        have HC := HF.out s[k]
        rw [hb] at HC
        have HC' : Hid (Calls Tryz.prog F #[.int .u8 s[k].toNat] w fun e w' => e = .returned (.bool false) ∧ w' = w) := HC
        clear HC hb
        go_wp2_with fail
        refine HC'.out.mono ?_
        rintro e w' ⟨rfl, rfl⟩
        go_wp2
        go_ret
        exact ⟨by rw [HN.out]; rfl, rfl⟩
    · obtain rfl : k = s.size := by omega
      have HN : Hid (rch h s.data.toList = s.size) := rch_at h s.data.toList s.size (by simp) (fun j hj hjk => HK.out j (by simpa using hj) hjk) (fun hk => by simp at hk)
      go_wp2
      go_ret
      exact ⟨by rw [HN.out]; rfl, rfl⟩

set_option maxHeartbeats 1000000 in
set_option maxRecDepth 100000 in
theorem reach_cap (F : Nat) (u : Value) (h : UInt8 → Bool) (s : ByteArray) (w : World) (hs : s.size ≤ 1000000) (hF : Says F #[u] w h) :
    Calls Tryz.prog 116 #[.string s, .func (.func F) #[] #[u]] w fun e w' => e = .returned (.int .i64 (rch h s.data.toList)) ∧ w' = w := by
  have HF : Hid (∀ c : UInt8, Calls Tryz.prog F #[.int .u8 c.toNat, u] w fun e w' => e = .returned (.bool (h c)) ∧ w' = w) := fun c => hF.2 c
  have hen := hF.1
  clear hF
  go_enter Tryz.func116, Tryz.ntmps116
  go_wp2
  go_loop [8] (fun i => ∃ k : Nat, k ≤ s.size ∧ i = .int .i64 k ∧ Hid (∀ j (hj : j < s.size), j < k → h s[j] = true)) (fun i => s.size - (intOf i).toNat)
  case atStart => exact ⟨0, Nat.zero_le _, rfl, by intro j hj h; omega⟩
  case round =>
    obtain ⟨k, hk, rfl, HK⟩ := hrel
    by_cases hlt : k < s.size
    · have hki : (k : Int) < (s.size : Int) := by omega
      cases hb : h s[k] with
      | true =>
        have HN : Hid (∀ j (hj : j < s.size), j < k + 1 → h s[j] = true) := fun j hj hjk => by
          by_cases e : j < k
          · exact HK.out j hj e
          · obtain rfl : j = k := by omega
            exact hb
        have HC := HF.out s[k]
        rw [hb] at HC
        have HC' : Hid (Calls Tryz.prog F #[.int .u8 s[k].toNat, u] w fun e w' => e = .returned (.bool true) ∧ w' = w) := HC
        clear HC hb
        go_wp2_with fail
        refine HC'.out.mono ?_
        rintro e w' ⟨rfl, rfl⟩
        go_wp2
        refine ⟨⟨k + 1, by omega, by go_num, HN⟩, by simp [intOf]; omega⟩
      | false =>
        have HN : Hid (rch h s.data.toList = k) := rch_at h s.data.toList k (by simpa using hk) (fun j hj hjk => HK.out j (by simpa using hj) hjk) (fun _ => hb)
        have HC := HF.out s[k]
        rw [hb] at HC
        have HC' : Hid (Calls Tryz.prog F #[.int .u8 s[k].toNat, u] w fun e w' => e = .returned (.bool false) ∧ w' = w) := HC
        clear HC hb
        go_wp2_with fail
        refine HC'.out.mono ?_
        rintro e w' ⟨rfl, rfl⟩
        go_wp2
        go_ret
        exact ⟨by rw [HN.out]; rfl, rfl⟩
    · obtain rfl : k = s.size := by omega
      have HN : Hid (rch h s.data.toList = s.size) := rch_at h s.data.toList s.size (by simp) (fun j hj hjk => HK.out j (by simpa using hj) hjk) (fun hk => by simp at hk)
      go_wp2
      go_ret
      exact ⟨by rw [HN.out]; rfl, rfl⟩

theorem says_digit (w : World) : Says 95 #[] w isDg := ⟨enters_of Tryz.func95 (by kernel_rfl) rfl, fun c => isDigit_any c w⟩
theorem says_nm (w : World) : Says 101 #[] w isNm := ⟨enters_of Tryz.func101 (by kernel_rfl) rfl, fun c => token1_any c w⟩
theorem says_pl (w : World) : Says 121 #[] w isPl := ⟨enters_of Tryz.func121 (by kernel_rfl) rfl, fun c => text1_any c w⟩
theorem says_nl (w : World) : Says 90 #[] w isNl := ⟨enters_of Tryz.func90 (by kernel_rfl) rfl, fun c => skip2_any c w⟩
end Go.Proofs.YtcaeeackccgclaaGreatDoor

/- Signs, words, what begins a token; ints that may not stand there. -/
namespace Go.Proofs.YtcaeeackccgclaaGreatDoor
open Go.RowKit Go.Shelf

def mkB (l : List UInt8) : ByteArray := ⟨l.toArray⟩
theorem mk_data (l : List UInt8) : (mkB l).data.toList = l := by simp [mkB]
theorem mk_size (l : List UInt8) : (mkB l).size = l.length := by
  show (mkB l).data.size = _
  simp [mkB]
theorem mk_self (s : ByteArray) : s = mkB s.data.toList := by cases s; simp [mkB]
theorem mk_toList (l : List UInt8) : (mkB l).toList = l := by rw [Lib.toList_data, mk_data]
theorem ext_mk (s : ByteArray) (a b : Nat) : s.extract a b = mkB ((s.data.toList.drop a).take (b - a)) := by
  rw [mk_self (s.extract a b)]
  congr 1
  rw [Lib.extract_data]
theorem sl_front (l : List UInt8) (k : Nat) (x : Int) (hx : x = k) (hk : k ≤ l.length) (W : World) : (Instr.slice 9 (.string (mkB l)) none (some (.int .i64 x)) none).run Tryz.prog W = .ok (.string (mkB (l.take k))) W := by
  subst hx
  have h2 : k ≤ (mkB l).size := by rw [mk_size]; exact hk
  have e := ext_mk (mkB l) 0 k
  rw [mk_data, List.drop_zero, Nat.sub_zero] at e
  simp [Instr.slice, Instr.sliceBounds, Instr.sliceBound, run_underlying Tryz.underlying9, asIntOf, h2, e]
theorem sl_back (l : List UInt8) (k : Nat) (x : Int) (hx : x = k) (hk : k ≤ l.length) (W : World) : (Instr.slice 9 (.string (mkB l)) (some (.int .i64 x)) none none).run Tryz.prog W = .ok (.string (mkB (l.drop k))) W := by
  subst hx
  have h2 : k ≤ (mkB l).size := by rw [mk_size]; exact hk
  have e := ext_mk (mkB l) k (mkB l).size
  rw [mk_data, mk_size, List.take_of_length_le (by rw [List.length_drop]; omega)] at e
  rw [← mk_size l] at e
  simp [Instr.slice, Instr.sliceBounds, Instr.sliceBound, run_underlying Tryz.underlying9, asIntOf, h2, e]
theorem sl_mid (l : List UInt8) (a b : Nat) (x y : Int) (hx : x = a) (hy : y = b) (h1 : a ≤ b) (hk : b ≤ l.length) (W : World) : (Instr.slice 9 (.string (mkB l)) (some (.int .i64 x)) (some (.int .i64 y)) none).run Tryz.prog W = .ok (.string (mkB ((l.drop a).take (b - a)))) W := by
  subst hx hy
  have h2 : b ≤ (mkB l).size := by rw [mk_size]; exact hk
  have e := ext_mk (mkB l) a b
  rw [mk_data] at e
  simp [Instr.slice, Instr.sliceBounds, Instr.sliceBound, run_underlying Tryz.underlying9, asIntOf, h1, h2, e]
theorem mk_get (l : List UInt8) (k : Nat) (h : k < (mkB l).size) : (mkB l)[k] = l.getD k 0 := by
  have h' : k < l.length := by rw [mk_size] at h; exact h
  rw [List.getD_eq_getElem?_getD, List.getElem?_eq_getElem h']
  show (mkB l).data[k] = _
  simp [mkB]

def eqs (l : List UInt8) (m : List Nat) : Bool := l.map (·.toNat) == m
theorem eqs_iff (l : List UInt8) (m : List UInt8) : (l == m) = eqs l (m.map (·.toNat)) := by
  unfold eqs
  rw [Bool.eq_iff_iff]
  simp only [beq_iff_eq]
  constructor
  · intro h; rw [h]
  · intro h
    exact List.map_inj_right (fun a b e => UInt8.toNat_inj.1 e) |>.1 h

set_option maxHeartbeats 1000000 in
set_option maxRecDepth 100000 in
theorem signSize_any (l : List UInt8) (w : World) (h0 : 0 < l.length) (hl : l.length ≤ 1000000) :
    Calls Tryz.prog 117 #[.string (mkB l)] w fun e w' => e = .returned (.int .i64 (sgn l)) ∧ w' = w := by
  have HI : Hid (∀ w, Calls Tryz.prog 118 #[.string ⟨#[61, 60, 43, 45, 42, 37, 40, 41, 91, 93, 123, 125, 44, 58]⟩, .int .u8 (l.getD 0 0).toNat] w fun e w' => e = .returned (.int .i64 (Lib.indexByte [61, 60, 43, 45, 42, 37, 40, 41, 91, 93, 123, 125, 44, 58] (l.getD 0 0))) ∧ w' = w) := fun w => indexByte_any ⟨#[61, 60, 43, 45, 42, 37, 40, 41, 91, 93, 123, 125, 44, 58]⟩ (l.getD 0 0) w
  have hb : decide (0 ≤ Lib.indexByte [61, 60, 43, 45, 42, 37, 40, 41, 91, 93, 123, 125, 44, 58] (l.getD 0 0)) = isSg1 (l.getD 0 0) := by
    rw [idx_nonneg]
    unfold isSg1
    rw [Bool.eq_iff_iff]
    simp [← UInt8.toNat_inj]
  generalize Lib.indexByte [61, 60, 43, 45, 42, 37, 40, 41, 91, 93, 123, 125, 44, 58] (l.getD 0 0) = x at HI hb
  have hsz : (mkB l).size = l.length := mk_size l
  have hsl := sl_front l (min 2 l.length) _ rfl (by omega)
  have ht2 : l.take (min 2 l.length) = l.take 2 := by
    rcases Nat.lt_or_ge l.length 2 with h | h
    · rw [Nat.min_eq_right (by omega), List.take_of_length_le (Nat.le_refl _), List.take_of_length_le (by omega)]
    · rw [Nat.min_eq_left h]
  rw [ht2] at hsl
  obtain ⟨k, hk⟩ : ∃ k, k = min 2 l.length := ⟨_, rfl⟩
  rw [← hk] at hsl
  have hmin : min (2 : Int) (l.length : Int) = (k : Int) := by omega
  have hk2 : (k : Int) ≤ (l.length : Int) := by omega
  clear hk
  have q1 : ((mkB (l.take 2)).toList == [61, 61]) = eqs (l.take 2) [61, 61] := by rw [mk_toList]; exact eqs_iff _ [61, 61]
  have q2 : ((mkB (l.take 2)).toList == [33, 61]) = eqs (l.take 2) [33, 61] := by rw [mk_toList]; exact eqs_iff _ [33, 61]
  have q3 : ((mkB (l.take 2)).toList == [60, 61]) = eqs (l.take 2) [60, 61] := by rw [mk_toList]; exact eqs_iff _ [60, 61]
  have q4 : ((mkB (l.take 2)).toList == [47, 47]) = eqs (l.take 2) [47, 47] := by rw [mk_toList]; exact eqs_iff _ [47, 47]
  have hsg : sgn l = bif (eqs (l.take 2) [61, 61] || eqs (l.take 2) [33, 61] || eqs (l.take 2) [60, 61] || eqs (l.take 2) [47, 47]) then 2 else bif isSg1 (l.getD 0 0) then 1 else 0 := by
    unfold sgn two2 eqs
    congr 1
    rw [Bool.eq_iff_iff]
    simp [or_assoc]
  rw [hsg]
  have hg0 := mk_get l 0 (by rw [hsz]; exact h0)
  have hz0 : (0 : Int) < ((mkB l).size : Int) := by rw [hsz]; omega
  generalize eqs (l.take 2) [61, 61] = b1 at *
  generalize eqs (l.take 2) [33, 61] = b2 at *
  generalize eqs (l.take 2) [60, 61] = b3 at *
  generalize eqs (l.take 2) [47, 47] = b4 at *
  generalize isSg1 (l.getD 0 0) = b5 at *
  generalize l.getD 0 0 = c0 at *
  generalize mkB (l.take 2) = t at *
  clear hsg ht2
  cases b1 with
  | true =>
    go_enter Tryz.func117, Tryz.ntmps117
    go_wp2
    go_ret
    exact ⟨rfl, rfl⟩
  | false =>
    cases b2 with
    | true =>
      go_enter Tryz.func117, Tryz.ntmps117
      go_wp2
      go_ret
      exact ⟨rfl, rfl⟩
    | false =>
      cases b3 with
      | true =>
        go_enter Tryz.func117, Tryz.ntmps117
        go_wp2
        go_ret
        exact ⟨rfl, rfl⟩
      | false =>
        cases b4 with
        | true =>
          go_enter Tryz.func117, Tryz.ntmps117
          go_wp2
          go_ret
          exact ⟨rfl, rfl⟩
        | false =>
          cases b5 with
          | true =>
            go_enter Tryz.func117, Tryz.ntmps117
            go_wp2_with fail
            refine (HI.out _).mono ?_
            rintro e w' ⟨rfl, rfl⟩
            go_wp2
            go_ret
            exact ⟨rfl, rfl⟩
          | false =>
            go_enter Tryz.func117, Tryz.ntmps117
            go_wp2_with fail
            refine (HI.out _).mono ?_
            rintro e w' ⟨rfl, rfl⟩
            go_wp2
            go_ret
            exact ⟨rfl, rfl⟩

set_option maxHeartbeats 1000000 in
theorem begins_any (l : List UInt8) (w : World) (h0 : 0 < l.length) (hl : l.length ≤ 1000000) :
    Calls Tryz.prog 91 #[.string (mkB l)] w fun e w' => e = .returned (.bool (beg l)) ∧ w' = w := by
  have H1 : Hid (∀ w, Calls Tryz.prog 100 #[.int .u8 (l.getD 0 0).toNat] w fun e w' => e = .returned (.bool (isLt (l.getD 0 0))) ∧ w' = w) := isLetter_any _
  have H2 : Hid (∀ w, Calls Tryz.prog 95 #[.int .u8 (l.getD 0 0).toNat] w fun e w' => e = .returned (.bool (isDg (l.getD 0 0))) ∧ w' = w) := isDigit_any _
  have H3 : Hid (∀ w, Calls Tryz.prog 117 #[.string (mkB l)] w fun e w' => e = .returned (.int .i64 (sgn l)) ∧ w' = w) := fun w => signSize_any l w h0 hl
  have hsz : (mkB l).size = l.length := mk_size l
  have hz0 : (0 : Int) < ((mkB l).size : Int) := by rw [hsz]; omega
  have hg0 := mk_get l 0 (by rw [hsz]; exact h0)
  have hq := c_eq (l.getD 0 0) 34
  have hbg : beg l = (isLt (l.getD 0 0) || isDg (l.getD 0 0) || decide ((l.getD 0 0).toNat = 34) || decide (0 < sgn l)) := rfl
  rw [hbg]
  generalize isLt (l.getD 0 0) = b1 at *
  generalize isDg (l.getD 0 0) = b2 at *
  generalize decide ((l.getD 0 0).toNat = 34) = b3 at *
  generalize sgn l = n at *
  generalize l.getD 0 0 = c0 at *
  have hq' : ((c0.toNat : Int) == 34) = b3 := hq
  clear hbg hq
  cases b1 with
  | true =>
    go_enter Tryz.func91, Tryz.ntmps91
    go_wp2_with fail
    refine (H1.out _).mono ?_
    rintro e w' ⟨rfl, rfl⟩
    go_wp2
    go_ret
    exact ⟨rfl, rfl⟩
  | false =>
    cases b2 with
    | true =>
      go_enter Tryz.func91, Tryz.ntmps91
      go_wp2_with fail
      refine (H1.out _).mono ?_
      rintro e w' ⟨rfl, rfl⟩
      go_wp2_with fail
      refine (H2.out _).mono ?_
      rintro e w' ⟨rfl, rfl⟩
      go_wp2
      go_ret
      exact ⟨rfl, rfl⟩
    | false =>
      cases b3 with
      | true =>
        go_enter Tryz.func91, Tryz.ntmps91
        go_wp2_with fail
        refine (H1.out _).mono ?_
        rintro e w' ⟨rfl, rfl⟩
        go_wp2_with fail
        refine (H2.out _).mono ?_
        rintro e w' ⟨rfl, rfl⟩
        go_wp2
        go_ret
        exact ⟨rfl, rfl⟩
      | false =>
        go_enter Tryz.func91, Tryz.ntmps91
        go_wp2_with fail
        refine (H1.out _).mono ?_
        rintro e w' ⟨rfl, rfl⟩
        go_wp2_with fail
        refine (H2.out _).mono ?_
        rintro e w' ⟨rfl, rfl⟩
        go_wp2_with fail
        refine (H3.out _).mono ?_
        rintro e w' ⟨rfl, rfl⟩
        go_wp2
        go_ret
        refine ⟨ret_b ?_, rfl⟩
        simp

set_option maxHeartbeats 2000000 in
theorem isWord_any (l : List UInt8) (w : World) :
    Calls Tryz.prog 102 #[.string (mkB l)] w fun e w' => e = .returned (.bool (isWd l)) ∧ w' = w := by
  have hw : isWd l = wordsL.any (fun m => eqs l m) := by
    unfold isWd eqs
    rw [Bool.eq_iff_iff]
    simp [List.any_eq_true]
  have key : ∀ m : List UInt8, ((mkB l).toList == m) = eqs l (m.map (·.toNat)) := fun m => by rw [mk_toList]; exact eqs_iff l m
  have q1 := key [97, 110, 100]
  have q2 := key [111, 114]
  have q3 := key [110, 111, 116]
  have q4 := key [105, 110]
  have q5 := key [105, 102]
  have q6 := key [101, 108, 115, 101]
  have q7 := key [102, 111, 114]
  have q8 := key [100, 101, 102]
  have q9 := key [114, 101, 116, 117, 114, 110]
  have q10 := key [112, 97, 115, 115]
  have q11 := key [84, 114, 117, 101]
  have q12 := key [70, 97, 108, 115, 101]
  have q13 := key [78, 111, 110, 101]
  have q14 := key [108, 111, 97, 100]
  have e : isWd l = (((mkB l).toList == [97, 110, 100]) || ((mkB l).toList == [111, 114]) || ((mkB l).toList == [110, 111, 116]) || ((mkB l).toList == [105, 110]) || ((mkB l).toList == [105, 102]) || ((mkB l).toList == [101, 108, 115, 101]) || ((mkB l).toList == [102, 111, 114]) || ((mkB l).toList == [100, 101, 102]) || ((mkB l).toList == [114, 101, 116, 117, 114, 110]) || ((mkB l).toList == [112, 97, 115, 115]) || ((mkB l).toList == [84, 114, 117, 101]) || ((mkB l).toList == [70, 97, 108, 115, 101]) || ((mkB l).toList == [78, 111, 110, 101]) || ((mkB l).toList == [108, 111, 97, 100])) := by
    rw [hw, q1, q2, q3, q4, q5, q6, q7, q8, q9, q10, q11, q12, q13, q14]
    simp [wordsL, List.any_cons, Bool.or_assoc]
  rw [e]
  clear q1 q2 q3 q4 q5 q6 q7 q8 q9 q10 q11 q12 q13 q14 key hw e
  go_enter Tryz.func102, Tryz.ntmps102
  go_wp2
  all_goals
    go_ret
    refine ⟨ret_b ?_, rfl⟩
    simp_all
end Go.Proofs.YtcaeeackccgclaaGreatDoor

/- Ints that may not stand there. -/
namespace Go.Proofs.YtcaeeackccgclaaGreatDoor
open Go.RowKit Go.Shelf

theorem valD_ge : ∀ (l : List UInt8) (n : Nat), n ≤ valD n l
  | [], _ => Nat.le_refl _
  | c :: r, n => by
    have := valD_ge r (10 * n + (c.toNat - 48))
    unfold valD
    omega
theorem par_lt : ∀ (l : List UInt8) (n : Nat), (∀ c ∈ l, isDg c = true) → valD n l < 18446744073709551616 → Lib.parseUint10 n l = .ok (valD n l)
  | [], _, _, _ => rfl
  | c :: r, n, hd, hn => by
    have hc : 48 ≤ c.toNat ∧ c.toNat ≤ 57 := by
      have := hd c (by simp)
      unfold isDg at this
      simpa using this
    have hge := valD_ge r (10 * n + (c.toNat - 48))
    have hn' : valD (10 * n + (c.toNat - 48)) r < 18446744073709551616 := hn
    have ih := par_lt r (10 * n + (c.toNat - 48)) (fun x hx => hd x (by simp [hx])) hn'
    rw [Lib.parseUint10]
    rw [if_pos hc, if_neg (by omega), if_neg (by omega), Nat.mul_comm n 10, ih]
    rfl
theorem par_ge : ∀ (l : List UInt8) (n : Nat), (∀ c ∈ l, isDg c = true) → n < 18446744073709551616 → 18446744073709551616 ≤ valD n l → Lib.parseUint10 n l = .range
  | [], n, _, hn, h => by
    have : 18446744073709551616 ≤ n := h
    omega
  | c :: r, n, hd, hn, h => by
    have hc : 48 ≤ c.toNat ∧ c.toNat ≤ 57 := by
      have := hd c (by simp)
      unfold isDg at this
      simpa using this
    have h' : 18446744073709551616 ≤ valD (10 * n + (c.toNat - 48)) r := h
    rw [Lib.parseUint10]
    rw [if_pos hc]
    by_cases h1 : 1844674407370955162 ≤ n
    · rw [if_pos h1]
    · rw [if_neg h1]
      by_cases h2 : 18446744073709551616 ≤ n * 10 + (c.toNat - 48)
      · rw [if_pos h2]
      · rw [if_neg h2, Nat.mul_comm n 10]
        exact par_ge r _ (fun x hx => hd x (by simp [hx])) (by omega) h'
theorem atoi_lo (l : List UInt8) (h0 : l ≠ []) (hd : ∀ c ∈ l, isDg c = true) (hv : valD 0 l < 9223372036854775808) : Lib.atoiAll l = .ok (valD 0 l : Int) := by
  match l, h0 with
  | c :: r, _ =>
    have hc : 48 ≤ c.toNat ∧ c.toNat ≤ 57 := by
      have := hd c (by simp)
      unfold isDg at this
      simpa using this
    have hp : Lib.parseMag (c :: r) = .ok (valD 0 (c :: r)) := by
      unfold Lib.parseMag
      rw [if_neg (by simp)]
      exact par_lt (c :: r) 0 hd (by omega)
    rw [Lib.atoiAll_plain c r (by omega) (by omega), hp]
    unfold Lib.signless
    simp only
    rw [if_neg (by omega)]
theorem atoi_hi (l : List UInt8) (h0 : l ≠ []) (hd : ∀ c ∈ l, isDg c = true) (hv : ¬ valD 0 l < 9223372036854775808) : Lib.atoiAll l = .range := by
  match l, h0 with
  | c :: r, _ =>
    have hc : 48 ≤ c.toNat ∧ c.toNat ≤ 57 := by
      have := hd c (by simp)
      unfold isDg at this
      simpa using this
    rw [Lib.atoiAll_plain c r (by omega) (by omega)]
    by_cases h1 : valD 0 (c :: r) < 18446744073709551616
    · have hp : Lib.parseMag (c :: r) = .ok (valD 0 (c :: r)) := by
        unfold Lib.parseMag
        rw [if_neg (by simp)]
        exact par_lt (c :: r) 0 hd h1
      rw [hp]
      unfold Lib.signless
      simp only
      rw [if_pos (by omega)]
    · have hp : Lib.parseMag (c :: r) = .range := by
        unfold Lib.parseMag
        rw [if_neg (by simp)]
        exact par_ge (c :: r) 0 hd (by decide) (by omega)
      rw [hp]
      rfl

/-- The variable ErrRange holds some error. -/
def ErrR (w : World) : Prop := ∃ ev, w.cell? ⟨3, 0, none⟩ = some ev ∧ (ev = .nilIface ∨ ∃ te pe, ev = .iface te pe)
theorem ErrR.up {w w' : World} (h : ErrR w) (hb : Below w.heap.size w w') : ErrR w' := by
  obtain ⟨ev, h1, h2⟩ := h
  exact ⟨ev, (hb.cell (p := ⟨3, 0, none⟩) (World.block_lt_of_cell? w ⟨3, 0, none⟩ h1)).trans h1, h2⟩

theorem atoi_ok (l : List UInt8) (w : World) (h0 : l ≠ []) (hd : ∀ c ∈ l, isDg c = true) (hl : l.length ≤ 1000000) (hv : valD 0 l < 9223372036854775808) :
    Calls Tryz.prog 99 #[.string (mkB l)] w fun e w' => e = .returned (.tuple #[.int .i64 (valD 0 l), .nilIface]) ∧ Below w.heap.size w w' := by
  refine (Any.strconv_Atoi_ok laysA (mkB l) (by rw [mk_size]; omega) (valD 0 l) (by rw [mk_data]; exact atoi_lo l h0 hd hv) w).mono ?_
  rintro e w' ⟨rfl, h⟩
  refine ⟨rfl, ?_⟩
  rcases h with rfl | ⟨t, rfl⟩
  · exact Below.refl _ _
  · unfold Lib.bytesWorld
    exact Lib.below_freeze (Below.alloc (Below.drew (Below.refl w.heap.size w)) (Nat.le_refl _) _) (p := ⟨w.heap.size, _, none⟩) (Nat.le_refl _) _
theorem atoi_big (l : List UInt8) (w : World) (h0 : l ≠ []) (hd : ∀ c ∈ l, isDg c = true) (hl : l.length ≤ 1000000) (hv : ¬ valD 0 l < 9223372036854775808) (hr : ErrR w) :
    Calls Tryz.prog 99 #[.string (mkB l)] w fun e w' => ∃ (x : Int) (t : TypeId) (p : Value), e = .returned (.tuple #[.int .i64 x, .iface t p]) ∧ Below w.heap.size w w' := by
  obtain ⟨ev, h1, h2⟩ := hr
  refine (Any.strconv_Atoi_range laysA (mkB l) (by rw [mk_size]; omega) (by rw [mk_data]; exact atoi_hi l h0 hd hv) ev w h1 h2).mono ?_
  rintro e w' ⟨N, rfl, _, _, hb⟩
  exact ⟨_, _, _, rfl, hb⟩

theorem take_dig : ∀ (l : List UInt8), ∀ c ∈ l.take (rch isDg l), isDg c = true
  | [], c, hc => by simp at hc
  | a :: r, c, hc => by
    unfold rch at hc
    cases ha : isDg a with
    | false => rw [ha] at hc; simp at hc
    | true =>
      rw [ha] at hc
      simp only [cond_true, List.take_succ_cons, List.mem_cons] at hc
      rcases hc with rfl | hc
      · exact ha
      · exact take_dig r c hc
theorem rch_pos {h : UInt8 → Bool} {l : List UInt8} (h0 : 0 < l.length) (hc : h (l.getD 0 0) = true) : 0 < rch h l := by
  match l, h0 with
  | a :: r, _ =>
    have : h a = true := hc
    unfold rch
    rw [this]
    exact Nat.succ_pos _

set_option maxHeartbeats 2000000 in
set_option maxRecDepth 100000 in
theorem isNoInt_any (l : List UInt8) (w : World) (h0 : 0 < l.length) (hl : l.length ≤ 1000000) (hc : isDg (l.getD 0 0) = true) (hr : ErrR w) :
    Calls Tryz.prog 96 #[.string (mkB l)] w fun e w' => e = .returned (.bool (noInt l)) ∧ Below w.heap.size w w' := by
  have HR : Hid (∀ w, Calls Tryz.prog 116 #[.string (mkB l), .func (.func 95) #[] #[]] w fun e w' => e = .returned (.int .i64 (rch isDg l)) ∧ w' = w) := fun w => by
    have := reach_any 95 isDg (mkB l) w (by rw [mk_size]; exact hl) (says_digit w)
    rwa [mk_data] at this
  have hp := rch_pos h0 hc
  have hle := rch_le isDg l
  have hni : noInt l = (decide (9007199254740991 < valD 0 (l.take (rch isDg l))) || (decide (1 < rch isDg l) && decide ((l.getD 0 0).toNat = 48))) := rfl
  rw [hni]
  have hdl : (l.take (rch isDg l)).length = rch isDg l := by rw [List.length_take]; omega
  have hne : l.take (rch isDg l) ≠ [] := by intro e; rw [e] at hdl; simp at hdl; omega
  have had := take_dig l
  have hsl := sl_front l (rch isDg l) _ rfl hle
  have hg0 : (l.take (rch isDg l)).getD 0 0 = l.getD 0 0 := by
    match l, h0, hp with
    | a :: r, _, hp =>
      obtain ⟨m, hm⟩ : ∃ m, rch isDg (a :: r) = m + 1 := ⟨rch isDg (a :: r) - 1, by omega⟩
      rw [hm]
      rfl
  rw [← hg0]
  have HOK : Hid (valD 0 (l.take (rch isDg l)) < 9223372036854775808 → Calls Tryz.prog 99 #[.string (mkB (l.take (rch isDg l)))] w fun e w' => e = .returned (.tuple #[.int .i64 (valD 0 (l.take (rch isDg l))), .nilIface]) ∧ Below w.heap.size w w') := fun hv => atoi_ok _ w hne had (by omega) hv
  have HBG : Hid (¬ valD 0 (l.take (rch isDg l)) < 9223372036854775808 → Calls Tryz.prog 99 #[.string (mkB (l.take (rch isDg l)))] w fun e w' => ∃ (x : Int) (t : TypeId) (p : Value), e = .returned (.tuple #[.int .i64 x, .iface t p]) ∧ Below w.heap.size w w') := fun hv => atoi_big _ w hne had (by omega) hv hr
  clear hni had hc hr hg0 hne
  generalize rch isDg l = k at *
  have hk1 : (k : Int) ≤ (l.length : Int) := by omega
  have hszl : (mkB l).size = l.length := mk_size l
  generalize hds : l.take k = ds at *
  have hsd : (mkB ds).size = k := by rw [mk_size, hdl]
  have hs0 : 0 < (mkB ds).size := by omega
  have hgd := mk_get ds 0 hs0
  have hq := c_eq (ds.getD 0 0) 48
  generalize ds.getD 0 0 = c0 at *
  have hq' : ((c0.toNat : Int) == 48) = decide (c0.toNat = 48) := hq
  generalize decide (c0.toNat = 48) = b3 at *
  generalize valD 0 ds = V at *
  clear hq hds hdl
  by_cases hv : V < 9223372036854775808
  · have HA : Hid (Calls Tryz.prog 99 #[.string (mkB ds)] w fun e w' => e = .returned (.tuple #[.int .i64 V, .nilIface]) ∧ Below w.heap.size w w') := HOK.out hv
    clear HOK HBG
    by_cases h1 : 9007199254740991 < V
    · have h1i : (9007199254740991 : Int) < (V : Int) := by omega
      rw [show decide (9007199254740991 < V) = true from by simpa using h1, Bool.true_or]
      clear h1 hv
      go_enter Tryz.func96, Tryz.ntmps96
      go_wp2_with fail
      refine (HR.out _).mono ?_
      rintro e w' ⟨rfl, rfl⟩
      go_wp2_with fail
      refine HA.out.mono ?_
      rintro e w1 ⟨rfl, hb⟩
      have B1 : Hid (Below _ _ w1) := hb
      clear hb
      go_wp2
      go_ret
      exact ⟨rfl, B1.out⟩
    · have h1i : (V : Int) ≤ 9007199254740991 := by omega
      have h1d : decide ((9007199254740991 : Int) < (V : Int)) = false := by simp; omega
      rw [show decide (9007199254740991 < V) = false from by simpa using h1, Bool.false_or]
      clear h1 hv
      by_cases h2 : 1 < k
      · have h2i : (1 : Int) < (k : Int) := by omega
        rw [show decide (1 < k) = true from by simpa using h2, Bool.true_and]
        clear h2
        go_enter Tryz.func96, Tryz.ntmps96
        go_wp2_with fail
        refine (HR.out _).mono ?_
        rintro e w' ⟨rfl, rfl⟩
        go_wp2_with fail
        refine HA.out.mono ?_
        rintro e w1 ⟨rfl, hb⟩
        have B1 : Hid (Below _ _ w1) := hb
        clear hb
        go_wp2
        go_ret
        exact ⟨rfl, B1.out⟩
      · have h2i : (k : Int) ≤ 1 := by omega
        rw [show decide (1 < k) = false from by simpa using h2, Bool.false_and]
        clear h2
        go_enter Tryz.func96, Tryz.ntmps96
        go_wp2_with fail
        refine (HR.out _).mono ?_
        rintro e w' ⟨rfl, rfl⟩
        go_wp2_with fail
        refine HA.out.mono ?_
        rintro e w1 ⟨rfl, hb⟩
        have B1 : Hid (Below _ _ w1) := hb
        clear hb
        go_wp2
        go_ret
        exact ⟨rfl, B1.out⟩
  · have HA : Hid (Calls Tryz.prog 99 #[.string (mkB ds)] w fun e w' => ∃ (x : Int) (t : TypeId) (p : Value), e = .returned (.tuple #[.int .i64 x, .iface t p]) ∧ Below w.heap.size w w') := HBG.out hv
    rw [show decide (9007199254740991 < V) = true from by simp; omega, Bool.true_or]
    clear HOK HBG hv
    go_enter Tryz.func96, Tryz.ntmps96
    go_wp2_with fail
    refine (HR.out _).mono ?_
    rintro e w' ⟨rfl, rfl⟩
    go_wp2_with fail
    refine HA.out.mono ?_
    rintro e w1 ⟨x, t, p, rfl, hb⟩
    have B1 : Hid (Below _ _ w1) := hb
    clear hb
    go_wp2
    go_ret
    exact ⟨rfl, B1.out⟩
end Go.Proofs.YtcaeeackccgclaaGreatDoor

/- The splitter in memory, and its small methods. -/
namespace Go.Proofs.YtcaeeackccgclaaGreatDoor
open Go.RowKit Go.Shelf

def tc (t : Tk) : List Value := [.int .i64 t.kind, .string (mkB t.text), .int .i64 t.num, .int .i64 t.pos]
def tcs (l : List Tk) : List Value := l.flatMap tc
theorem tcs_len (l : List Tk) : (tcs l).length = l.length * 4 := by
  induction l with
  | nil => rfl
  | cons a r ih =>
    show (tc a ++ tcs r).length = _
    rw [List.length_append, ih, List.length_cons, show (tc a).length = 4 from rfl]
    omega
theorem tcs_snoc (l : List Tk) (t : Tk) : tcs (l ++ [t]) = tcs l ++ tc t := by simp [tcs]
def ics (l : List Nat) : List Value := l.map fun n : Nat => .int .i64 (n : Int)
theorem ics_snoc (l : List Nat) (x : Nat) : ics (l ++ [x]) = ics l ++ [.int .i64 x] := by simp [ics]

/-- The splitter p of the source L lies in block P. -/
structure TS (B P : Nat) (L : List UInt8) (tv iv : Value) (w : World) (p : Sp) : Prop where
  hB : B ≤ P
  blk : w.heap[P]? = some (.cells #[.string (mkB L), .int .i64 p.pos, tv, iv, .int .i64 p.opn] 72 (0, 0))
  ot : w.ownsRow B 84 4 tv p.toks.length (tcs p.toks)
  oi : w.ownsRow B 3 1 iv p.ins.length (ics p.ins.reverse)
  nt : tv.ownBlock ≠ some P
  ni : iv.ownBlock ≠ some P
  nn : ∀ a, tv.ownBlock = some a → iv.ownBlock ≠ some a
theorem own_heap {w w' : World} {base : Nat} {e : TypeId} {size : Nat} {v : Value} {n : Nat} {xs : List Value} (h : w.ownsRow base e size v n xs) (hh : ∀ g, v.ownBlock = some g → w'.heap[g]? = w.heap[g]?) : w'.ownsRow base e size v n xs := by
  refine ⟨h.1, ?_⟩
  rcases h.2 with hn | ⟨g, cap, cur, rfl, hb, hgg, rest⟩
  · exact .inl hn
  · exact .inr ⟨g, cap, cur, rfl, hb, (hh g rfl).trans hgg, rest⟩
section
variable {B P : Nat} {L : List UInt8} {tv iv : Value} {w : World} {p : Sp}
theorem TS.lt (h : TS B P L tv iv w p) : P < w.heap.size := (Array.getElem?_eq_some_iff.1 h.blk).1
theorem TS.c0 (h : TS B P L tv iv w p) : w.cell? ⟨P, 0, none⟩ = some (.string (mkB L)) := by rw [Lib.cell_of_heap h.blk]; rfl
theorem TS.c1 (h : TS B P L tv iv w p) : w.cell? ⟨P, 1, none⟩ = some (.int .i64 p.pos) := by rw [Lib.cell_of_heap h.blk]; rfl
theorem TS.c2 (h : TS B P L tv iv w p) : w.cell? ⟨P, 2, none⟩ = some tv := by rw [Lib.cell_of_heap h.blk]; rfl
theorem TS.c3 (h : TS B P L tv iv w p) : w.cell? ⟨P, 3, none⟩ = some iv := by rw [Lib.cell_of_heap h.blk]; rfl
theorem TS.c4 (h : TS B P L tv iv w p) : w.cell? ⟨P, 4, none⟩ = some (.int .i64 p.opn) := by rw [Lib.cell_of_heap h.blk]; rfl
theorem TS.fz (h : TS B P L tv iv w p) (i : Nat) : w.frozen? ⟨P, i, none⟩ = false := Lib.frozen_of_heap h.blk i
/-- Nothing but the tape has turned, or what lies in other blocks. -/
theorem TS.keep (h : TS B P L tv iv w p) {w' : World} (hh : ∀ g, g < w.heap.size → B ≤ g → w'.heap[g]? = w.heap[g]?) : TS B P L tv iv w' p :=
  ⟨h.hB, (hh P h.lt h.hB).trans h.blk, own_heap h.ot fun g hg => hh g (h.ot.lt g hg).2 (h.ot.lt g hg).1, own_heap h.oi fun g hg => hh g (h.oi.lt g hg).2 (h.oi.lt g hg).1, h.nt, h.ni, h.nn⟩
theorem TS.drewN (h : TS B P L tv iv w p) (n : Nat) : TS B P L tv iv (w.drewN n) p := h.keep fun _ _ _ => rfl
theorem TS.up (h : TS B P L tv iv w p) {w' : World} (hb : Below w.heap.size w w') : TS B P L tv iv w' p := h.keep fun g hg _ => hb.block g hg
/-- One of its cells is written. -/
theorem TS.set (h : TS B P L tv iv w p) (i : Nat) (v : Value) {tv' iv' : Value} {q : Sp} (hc : (#[.string (mkB L), .int .i64 p.pos, tv, iv, .int .i64 p.opn] : Array Value).setIfInBounds i v = #[.string (mkB L), .int .i64 q.pos, tv', iv', .int .i64 q.opn])
    (ht : w.ownsRow B 84 4 tv' q.toks.length (tcs q.toks)) (hi : w.ownsRow B 3 1 iv' q.ins.length (ics q.ins.reverse)) (nt : tv'.ownBlock ≠ some P) (ni : iv'.ownBlock ≠ some P) (nn : ∀ a, tv'.ownBlock = some a → iv'.ownBlock ≠ some a)
    {w' : World} (hw : ∀ g : Nat, w'.heap[g]? = (w.setCell ⟨P, i, none⟩ v).heap[g]?) : TS B P L tv' iv' w' q := by
  have k : ∀ g : Nat, g ≠ P → w'.heap[g]? = w.heap[g]? := fun g hg => (hw g).trans (Below.heap_setCell w ⟨P, i, none⟩ v g hg)
  refine ⟨h.hB, ?_, own_heap ht fun g hg => k g fun e => nt (by rw [hg, e]), own_heap hi fun g hg => k g fun e => ni (by rw [hg, e]), nt, ni, nn⟩
  rw [hw P, Go.Joins.block_setCell h.blk, hc]
theorem TS.setPos (h : TS B P L tv iv w p) (x : Nat) {w' : World} (hw : ∀ g : Nat, w'.heap[g]? = (w.setCell ⟨P, 1, none⟩ (.int .i64 x)).heap[g]?) : TS B P L tv iv w' { p with pos := x } :=
  h.set 1 (.int .i64 x) (q := { p with pos := x }) rfl h.ot h.oi h.nt h.ni h.nn hw
theorem TS.setOpn (h : TS B P L tv iv w p) (x : Nat) {w' : World} (hw : ∀ g : Nat, w'.heap[g]? = (w.setCell ⟨P, 4, none⟩ (.int .i64 x)).heap[g]?) : TS B P L tv iv w' { p with opn := x } :=
  h.set 4 (.int .i64 x) (q := { p with opn := x }) rfl h.ot h.oi h.nt h.ni h.nn hw
end

theorem at_drop (L : List UInt8) (k : Nat) : (L.drop k).getD 0 0 = L.getD k 0 := by
  rw [List.getD_eq_getElem?_getD, List.getD_eq_getElem?_getD, List.getElem?_drop, Nat.add_zero]

set_option maxHeartbeats 1000000 in
theorem ended_any {B P : Nat} {L : List UInt8} {tv iv : Value} {w : World} {p : Sp} (h : TS B P L tv iv w p) :
    Calls Tryz.prog 41 #[.pointer (some ⟨P, 0, none⟩)] w fun e w' => e = .returned (.bool (decide (p.pos = L.length))) ∧ ∃ n, w' = w.drewN n := by
  have c0 := h.c0
  have c1 := h.c1
  have hsz := mk_size L
  have hq : ((p.pos : Int) == (L.length : Int)) = decide (p.pos = L.length) := by rw [Bool.eq_iff_iff]; simp; omega
  generalize decide (p.pos = L.length) = b at *
  clear h
  go_enter Tryz.func41, Tryz.ntmps41
  go_wp2
  go_region
  all_goals go_wp2
  all_goals
    go_ret
    exact ⟨rfl, 1, rfl⟩

set_option maxHeartbeats 1000000 in
theorem rest_any {B P : Nat} {L : List UInt8} {tv iv : Value} {w : World} {p : Sp} (h : TS B P L tv iv w p) (hp : p.pos ≤ L.length) :
    Calls Tryz.prog 92 #[.pointer (some ⟨P, 0, none⟩)] w fun e w' => e = .returned (.string (mkB (L.drop p.pos))) ∧ ∃ n, w' = w.drewN n := by
  have c0 := h.c0
  have c1 := h.c1
  have hsl := sl_back L p.pos _ rfl hp
  have hsz := mk_size L
  have hpi : (p.pos : Int) ≤ (L.length : Int) := by omega
  generalize mkB (L.drop p.pos) = r at *
  clear h
  go_enter Tryz.func92, Tryz.ntmps92
  go_wp2
  go_region
  all_goals go_wp2
  all_goals
    go_ret
    exact ⟨rfl, 1, rfl⟩

set_option maxHeartbeats 2000000 in
theorem sees_any {B P : Nat} {L : List UInt8} {tv iv : Value} {w : World} {p : Sp} (h : TS B P L tv iv w p) (hp : p.pos ≤ L.length) (c : Nat) (hc : c ≠ 0) :
    Calls Tryz.prog 61 #[.pointer (some ⟨P, 0, none⟩), .int .u8 c] w fun e w' => e = .returned (.bool (decide ((L.getD p.pos 0).toNat = c))) ∧ ∃ n, w' = w.drewN n := by
  have HE : Hid (∀ n, Calls Tryz.prog 41 #[.pointer (some ⟨P, 0, none⟩)] (w.drewN n) fun e w' => e = .returned (.bool (decide (p.pos = L.length))) ∧ ∃ m, w' = (w.drewN n).drewN m) := fun n => ended_any (h.drewN n)
  have c0 := h.c0
  have c1 := h.c1
  have hsz := mk_size L
  by_cases he : p.pos = L.length
  · have hb : decide ((L.getD p.pos 0).toNat = c) = false := by
      rw [List.getD_eq_getElem?_getD, List.getElem?_eq_none (by omega)]
      simp
      exact fun e => hc e.symm
    rw [hb]
    rw [show decide (p.pos = L.length) = true from by simpa using he] at HE
    clear h he hb
    go_enter Tryz.func61, Tryz.ntmps61
    go_wp2
    go_quiet ((go_at_call 41; exact Calls.quiet_of (HE.out _)))
    go_wp2
    go_ret
    exact ⟨rfl, nq, rfl⟩
  · rw [show decide (p.pos = L.length) = false from by simpa using he] at HE
    have hlt : p.pos < L.length := by omega
    have hpi : (p.pos : Int) < (L.length : Int) := by omega
    have hs0 : p.pos < (mkB L).size := by rw [hsz]; exact hlt
    have hg := mk_get L p.pos hs0
    have hq := c_eq (L.getD p.pos 0) c
    generalize decide ((L.getD p.pos 0).toNat = c) = b at *
    generalize L.getD p.pos 0 = x at *
    generalize p.pos = k at *
    clear h he
    go_enter Tryz.func61, Tryz.ntmps61
    go_wp2
    go_quiet ((go_at_call 41; exact Calls.quiet_of (HE.out _)))
    go_wp2
    go_ret
    exact ⟨rfl, nq, rfl⟩

theorem Sp.top_at (p : Sp) (h : 0 < p.ins.length) : (ics p.ins.reverse)[p.ins.length - 1]? = some (.int .i64 (p.top : Nat)) := by
  match hp : p.ins, h with
  | a :: r, _ =>
    have : p.top = a := by unfold Sp.top; rw [hp]; rfl
    rw [this]
    simp [ics]

set_option maxHeartbeats 1000000 in
theorem in_any {B P : Nat} {L : List UInt8} {tv iv : Value} {w : World} {p : Sp} (h : TS B P L tv iv w p) (h0 : 0 < p.ins.length) (h1 : p.ins.length ≤ 1000000) :
    Calls Tryz.prog 64 #[.pointer (some ⟨P, 0, none⟩)] w fun e w' => e = .returned (.int .i64 p.top) ∧ ∃ n, w' = w.drewN n := by
  have c3 := h.c3
  obtain ⟨g, cap, hv, hg1, hg2⟩ := h.oi.form h0
  subst hv
  have cx : w.cell? ⟨g, p.ins.length - 1, none⟩ = some (.int .i64 (p.top : Nat)) := (h.oi.cellAt (p.ins.length - 1) (by omega)).trans (p.top_at h0)
  generalize p.top = x at *
  generalize p.ins.length = n at *
  obtain ⟨m, rfl⟩ : ∃ m, n = m + 1 := ⟨n - 1, by omega⟩
  rw [Nat.add_sub_cancel] at cx
  have j0 : (((m + 1 : Nat) : Int) - 1) = (m : Int) := by omega
  have j1 : IntKind.i64.wrap (((m + 1 : Nat) : Int) - 1) = (m : Int) := by rw [IntKind.wrap_i64]; omega
  have j2 : (0 : Int) ≤ (m : Int) := by omega
  have j3 : (m : Int) < ((m + 1 : Nat) : Int) := by omega
  clear h
  go_enter Tryz.func64, Tryz.ntmps64
  go_wp2
  go_region
  all_goals go_wp2
  all_goals
    go_ret
    exact ⟨rfl, 1, rfl⟩

/-- A fault, as it is thrown. -/
abbrev PF (k : Int) (x : Nat) : Ending := .panicked [{ v := .iface 25 (.agg #[.int .i64 k, .int .i64 x]), recovered := false }]

set_option maxHeartbeats 1000000 in
theorem giveUp_any {B P : Nat} {L : List UInt8} {tv iv : Value} {w : World} {p : Sp} (h : TS B P L tv iv w p) (k : Int) :
    Calls Tryz.prog 65 #[.pointer (some ⟨P, 0, none⟩), .int .i64 k] w fun e w' => e = PF k p.pos ∧ w' = w := by
  have c1 := h.c1
  generalize p.pos = x at *
  clear h
  go_enter Tryz.func65, Tryz.ntmps65
  go_wp2
  exact ⟨rfl, rfl, rfl⟩

theorem infT : (Tryz.prog.info? 84).map (fun i => (i.zero, i.size, i.bytes)) = some (some (.agg #[.int .i64 0, .string ⟨#[]⟩, .int .i64 0, .int .i64 0]), 4, 40) := by kernel_rfl
theorem infI : (Tryz.prog.info? 3).map (fun i => (i.zero, i.size, i.bytes)) = some (some (.int .i64 0), 1, 8) := by kernel_rfl
theorem info_p {i : Option TypeInfo} {z : Value} {s b : Nat} (h : i.map (fun i => (i.zero, i.size, i.bytes)) = some (some z, s, b)) : ∃ i0, i = some i0 ∧ i0.zero = some z ∧ i0.size = s ∧ i0.bytes = b := by
  match i, h with
  | some i0, h =>
    simp at h
    exact ⟨i0, rfl, h.1, h.2.1, h.2.2⟩
theorem al_at (W : World) (b : Nat) (cs : Array Value) (ty : TypeId) (k : Nat) (v : Value) (hb : b = W.heap.size) (hv : cs[k]? = some v) : (W.alloc (.cells cs ty)).cell? ⟨b, k, none⟩ = some v := by
  subst hb
  rw [Lib.cell_of_heap (heap_alloc_new W _)]
  exact hv
theorem add0 (g j : Nat) : (⟨g, 0, none⟩ : Addr).add j = ⟨g, j, none⟩ := by
  unfold Addr.add
  split <;> simp_all
theorem bl_al {a w : World} {B : Nat} (h : Below B a w) (hB : B ≤ w.heap.size) (o : Obj) : Below B a (w.alloc o) := h.alloc hB o
/-- A token's cells, in a block of its own. -/
theorem new_tok (W : World) (t : Tk) : ∀ (j : Nat) (u : Value), (tc t)[j]? = some u → (W.alloc (.cells #[.int .i64 t.kind, .string (mkB t.text), .int .i64 t.num, .int .i64 t.pos] 84)).cell? ((⟨W.heap.size, 0, none⟩ : Addr).add j) = some u := by
  intro j u hj
  rw [add0]
  have hj4 : j < 4 := by
    have := (List.getElem?_eq_some_iff.1 hj).1
    exact this
  refine al_at W _ _ _ j u rfl ?_
  match j, hj4, hj with
  | 0, _, hj => exact hj
  | 1, _, hj => exact hj
  | 2, _, hj => exact hj
  | 3, _, hj => exact hj
theorem tc_one (t : Tk) : ∀ u ∈ tc t, u.oneCell' = true := by
  intro u hu
  simp [tc] at hu
  rcases hu with rfl | rfl | rfl | rfl <;> rfl
/-- Behind an append to the tokens: the splitter with one token more, once its cell is written. -/
theorem TS.put {B P : Nat} {L : List UInt8} {tv iv : Value} {w : World} {p : Sp} (h : TS B P L tv iv w p) (t : Tk) {W w1 w' : World} (hW : ∀ g : Nat, g < w.heap.size → W.heap[g]? = w.heap[g]?) (hWs : w.heap.size < W.heap.size) {g1 cap1 : Nat}
    (hown : w1.ownsRow B 84 4 (.slice (some ⟨g1, 0, none⟩) (p.toks.length + 1) cap1) (p.toks.length + 1) (tcs p.toks ++ tc t)) (hgrow : W.grownBy w1 tv.ownBlock) (hat : tv.ownBlock = some g1 ∨ g1 = W.heap.size)
    (hw : ∀ g : Nat, w'.heap[g]? = (w1.setCell ⟨P, 2, none⟩ (.slice (some ⟨g1, 0, none⟩) (p.toks.length + 1) cap1)).heap[g]?) : TS B P L (.slice (some ⟨g1, 0, none⟩) (p.toks.length + 1) cap1) iv w' { p with toks := p.toks ++ [t] } := by
  have hP := h.lt
  have hgP : g1 ≠ P := by
    rcases hat with e | e
    · exact fun e2 => h.nt (by rw [e, e2])
    · omega
  have hgi : iv.ownBlock ≠ some g1 := by
    rcases hat with e | e
    · exact h.nn g1 e
    · intro e2
      have := (h.oi.lt g1 e2).2
      omega
  have hb : w1.heap[P]? = w.heap[P]? := (hgrow.block P (by omega) (fun e => h.nt e.symm)).trans (hW P hP)
  have hoi : w1.ownsRow B 3 1 iv p.ins.length (ics p.ins.reverse) := own_heap h.oi fun g hg => (hgrow.block g (by have := (h.oi.lt g hg).2; omega) (fun e => h.nn g e.symm hg)).trans (hW g (h.oi.lt g hg).2)
  have k : ∀ g : Nat, g ≠ P → w'.heap[g]? = w1.heap[g]? := fun g hg => (hw g).trans (Below.heap_setCell w1 ⟨P, 2, none⟩ _ g hg)
  have e4 : (p.toks ++ [t]).length = p.toks.length + 1 := by simp
  refine ⟨h.hB, ?_, ?_, own_heap hoi fun g hg => k g fun e => h.ni (by rw [hg, e]), ?_, h.ni, ?_⟩
  · rw [hw P, Go.Joins.block_setCell (hb.trans h.blk)]
    rfl
  · show w'.ownsRow _ _ _ _ (p.toks ++ [t]).length (tcs (p.toks ++ [t]))
    rw [e4, tcs_snoc]
    exact own_heap hown fun g hg => k g (by simp [Value.ownBlock] at hg; subst hg; exact hgP)
  · simp [Value.ownBlock]
    exact hgP
  · intro a ha
    simp [Value.ownBlock] at ha
    subst ha
    exact hgi
end Go.Proofs.YtcaeeackccgclaaGreatDoor
