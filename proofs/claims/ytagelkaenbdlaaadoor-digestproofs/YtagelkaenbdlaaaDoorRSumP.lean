/- The document's own Sum: the text with its ending. -/
import Derived.Test.YtagelkaenbdlaaaDoorRSumD
import Derived.ArgAppend
import Derived.Laws.IdiomStrings
namespace Go.Proofs.YtagelkaenbdlaaaDoor
open Go.RowKit

/-- These bytes, at the head of a block from B on, with spare room that may be written. -/
def Bs (B : Nat) (w : World) (v : Value) (L : List UInt8) : Prop :=
  ∃ g cap, v = .slice (some ⟨g, 0, none⟩) L.length cap ∧ B ≤ g ∧ g < w.heap.size ∧ L.length ≤ cap ∧ PAt w g L ∧ ∀ j, L.length ≤ j → j < cap → (w.cell? ⟨g, j, none⟩).isSome = true ∧ w.frozen? ⟨g, j, none⟩ = false
theorem Bs.dr {B : Nat} {w : World} {v : Value} {L : List UInt8} (h : Bs B w v L) : Bs B w.drew v L := h
theorem Bs.al {B : Nat} {w : World} {v : Value} {L : List UInt8} (h : Bs B w v L) (o : Obj) : Bs B (w.alloc o) v L := by
  obtain ⟨g, cap, rfl, h1, h2, h3, h4, h5⟩ := h
  have hb := bl_al (Below.refl w.heap.size w) o
  have hc : ∀ j, (w.alloc o).cell? ⟨g, j, none⟩ = w.cell? ⟨g, j, none⟩ := fun j => hb.cell (p := ⟨g, j, none⟩) h2
  have hf : ∀ j, (w.alloc o).frozen? ⟨g, j, none⟩ = w.frozen? ⟨g, j, none⟩ := fun j => by
    unfold World.frozen?
    rw [show (w.alloc o).heap[(⟨g, j, none⟩ : Addr).block]? = w.heap[(⟨g, j, none⟩ : Addr).block]? from hb.block g h2]
  refine ⟨g, cap, rfl, h1, by rw [World.size_alloc]; omega, h3, h4.up hb h2, fun j a b => ?_⟩
  rw [hc, hf]
  exact h5 j a b
theorem bcsL_get (L : List UInt8) (j : Nat) (u : Value) (h : (bcs L)[j]? = some u) : j < L.length ∧ u = .int .u8 ((L.getD j 0).toNat : Nat) := by
  have hj : j < L.length := by
    have := (List.getElem?_eq_some_iff.1 h).1
    simpa [bcs] using this
  refine ⟨hj, ?_⟩
  rw [List.getD_eq_getElem?_getD, List.getElem?_eq_getElem hj]
  simp [bcs, hj] at h
  exact h.symm
theorem bcs_get (L : List UInt8) (j : Nat) (hj : j < L.length) : (bcs L)[j]? = some (.int .u8 ((L.getD j 0).toNat : Nat)) := by
  unfold bcs
  rw [List.getElem?_map, List.getD_eq_getElem?_getD, List.getElem?_eq_getElem hj]
  rfl
theorem getD_app (L : List UInt8) (c : UInt8) (j : Nat) : (L ++ [c]).getD j 0 = if j < L.length then L.getD j 0 else if j = L.length then c else 0 := by
  rw [List.getD_eq_getElem?_getD, List.getD_eq_getElem?_getD, List.getElem?_append]
  split
  · rfl
  · split
    · subst_vars; simp
    · rw [List.getElem?_eq_none (by simp; omega)]; rfl

/-- One byte more. -/
theorem run_append_bs (w ww : World) (ty : TypeId) (B : Nat) (v : Value) (L : List UInt8) (hbs : Bs B w v L) (hbl : Below B ww w) (ad : Addr) (c0 : Nat) (c : UInt8) (hc : w.cell? ad = some (.int .u8 (c.toNat : Nat))) (hlen : L.length + 1 ≤ 140737488355328) :
    ∃ v' w', (Builtin.append_ #[55, 55] ty #[v, .slice (some ad) 1 c0]).run Tryd.prog w = .ok v' w' ∧ Bs B w' v' (L ++ [c]) ∧ Below B ww w' := by
  obtain ⟨i0, hi, hz0, hz1, hz2⟩ := info_p infB
  obtain ⟨g, cap, rfl, hg1, hg2, hcap, hP, hS⟩ := hbs
  have hnews : ∀ j u, [Value.int .u8 (c.toNat : Nat)][j]? = some u → w.cell? (ad.add j) = some u := by
    intro j u hj
    match j, hj with
    | 0, hj => simp at hj; subst hj; simpa [Addr.add] using hc
  by_cases hr : L.length + 1 ≤ cap
  · have hrun := run_append_room_cells (P := Tryd.prog) w 55 ty 5 i0 Tryd.underlying55 hi g 0 L.length cap ad 1 c0 [.int .u8 (c.toNat : Nat)] (by rw [hz1]; rfl) hnews (by intro u hu; simp at hu; subst hu; rfl) hr (fun j hj => by rw [hz1]; simp at hj; subst hj; simpa using (hS L.length (Nat.le_refl _) (by omega)).1) (fun j hj => by rw [hz1]; simp at hj; subst hj; simpa using (hS L.length (Nat.le_refl _) (by omega)).2)
    refine ⟨_, _, hrun, ?_, ?_⟩
    · rw [hz1]
      have es : w.setCells g (0 + L.length * 1) [.int .u8 (c.toNat : Nat)] = w.setCell ⟨g, L.length, none⟩ (.int .u8 (c.toNat : Nat)) := by simp [World.setCells]
      rw [es]
      have hsame := World.cell?_setCell_same' w ⟨g, L.length, none⟩ (.int .u8 (c.toNat : Nat)) (hS L.length (Nat.le_refl _) (by omega)).1
      have hoth : ∀ j, j ≠ L.length → (w.setCell ⟨g, L.length, none⟩ (.int .u8 (c.toNat : Nat))).cell? ⟨g, j, none⟩ = w.cell? ⟨g, j, none⟩ := fun j hj => World.cell?_setCell_other w _ _ _ (by intro e; injection e with e1 e2; omega)
      refine ⟨g, cap, by simp, hg1, by simpa [World.setCell] using hg2, by simpa using hr, ?_, ?_⟩
      · intro j hj
        rw [getD_app]
        simp at hj
        by_cases h : j < L.length
        · rw [if_pos h, hoth j (by omega)]
          exact hP j h
        · obtain rfl : j = L.length := by omega
          rw [if_neg h, if_pos rfl]
          exact hsame
      · intro j h1 h2
        simp at h1
        rw [hoth j (by omega), World.frozen?_setCell]
        exact hS j (by omega) h2
    · rw [hz1]
      have es : w.setCells g (0 + L.length * 1) [.int .u8 (c.toNat : Nat)] = w.setCell ⟨g, L.length, none⟩ (.int .u8 (c.toNat : Nat)) := by simp [World.setCells]
      rw [es]
      exact hbl.setCell (p := ⟨g, L.length, none⟩) hg1 _
  · obtain ⟨v', w', hrun, hown, hgr⟩ := run_append_arg_grows (P := Tryd.prog) w 55 ty 5 i0 (.int .u8 0) 1 1 Tryd.underlying55 hi hz0 hz1 hz2 rfl (by decide) ⟨g, 0, none⟩ L.length cap (bcs L) (by simp [bcs]) (fun j u hj => by
        obtain ⟨h1, rfl⟩ := bcsL_get L j u hj
        rw [add0]
        exact hP j h1) ad 1 c0 [.int .u8 (c.toNat : Nat)] rfl hnews (by omega) (by unfold maxLen; omega) (by omega)
    refine ⟨v', w', hrun, ?_, hbl.grown hgr (by omega) (by intro k hk; cases hk)⟩
    rcases hown.2 with ⟨_, h0⟩ | ⟨g', cap', cur, hv, hb, hg, hn, hm, hcs, htk⟩
    · omega
    · subst hv
      refine ⟨g', cap', by simp, by omega, (Array.getElem?_eq_some_iff.1 hg).1, by simpa using hn, ?_, ?_⟩
      · intro j hj
        have hj' : j < L.length + 1 := by simpa using hj
        have hl := hown.cellAt j (by omega)
        rw [hl, show bcs L ++ [Value.int .u8 (c.toNat : Nat)] = bcs (L ++ [c]) from by simp [bcs]]
        exact bcs_get _ _ hj
      · intro j h1 h2
        refine ⟨?_, Lib.frozen_of_heap hg j⟩
        rw [Lib.cell_of_heap hg, Array.getElem?_eq_getElem (by omega)]
        rfl

theorem wpList_append_bs {ops : Array Oper} {rest : List Oper} {o : Oper} {a : Act} {Q : Exit → Act → World → Prop} (w ww : World) (hgd : o.guard = none) (s x : Operand)
    (ho : o.op = .call { callee := .builtin .append, args := #[s, x], argTypes := #[55, 55] }) (B : Nat) (v : Value) (L : List UInt8) (hs : a.eval s = v) (hbs : Bs B w v L) (hbl : Below B ww w)
    (ad : Addr) (c0 : Nat) (c : UInt8) (hx : a.eval x = .slice (some ad) 1 c0) (hc : w.cell? ad = some (.int .u8 (c.toNat : Nat))) (hlen : L.length + 1 ≤ 140737488355328)
    (h : ∀ v' w', Bs B w' v' (L ++ [c]) → Below B ww w' → wpList Tryd.prog ops Q rest (a.put o.dst v') w') : wpList Tryd.prog ops Q (o :: rest) a w := by
  obtain ⟨v', w', hr, h1, h2⟩ := run_append_bs w ww o.type B v L hbs hbl ad c0 c hc hlen
  refine wpList_plain hgd fun K hK => ?_
  unfold Oper.wp execOp
  simp only [ho, resolve, invoke, builtin, Sem.run_bind, Sem.run_pure, Result.andThen_ok, List.map_toArray, List.map_cons, List.map_nil, hs, hx, hr]
  exact hK _ _ (h v' w' h1 h2)

/-- A text's bytes, laid anew. -/
theorem bs_of_string (w : World) (s : ByteArray) : ∃ v W, (convert 9 55 (.string s)).run Tryd.prog w = .ok v W ∧ Bs w.heap.size W v s.data.toList ∧ Below w.heap.size w W := by
  have hr := run_bytes_of_string (P := Tryd.prog) w 9 55 5 s Tryd.underlying9 Tryd.underlying55 Tryd.underlying5
  have hge := grownCap_ge w s.size 0 5
  generalize grownCap w s.size 0 5 = cap at hr hge
  have hsz : (bytesRow s cap).size = cap := by
    unfold bytesRow
    rw [Array.size_append, Array.size_map, Array.size_replicate]
    have : s.data.size = s.size := rfl
    omega
  have hl : s.data.toList.length = s.size := s_len s
  have hh : (w.drew.alloc (.cells (bytesRow s cap) 5 ((bytesRow s cap).size, (bytesRow s cap).size + 1))).heap[w.heap.size]? = some (.cells (bytesRow s cap) 5 ((bytesRow s cap).size, (bytesRow s cap).size + 1)) := heap_alloc_new w.drew _
  have hcell : ∀ j, (w.drew.alloc (.cells (bytesRow s cap) 5 ((bytesRow s cap).size, (bytesRow s cap).size + 1))).cell? ⟨w.heap.size, j, none⟩ = (bytesRow s cap)[j]? := fun j => by
    unfold World.cell?
    simp only
    rw [hh]
    rfl
  refine ⟨_, _, hr, ⟨w.heap.size, cap, by rw [hl], Nat.le_refl _, (Array.getElem?_eq_some_iff.1 hh).1, by omega, ?_, ?_⟩, (Below.refl _ _).drew.alloc (Nat.le_refl _) _⟩
  · intro j hj
    rw [hcell]
    unfold bytesRow
    rw [Array.getElem?_append, if_pos (by rw [Array.size_map]; rw [hl] at hj; exact hj), Array.getElem?_map, ← Array.getElem?_toList, List.getElem?_eq_getElem hj, List.getD_eq_getElem?_getD, List.getElem?_eq_getElem hj]
    rfl
  · intro j h1 h2
    refine ⟨?_, ?_⟩
    · rw [hcell, Array.getElem?_eq_getElem (by omega)]
      rfl
    · unfold World.frozen?
      simp only
      rw [hh]
      simp
      omega
end Go.Proofs.YtagelkaenbdlaaaDoor
