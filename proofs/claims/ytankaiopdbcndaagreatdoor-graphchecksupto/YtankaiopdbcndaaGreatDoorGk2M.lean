/- Places that are taken, in memory. -/
import Derived.Test.YtankaiopdbcndaaGreatDoorGk1M
import Derived.Test.YtankaiopdbcndaaGreatDoorGq4M
import Derived.Test.YtankaiopdbcndaaGreatDoorTc7
namespace Go.Proofs.YtankaiopdbcndaaGreatDoor
open Go.RowKit Go.Shelf Go.Maps Go.WideMaps
attribute [local go_sem ↓] appG_eq2
/-- Places: the files' paths as keys of a map, and what was taken as a row. -/
structure PS (P M : Nat) (F : List (List UInt8)) (T : List ByteArray) (v : Value) (w wr : World) : Prop where
  c : wr.heap[P]? = some (.cells #[.map (some M), v] 100 (0, 0))
  lm : LM M F wr
  row : wr.ownsRow w.heap.size 9 1 v T.length (T.map Value.string)
  bel : Below w.heap.size w wr
  lo : w.heap.size ≤ P
  loM : w.heap.size ≤ M
  ne : P ≠ M
section
variable {P M : Nat} {F : List (List UInt8)} {T : List ByteArray} {v : Value} {w wr : World}
theorem PS.below {wr2 : World} (h : PS P M F T v w wr) (hb : Below wr.heap.size wr wr2) : PS P M F T v w wr2 :=
  ⟨(hb.block _ (blk_lt h.c)).trans h.c, h.lm.keep (hb.block _ h.lm.lt), row_low2 h.row (fun g hg => hb.block g (h.row.lt g hg).2), h.bel.trans (hb.mono h.bel.size), h.lo, h.loM, h.ne⟩
theorem PS.tx (h : PS P M F T v w wr) (hl : T.length ≤ 1048576) : TxIn wr v T := row_tx (B := w.heap.size) h.row hl
theorem PS.nb (h : PS P M F T v w wr) : ∀ g, v.ownBlock = some g → g ≠ P ∧ g ≠ M := fun g hg => by
  obtain ⟨N, D, ⟨es, clock, hb, _⟩, _⟩ := h.lm
  rcases h.row.2 with ⟨e, _⟩ | ⟨g2, c, cur, e, _, hg2, _⟩
  · rw [e] at hg; cases hg
  · have e2 : g2 = g := by rw [e] at hg; simpa [Value.ownBlock] using hg
    subst e2
    refine ⟨fun e => ?_, fun e => ?_⟩
    · rw [e, h.c] at hg2; injection hg2 with hg2; injection hg2 with _ hg2; exact absurd hg2 (by decide)
    · rw [e, hb] at hg2; cases hg2
theorem PS.c0 (h : PS P M F T v w wr) : wr.cell? ⟨P, 0, none⟩ = some (.map (some M)) := by rw [Lib.cell_of_heap h.c]; rfl
theorem PS.c1 (h : PS P M F T v w wr) : wr.cell? ⟨P, 1, none⟩ = some v := by rw [Lib.cell_of_heap h.c]; rfl
theorem box_set1 {w : World} {b : Nat} {v0 v u : Value} {t : TypeId} (h : w.heap[b]? = some (.cells #[v0, v] t (0, 0))) : (w.setCell ⟨b, 1, none⟩ u).heap[b]? = some (.cells #[v0, u] t (0, 0)) := by
  simp [World.setCell, Array.getElem?_modify, h]
theorem set_ne1 {w : World} {b g : Nat} {u : Value} (hg : g ≠ b) : (w.setCell ⟨b, 1, none⟩ u).heap[g]? = w.heap[g]? := Below.heap_setCell w ⟨b, 1, none⟩ u g (fun e => hg (by first | exact e | exact e.symm))
/-- What else lay there lies there still. -/
def Kp (P : Nat) (v : Value) (w0 : World) (v' : Value) (w' : World) : Prop := w0.heap.size ≤ w'.heap.size ∧ ∀ b, b < w0.heap.size → b ≠ P → v.ownBlock ≠ some b → w'.heap[b]? = w0.heap[b]? ∧ v'.ownBlock ≠ some b
theorem Kp.refl (P : Nat) (v : Value) (w : World) : Kp P v w v w := ⟨Nat.le_refl _, fun _ _ _ h => ⟨rfl, h⟩⟩
theorem Kp.trans {P : Nat} {v v1 v2 : Value} {w0 w1 w2 : World} (h : Kp P v w0 v1 w1) (k : Kp P v1 w1 v2 w2) : Kp P v w0 v2 w2 := ⟨Nat.le_trans h.1 k.1, fun b h1 h2 h3 => by
  obtain ⟨a1, a2⟩ := h.2 b h1 h2 h3
  obtain ⟨b1, b2⟩ := k.2 b (Nat.lt_of_lt_of_le h1 h.1) h2 a2
  exact ⟨b1.trans a1, b2⟩⟩
theorem Kp.of_below {P : Nat} {v : Value} {w0 w1 : World} (h : Below w0.heap.size w0 w1) : Kp P v w0 v w1 := ⟨h.size, fun b h1 _ h3 => ⟨h.block b h1, h3⟩⟩
/-- One more is taken. -/
theorem PS.push (h : PS P M F T v w wr) (x : ByteArray) (hl : T.length ≤ 1048576) :
    ∃ (G C : Nat) (w1 : World), (appG #[23, 23] 23 #[v, .slice (some ⟨wr.heap.size, 0, none⟩) 1 1]).run Tryz.prog (wr.alloc (.cells #[.string x] 9)) = .ok (.slice (some ⟨G, 0, none⟩) (T.length + 1) C) w1 ∧ w1.cell? ⟨P, 1, none⟩ = some v ∧ w1.frozen? ⟨P, 1, none⟩ = false ∧
      PS P M F (T ++ [x]) (.slice (some ⟨G, 0, none⟩) (T.length + 1) C) w (w1.setCell ⟨P, 1, none⟩ (.slice (some ⟨G, 0, none⟩) (T.length + 1) C)) ∧ Kp P v wr (.slice (some ⟨G, 0, none⟩) (T.length + 1) C) (w1.setCell ⟨P, 1, none⟩ (.slice (some ⟨G, 0, none⟩) (T.length + 1) C)) := by
  have hne := h.nb
  obtain ⟨G, C, w1, r1, r2, r3, r4⟩ := row_app (out := T) h.row x h.bel.size (by omega)
  have el : (T ++ [x]).length = T.length + 1 := by simp
  rw [el] at r1 r2
  have hk : ∀ b, b < wr.heap.size → (∀ g, v.ownBlock = some g → g ≠ b) → w1.heap[b]? = wr.heap[b]? := fun b hb hn => r3.block b hb fun e => hn b e.symm rfl
  have k1 := (hk P (blk_lt h.c) fun g hg => (hne g hg).1).trans h.c
  have hG : ∀ b, b < wr.heap.size → (∀ g, v.ownBlock = some g → g ≠ b) → b ≠ G := fun b hb hn e => by
    rcases r4 with r4 | r4
    · exact hn G r4 e.symm
    · omega
  have hs : ∀ b, b ≠ P → (w1.setCell ⟨P, 1, none⟩ (.slice (some ⟨G, 0, none⟩) (T.length + 1) C)).heap[b]? = w1.heap[b]? := fun b hb => set_ne1 hb
  have hb1 : Below w.heap.size w w1 := h.bel.grown r3 h.bel.size (fun j hj => (h.row.lt j hj).1)
  refine ⟨G, C, w1, r1, by rw [Lib.cell_of_heap k1]; rfl, Lib.frozen_of_heap k1 1, ⟨box_set1 k1, ?_, ?_, hb1.setCell h.lo _, h.lo, h.loM, h.ne⟩, ?_, fun b hb1 hb2 hb3 => ⟨(hs b hb2).trans (hk b hb1 fun g hg e => hb3 (e ▸ hg)), fun e => ?_⟩⟩
  · exact (h.lm.keep (hk M h.lm.lt fun g hg => (hne g hg).2)).keep (hs M h.ne.symm)
  · rw [el]
    exact row_low2 r2 fun g hg => hs g fun e => by
      have e2 : G = g := by simpa [Value.ownBlock] using hg
      exact hG P (blk_lt h.c) (fun g2 hg2 => (hne g2 hg2).1) (by rw [e2, e])
  · have e : (w1.setCell ⟨P, 1, none⟩ (.slice (some ⟨G, 0, none⟩) (T.length + 1) C)).heap.size = w1.heap.size := by simp [World.setCell]
    rw [e]
    exact r3.size
  · have e2 : G = b := by simpa [Value.ownBlock] using e
    exact hG b hb1 (fun g2 hg2 e3 => hb3 (e3 ▸ hg2)) e2.symm
/-- One more file. -/
theorem PS.put (h : PS P M F T v w wr) (x : ByteArray) (hs : x.size ≤ maxLen) (hl : F.length ≤ 60) :
    ∃ w', (Instr.mapUpdate 86 (.map (some M)) (.string x) (.agg #[])).run Tryz.prog wr = .ok () w' ∧ PS P M (tl x :: F) T v w w' ∧ wr.grownBy w' (some M) := by
  have hne := h.nb
  obtain ⟨w', r1, r2, r3⟩ := h.lm.put x hs hl
  have hk : ∀ b, b < wr.heap.size → b ≠ M → w'.heap[b]? = wr.heap[b]? := fun b hb hbM => r3.block b hb fun e => hbM (by injection e)
  exact ⟨w', r1, ⟨(hk P (blk_lt h.c) h.ne).trans h.c, r2, row_low2 h.row fun g hg => hk g (h.row.lt g hg).2 (hne g hg).2, h.bel.grown r3 h.bel.size (fun j hj => by injection hj with hj; have := h.loM; omega), h.lo, h.loM, h.ne⟩, r3⟩
end

set_option maxHeartbeats 2000000 in
set_option maxRecDepth 100000 in
theorem isNoFile_any (P M : Nat) (F : List (List UInt8)) (T : List ByteArray) (v : Value) (x : ByteArray) (w wr : World) (h : PS P M F T v w wr) (hs : x.size ≤ maxLen) :
    Calls Tryz.prog 67 #[pt P, .string x] wr fun e w' => e = .returned (.bool (!decide (tl x ∈ F))) ∧ Below wr.heap.size wr w' := by
  have hlo := h.lm.look x hs (decide (tl x ∈ F)) (by simp)
  have c0 := h.c0
  have hb : Below wr.heap.size wr (wr.alloc (.cells #[] 89)) := (Below.refl _ wr).alloc (Nat.le_refl _) _
  clear h hs
  generalize (decide (tl x ∈ F)) = b at *
  unfold pt
  go_enter Tryz.func67, Tryz.ntmps67
  go_wp2
  go_ret
  exact ⟨rfl, hb⟩

set_option maxHeartbeats 2000000 in
set_option maxRecDepth 100000 in
theorem isNoPath_any (x : ByteArray) (w : World) (hm : MaxIs w) :
    Calls Tryz.prog 68 #[.string x] w fun e w' => e = .returned (.bool (!pathOk x)) ∧ Below w.heap.size w w' := by
  have HP := IsPath_any x w hm
  go_enter Tryz.func68, Tryz.ntmps68
  go_wp2_with fail
  refine HP.mono ?_
  rintro e w1 ⟨rfl, hb⟩
  go_wp2
  go_ret
  exact ⟨rfl, hb⟩

set_option maxHeartbeats 2000000 in
set_option maxRecDepth 100000 in
theorem take1_any (b : Nat) (x y : ByteArray) (w : World) (hc : w.cell? ⟨b, 0, none⟩ = some (.string x)) :
    Calls Tryz.prog 85 #[.string y, pt b] w fun e w' => e = .returned (.bool (meetB x y)) ∧ Below w.heap.size w w' := by
  have HP := Meets_any x y w
  unfold pt
  go_enter Tryz.func85, Tryz.ntmps85
  go_wp2_with fail
  refine HP.mono ?_
  rintro e w1 ⟨rfl, rfl⟩
  go_wp2
  go_ret
  exact ⟨rfl, Below.refl _ _⟩
end Go.Proofs.YtankaiopdbcndaaGreatDoor
