/- A walk that looks for a circle: what lies in memory on the way. -/
import Derived.Test.YtankaiopdbcndaaGreatDoorGq3M
import Derived.Test.YtankaiopdbcndaaGreatDoorTc7
namespace Go.Proofs.YtankaiopdbcndaaGreatDoor
open Go.RowKit Go.Shelf Go.Maps Go.WideMaps
/-- While one walks, in memory: the way, those that were left, and the five boxes. -/
structure CS (gz : Nat) (oz : Obj) (b1 b2 b3 b4 b5 M ML : Nat) (nf : List UInt8 → List ByteArray) (U P F : List (List UInt8)) (pv : Value) (w wr : World) : Prop where
  ci : CI (ndT nf) U P F
  c1 : wr.heap[b1]? = some (.cells #[pv] 23 (0, 0))
  c2 : wr.heap[b2]? = some (.cells #[.slice none 0 0] 23 (0, 0))
  c3 : wr.heap[b3]? = some (.cells #[.map (some ML)] 86 (0, 0))
  c4 : wr.heap[b4]? = some (.cells #[.map (some M)] 53 (0, 0))
  c5 : wr.heap[b5]? = some (.cells #[.func (.func 55) #[] #[pt b1, pt b2, pt b3, pt b4, pt b5]] 57 (0, 0))
  row : wr.ownsRow w.heap.size 9 1 pv P.length ((P.map bN).map Value.string)
  lm : LM ML F wr
  bel : Below w.heap.size w wr
  n12 : b1 ≠ b2
  n13 : b1 ≠ b3
  n14 : b1 ≠ b4
  n15 : b1 ≠ b5
  m1 : b1 ≠ ML
  m2 : b2 ≠ ML
  m3 : b3 ≠ ML
  m4 : b4 ≠ ML
  m5 : b5 ≠ ML
  lo1 : w.heap.size ≤ b1
  lo2 : w.heap.size ≤ b2
  loM : w.heap.size ≤ ML
  pz : wr.heap[gz]? = some oz
  z1 : gz ≠ b1
  z2 : gz ≠ b2
  zM : gz ≠ ML
  zp : pv.ownBlock ≠ some gz
section
variable {gz : Nat} {oz : Obj} {b1 b2 b3 b4 b5 M ML : Nat} {nf : List UInt8 → List ByteArray} {U P F : List (List UInt8)} {pv : Value} {w wr : World}
theorem row_low2 {w w' : World} {B n sz : Nat} {e : TypeId} {v : Value} {xs : List Value} (h : w.ownsRow B e sz v n xs) (hk : ∀ g, v.ownBlock = some g → w'.heap[g]? = w.heap[g]?) : w'.ownsRow B e sz v n xs := by
  refine ⟨h.1, ?_⟩
  rcases h.2 with h2 | ⟨g, cap, cur, a, b, hg, r⟩
  · exact .inl h2
  · exact .inr ⟨g, cap, cur, a, b, (hk g (by rw [a]; rfl)).trans hg, r⟩
theorem blk_lt {w : World} {b : Nat} {o : Obj} (h : w.heap[b]? = some o) : b < w.heap.size := (Array.getElem?_eq_some_iff.1 h).1
theorem cell0 {w : World} {b : Nat} {v : Value} {t : TypeId} (h : w.heap[b]? = some (.cells #[v] t (0, 0))) : w.cell? ⟨b, 0, none⟩ = some v := by rw [Lib.cell_of_heap h]; rfl
theorem CS.below {wr2 : World} (h : CS gz oz b1 b2 b3 b4 b5 M ML nf U P F pv w wr) (hb : Below wr.heap.size wr wr2) : CS gz oz b1 b2 b3 b4 b5 M ML nf U P F pv w wr2 :=
  ⟨h.ci, (hb.block _ (blk_lt h.c1)).trans h.c1, (hb.block _ (blk_lt h.c2)).trans h.c2, (hb.block _ (blk_lt h.c3)).trans h.c3, (hb.block _ (blk_lt h.c4)).trans h.c4, (hb.block _ (blk_lt h.c5)).trans h.c5, row_low2 h.row (fun g hg => hb.block g (h.row.lt g hg).2), h.lm.keep (hb.block _ h.lm.lt), h.bel.trans (hb.mono h.bel.size), h.n12, h.n13, h.n14, h.n15, h.m1, h.m2, h.m3, h.m4, h.m5, h.lo1, h.lo2, h.loM, (hb.block _ (blk_lt h.pz)).trans h.pz, h.z1, h.z2, h.zM, h.zp⟩
theorem CS.tx (h : CS gz oz b1 b2 b3 b4 b5 M ML nf U P F pv w wr) (hU : U.length ≤ 60) : TxIn wr pv (P.map bN) := row_tx (B := w.heap.size) (by rw [List.length_map]; exact h.row) (by have := h.ci.len; rw [List.length_map]; omega)
theorem CS.ne (h : CS gz oz b1 b2 b3 b4 b5 M ML nf U P F pv w wr) : ∀ g, pv.ownBlock = some g → g ≠ b1 ∧ g ≠ b2 ∧ g ≠ b3 ∧ g ≠ b4 ∧ g ≠ b5 ∧ g ≠ ML := fun g hg => by
  obtain ⟨N, D, ⟨es, clock, hb, _⟩, _⟩ := h.lm
  rcases h.row.2 with ⟨e, _⟩ | ⟨g2, c, cur, e, _, hg2, _⟩
  · rw [e] at hg; cases hg
  · have e2 : g2 = g := by rw [e] at hg; simpa [Value.ownBlock] using hg
    subst e2
    refine ⟨fun e => ?_, fun e => ?_, fun e => ?_, fun e => ?_, fun e => ?_, fun e => ?_⟩
    · rw [e, h.c1] at hg2; injection hg2 with hg2; injection hg2 with _ hg2; exact absurd hg2 (by decide)
    · rw [e, h.c2] at hg2; injection hg2 with hg2; injection hg2 with _ hg2; exact absurd hg2 (by decide)
    · rw [e, h.c3] at hg2; injection hg2 with hg2; injection hg2 with _ hg2; exact absurd hg2 (by decide)
    · rw [e, h.c4] at hg2; injection hg2 with hg2; injection hg2 with _ hg2; exact absurd hg2 (by decide)
    · rw [e, h.c5] at hg2; injection hg2 with hg2; injection hg2 with _ hg2; exact absurd hg2 (by decide)
    · rw [e, hb] at hg2; cases hg2
theorem box_set {w : World} {b : Nat} {v u : Value} {t : TypeId} (h : w.heap[b]? = some (.cells #[v] t (0, 0))) : (w.setCell ⟨b, 0, none⟩ u).heap[b]? = some (.cells #[u] t (0, 0)) := by
  simp [World.setCell, Array.getElem?_modify, h]
theorem set_ne {w : World} {b g : Nat} {u : Value} (hg : g ≠ b) : (w.setCell ⟨b, 0, none⟩ u).heap[g]? = w.heap[g]? := Below.heap_setCell w ⟨b, 0, none⟩ u g (fun e => hg (by first | exact e | exact e.symm))
/-- One more on the way. -/
theorem CS.push (h : CS gz oz b1 b2 b3 b4 b5 M ML nf U P F pv w wr) (x : ByteArray) (hU : U.length ≤ 60) (hl : P ≠ [] → ∃ (hp : 0 < P.length), tl x ∈ ndT nf P[P.length - 1]) (hx : tl x ∉ P) (hxF : tl x ∉ F) (hxU : tl x ∈ U) :
    ∃ (G C : Nat) (w1 : World), (appG #[23, 23] 23 #[pv, .slice (some ⟨wr.heap.size, 0, none⟩) 1 1]).run Tryz.prog (wr.alloc (.cells #[.string x] 9)) = .ok (.slice (some ⟨G, 0, none⟩) (P.length + 1) C) w1 ∧ w1.cell? ⟨b1, 0, none⟩ = some pv ∧ w1.frozen? ⟨b1, 0, none⟩ = false ∧
      CS gz oz b1 b2 b3 b4 b5 M ML nf U (P ++ [tl x]) F (.slice (some ⟨G, 0, none⟩) (P.length + 1) C) w (w1.setCell ⟨b1, 0, none⟩ (.slice (some ⟨G, 0, none⟩) (P.length + 1) C)) := by
  have hne := h.ne
  have hlen := h.ci.len
  obtain ⟨G, C, w1, r1, r2, r3, r4⟩ := row_app (out := P.map bN) (by rw [List.length_map]; exact h.row) x h.bel.size (by rw [List.length_map]; omega)
  have el : (P.map bN ++ [x]).length = P.length + 1 := by simp
  rw [el] at r1 r2
  have hk : ∀ b, b < wr.heap.size → (∀ g, pv.ownBlock = some g → g ≠ b) → w1.heap[b]? = wr.heap[b]? := fun b hb hn => r3.block b hb fun e => hn b e.symm rfl
  have k1 := (hk b1 (blk_lt h.c1) fun g hg => (hne g hg).1).trans h.c1
  have hG : ∀ b, b < wr.heap.size → (∀ g, pv.ownBlock = some g → g ≠ b) → b ≠ G := fun b hb hn e => by
    rcases r4 with r4 | r4
    · exact hn G r4 e.symm
    · omega
  have hs : ∀ b, b ≠ b1 → (w1.setCell ⟨b1, 0, none⟩ (.slice (some ⟨G, 0, none⟩) (P.length + 1) C)).heap[b]? = w1.heap[b]? := fun b hb => set_ne hb
  have hci := h.ci.push hl hx hxF hxU
  have hb1 : Below w.heap.size w w1 := h.bel.grown r3 h.bel.size (fun j hj => (h.row.lt j hj).1)
  refine ⟨G, C, w1, r1, cell0 k1, Lib.frozen_of_heap k1 0, ⟨hci, box_set k1, ?_, ?_, ?_, ?_, ?_, ?_, hb1.setCell h.lo1 _, h.n12, h.n13, h.n14, h.n15, h.m1, h.m2, h.m3, h.m4, h.m5, h.lo1, h.lo2, h.loM, (hs gz h.z1).trans ((hk gz (blk_lt h.pz) fun g hg e => h.zp (e ▸ hg)).trans h.pz), h.z1, h.z2, h.zM, fun e => ?_⟩⟩
  · exact (hs b2 h.n12.symm).trans ((hk b2 (blk_lt h.c2) fun g hg => (hne g hg).2.1).trans h.c2)
  · exact (hs b3 h.n13.symm).trans ((hk b3 (blk_lt h.c3) fun g hg => (hne g hg).2.2.1).trans h.c3)
  · exact (hs b4 h.n14.symm).trans ((hk b4 (blk_lt h.c4) fun g hg => (hne g hg).2.2.2.1).trans h.c4)
  · exact (hs b5 h.n15.symm).trans ((hk b5 (blk_lt h.c5) fun g hg => (hne g hg).2.2.2.2.1).trans h.c5)
  · have hr : w1.ownsRow w.heap.size 9 1 (.slice (some ⟨G, 0, none⟩) (P.length + 1) C) (P ++ [tl x]).length (((P ++ [tl x]).map bN).map Value.string) := by
      rw [List.length_append, List.map_append, List.map_cons, List.map_nil, bN_tl]
      exact r2
    exact row_low2 hr fun g hg => hs g fun e => by
      have e2 : G = g := by simpa [Value.ownBlock] using hg
      exact hG b1 (blk_lt h.c1) (fun g2 hg2 => (hne g2 hg2).1) (by rw [e2, e])
  · exact (h.lm.keep (hk ML h.lm.lt fun g hg => (hne g hg).2.2.2.2.2)).keep (hs ML h.m1.symm)
  · have e2 : G = gz := by simpa [Value.ownBlock] using e
    exact hG gz (blk_lt h.pz) (fun g2 hg2 e3 => h.zp (e3 ▸ hg2)) e2.symm
/-- The last one on the way is left. -/
theorem CS.pop {x : ByteArray} {G C : Nat} (h : CS gz oz b1 b2 b3 b4 b5 M ML nf U (P ++ [tl x]) F (.slice (some ⟨G, 0, none⟩) (P.length + 1) C) w wr) (hU : U.length ≤ 60) (hs : x.size ≤ maxLen) (hn : ∀ y ∈ ndT nf (tl x), y ∈ F) :
    ∃ w', (Instr.mapUpdate 86 (.map (some ML)) (.string x) (.agg #[])).run Tryz.prog (wr.setCell ⟨b1, 0, none⟩ (.slice (some ⟨G, 0, none⟩) P.length C)) = .ok () w' ∧ CS gz oz b1 b2 b3 b4 b5 M ML nf U P (tl x :: F) (.slice (some ⟨G, 0, none⟩) P.length C) w w' := by
  have hne := h.ne G rfl
  have hlen := h.ci.len
  have hst : ∀ b, b ≠ b1 → (wr.setCell ⟨b1, 0, none⟩ (.slice (some ⟨G, 0, none⟩) P.length C)).heap[b]? = wr.heap[b]? := fun b hb => set_ne hb
  have hlm : LM ML F (wr.setCell ⟨b1, 0, none⟩ (.slice (some ⟨G, 0, none⟩) P.length C)) := h.lm.keep (hst ML h.m1.symm)
  obtain ⟨w', r1, r2, r3⟩ := hlm.put x hs (by simp at hlen; omega)
  have hsz : (wr.setCell ⟨b1, 0, none⟩ (.slice (some ⟨G, 0, none⟩) P.length C)).heap.size = wr.heap.size := by simp [World.setCell]
  have hk : ∀ b, b < wr.heap.size → b ≠ ML → w'.heap[b]? = (wr.setCell ⟨b1, 0, none⟩ (.slice (some ⟨G, 0, none⟩) P.length C)).heap[b]? := fun b hb hbM => r3.block b (by rw [hsz]; exact hb) fun e => hbM (by injection e)
  have hB : Below w.heap.size w (wr.setCell ⟨b1, 0, none⟩ (.slice (some ⟨G, 0, none⟩) P.length C)) := h.bel.setCell h.lo1 _
  refine ⟨w', r1, ⟨h.ci.pop hn, (hk b1 (blk_lt h.c1) h.m1).trans (box_set h.c1), (hk b2 (blk_lt h.c2) h.m2).trans ((hst b2 h.n12.symm).trans h.c2), (hk b3 (blk_lt h.c3) h.m3).trans ((hst b3 h.n13.symm).trans h.c3), (hk b4 (blk_lt h.c4) h.m4).trans ((hst b4 h.n14.symm).trans h.c4), (hk b5 (blk_lt h.c5) h.m5).trans ((hst b5 h.n15.symm).trans h.c5), ?_, r2, hB.grown r3 hB.size (fun j hj => by injection hj with hj; have := h.loM; omega), h.n12, h.n13, h.n14, h.n15, h.m1, h.m2, h.m3, h.m4, h.m5, h.lo1, h.lo2, h.loM, (hk gz (blk_lt h.pz) h.zM).trans ((hst gz h.z1).trans h.pz), h.z1, h.z2, h.zM, h.zp⟩⟩
  have hr := h.row
  rcases hr.2 with ⟨e, _⟩ | ⟨g, c, cur, e, hb, hg, hc1, hc2, hc3, hc4⟩
  · cases e
  · injection e with e1 _ e3
    injection e1 with e1
    injection e1 with e1
    subst e1 e3
    refine ⟨by simp, .inr ⟨G, C, cur, rfl, hb, ?_, by simp at hc1; omega, hc2, hc3, ?_⟩⟩
    · exact (hk G (h.row.lt G rfl).2 hne.2.2.2.2.2).trans ((hst G hne.1).trans hg)
    · have h4 := congrArg (List.take P.length) hc4
      rw [List.take_take] at h4
      simp only [Nat.mul_one] at h4 ⊢
      rw [show min P.length (P ++ [tl x]).length = P.length by simp] at h4
      rw [h4]
      simp
end
end Go.Proofs.YtankaiopdbcndaaGreatDoor
