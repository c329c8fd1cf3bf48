/- Circles, plain: a way on which one comes back; what was left leads to none. -/
import Derived.Deep.AppendLies
import Derived.ProofKit
import Derived.OpenShut
import Derived.ShutString
import Derived.ChangeOld
import Derived.SliceStrings
import Derived.Below
import Derived.Test.YtoccfkinnopnjaaDoorTie
import Derived.Test.YtoccfkinnopnjaaDoorCards
import Derived.Lay
import Derived.HandedShaped
import Derived.SevenTiedAt
import Derived.Stop.Joined
import Derived.Shelf.Vars
import Derived.Deep.DeepHandedRow
import Derived.Test.YtoccfkinnopnjaaDoorTr5
namespace Go.Proofs.YtoccfkinnopnjaaDoor
open Go.RowKit Go.Shelf Go.Maps
/-- Names, each with a link to the next one, the last one to the first one. -/
structure Cyc (nd : List UInt8 → List (List UInt8)) (c : List (List UInt8)) : Prop where
  ne : 0 < c.length
  nod : c.Nodup
  nx : ∀ i (hi : i < c.length), c[(i + 1) % c.length]'(Nat.mod_lt _ ne) ∈ nd c[i]
theorem Cyc.loop {nd : List UInt8 → List (List UInt8)} {c : List (List UInt8)} (h : Cyc nd c) : Rp nd (c[0]'h.ne) (c[0]'h.ne) := by
  have key : ∀ k (hk : k < c.length), c[k] = c[0]'h.ne ∨ Rp nd (c[0]'h.ne) c[k] := fun k hk => by
    induction k with
    | zero => exact .inl rfl
    | succ k ih =>
      have h1 := h.nx k (by omega)
      have e : (k + 1) % c.length = k + 1 := Nat.mod_eq_of_lt hk
      simp only [e] at h1
      rcases ih (by omega) with e2 | e2
      · rw [e2] at h1; exact .inr (Rs.base h1)
      · exact .inr (Rs.step e2 h1)
  have hp := h.ne
  have h1 := h.nx (c.length - 1) (by omega)
  have e : (c.length - 1 + 1) % c.length = 0 := by rw [Nat.sub_add_cancel hp, Nat.mod_self]
  simp only [e] at h1
  rcases key (c.length - 1) (by omega) with e2 | e2
  · rw [e2] at h1; exact Rs.base h1
  · exact Rs.step e2 h1
/-- While one walks: P is the way, F are left. -/
structure CI (nd : List UInt8 → List (List UInt8)) (U P F : List (List UInt8)) : Prop where
  pth : ∀ i (hi : i + 1 < P.length), P[i + 1] ∈ nd P[i]
  nodP : P.Nodup
  nodF : F.Nodup
  fin : ∀ k ∈ F, ∀ y ∈ nd k, y ∈ F
  acy : ∀ k ∈ F, ¬ Rp nd k k
  dis : ∀ k ∈ P, k ∉ F
  subP : ∀ k ∈ P, k ∈ U
  subF : ∀ k ∈ F, k ∈ U
section
variable {nd : List UInt8 → List (List UInt8)} {U P F : List (List UInt8)}
theorem CI.nil : CI nd U [] [] := ⟨fun i hi => by simp at hi, List.nodup_nil, List.nodup_nil, (fun k hk => by cases hk), (fun k hk => by cases hk), (fun k hk => by cases hk), (fun k hk => by cases hk), (fun k hk => by cases hk)⟩
theorem CI.len (h : CI nd U P F) : P.length + F.length ≤ U.length := by
  have := (List.nodup_append.2 ⟨h.nodP, h.nodF, fun a ha b hb e => h.dis a ha (e ▸ hb)⟩).length_le_of_subset (l₂ := U) fun k hk => (List.mem_append.1 hk).elim (h.subP k) (h.subF k)
  simpa using this
/-- One more on the way. -/
theorem CI.push (h : CI nd U P F) {x : List UInt8} (hl : P ≠ [] → ∃ (hp : 0 < P.length), x ∈ nd P[P.length - 1]) (hx : x ∉ P) (hxF : x ∉ F) (hU : x ∈ U) : CI nd U (P ++ [x]) F := by
  refine ⟨fun i hi => ?_, ?_, h.nodF, h.fin, h.acy, fun k hk => ?_, fun k hk => ?_, h.subF⟩
  · have hi2 : i + 1 < P.length + 1 := by simpa using hi
    by_cases hlt : i + 1 < P.length
    · rw [List.getElem_append_left hlt, List.getElem_append_left (by omega)]
      exact h.pth i hlt
    · have e : i + 1 = P.length := by omega
      obtain ⟨hp, hl2⟩ := hl (fun e2 => by rw [e2] at e; simp at e)
      have e2 : (P ++ [x])[i + 1] = x := by
        rw [List.getElem_append_right (by omega)]
        simp [e]
      rw [e2, List.getElem_append_left (by omega)]
      have e3 : P[i] = P[P.length - 1] := by congr 1; omega
      rw [e3]
      exact hl2
  · rw [List.nodup_append]
    exact ⟨h.nodP, by simp, fun a ha b hb e => hx (by rw [← List.mem_singleton.1 hb, ← e]; exact ha)⟩
  · rcases List.mem_append.1 hk with e | e
    · exact h.dis k e
    · rw [List.mem_singleton.1 e]; exact hxF
  · rcases List.mem_append.1 hk with e | e
    · exact h.subP k e
    · rw [List.mem_singleton.1 e]; exact hU
/-- The last one on the way is left. -/
theorem CI.pop {x : List UInt8} (h : CI nd U (P ++ [x]) F) (hn : ∀ y ∈ nd x, y ∈ F) : CI nd U P (x :: F) := by
  have hxF : x ∉ F := h.dis x (by simp)
  have hxU : x ∈ U := h.subP x (by simp)
  have hnP := List.nodup_append.1 h.nodP
  refine ⟨fun i hi => ?_, hnP.1, List.nodup_cons.2 ⟨hxF, h.nodF⟩, fun k hk y hy => ?_, fun k hk hr => ?_, fun k hk hm => ?_, fun k hk => h.subP k (List.mem_append_left _ hk), fun k hk => ?_⟩
  · have := h.pth i (by simp; omega)
    rw [List.getElem_append_left hi, List.getElem_append_left (by omega)] at this
    exact this
  · rcases List.mem_cons.1 hk with rfl | hk
    · exact List.mem_cons_of_mem _ (hn y hy)
    · exact List.mem_cons_of_mem _ (h.fin k hk y hy)
  · have hin : ∀ a, (∀ y ∈ nd a, y ∈ F) → ∀ b, Rp nd a b → b ∈ F := fun a ha b hb => hb (fun b => b ∈ F) ha h.fin
    rcases List.mem_cons.1 hk with rfl | hk
    · exact hxF (hin _ hn _ hr)
    · exact h.acy k hk hr
  · rcases List.mem_cons.1 hm with rfl | hm
    · exact hnP.2.2 k hk k (by simp) rfl
    · exact h.dis k (List.mem_append_left _ hk) hm
  · rcases List.mem_cons.1 hk with rfl | hk
    · exact hxU
    · exact h.subF k hk
/-- One comes back: from there on the way is a circle. -/
theorem CI.cyc (h : CI nd U P F) {j : Nat} (hj : j < P.length) (hl : P[j] ∈ nd (P[P.length - 1]'(by omega))) : Cyc nd (P.drop j) := by
  have hp : 0 < (P.drop j).length := by rw [List.length_drop]; omega
  refine ⟨hp, h.nodP.sublist (List.drop_sublist _ _), fun i hi => ?_⟩
  have hlen : (P.drop j).length = P.length - j := List.length_drop
  have hi2 : i < P.length - j := by omega
  by_cases hlt : i + 1 < P.length - j
  · have e : (i + 1) % (P.drop j).length = i + 1 := Nat.mod_eq_of_lt (by omega)
    simp only [e, List.getElem_drop]
    exact h.pth (j + i) (by omega)
  · have e : (i + 1) % (P.drop j).length = 0 := by rw [show i + 1 = (P.drop j).length by omega, Nat.mod_self]
    simp only [e, List.getElem_drop, Nat.add_zero]
    have e3 : P[j + i] = P[P.length - 1]'(by omega) := by congr 1; omega
    rw [e3]
    exact hl
end
end Go.Proofs.YtoccfkinnopnjaaDoor

/- A walk that looks for a circle: what lies in memory on the way. -/
namespace Go.Proofs.YtoccfkinnopnjaaDoor
open Go.RowKit Go.Shelf Go.Maps Go.WideMaps
/-- While one walks, in memory: the way, those that were left, and the five boxes. -/
structure CS (gz : Nat) (oz : Obj) (b1 b2 b3 b4 b5 M ML : Nat) (nf : List UInt8 → List ByteArray) (U P F : List (List UInt8)) (pv : Value) (w wr : World) : Prop where
  ci : CI (ndT nf) U P F
  c1 : wr.heap[b1]? = some (.cells #[pv] 24 (0, 0))
  c2 : wr.heap[b2]? = some (.cells #[.slice none 0 0] 24 (0, 0))
  c3 : wr.heap[b3]? = some (.cells #[.map (some ML)] 66 (0, 0))
  c4 : wr.heap[b4]? = some (.cells #[.map (some M)] 38 (0, 0))
  c5 : wr.heap[b5]? = some (.cells #[.func (.func 31) #[] #[pt b1, pt b2, pt b3, pt b4, pt b5]] 58 (0, 0))
  row : wr.ownsRow w.heap.size 9 1 pv P.length ((P.map bN).map Value.string)
  lm : LM ML F wr
  bel : Below w.heap.size w wr
  n12 : b1 ≠ b2
  n13 : b1 ≠ b3
  n14 : b1 ≠ b4
  n15 : b1 ≠ b5
  m1 : b1 ≠ ML
  m2 : b2 ≠ ML
  m3 : b3 ≠ ML
  m4 : b4 ≠ ML
  m5 : b5 ≠ ML
  lo1 : w.heap.size ≤ b1
  lo2 : w.heap.size ≤ b2
  loM : w.heap.size ≤ ML
  pz : wr.heap[gz]? = some oz
  z1 : gz ≠ b1
  z2 : gz ≠ b2
  zM : gz ≠ ML
  zp : pv.ownBlock ≠ some gz
section
variable {gz : Nat} {oz : Obj} {b1 b2 b3 b4 b5 M ML : Nat} {nf : List UInt8 → List ByteArray} {U P F : List (List UInt8)} {pv : Value} {w wr : World}
theorem row_low2 {w w' : World} {B n sz : Nat} {e : TypeId} {v : Value} {xs : List Value} (h : w.ownsRow B e sz v n xs) (hk : ∀ g, v.ownBlock = some g → w'.heap[g]? = w.heap[g]?) : w'.ownsRow B e sz v n xs := by
  refine ⟨h.1, ?_⟩
  rcases h.2 with h2 | ⟨g, cap, cur, a, b, hg, r⟩
  · exact .inl h2
  · exact .inr ⟨g, cap, cur, a, b, (hk g (by rw [a]; rfl)).trans hg, r⟩
theorem blk_lt {w : World} {b : Nat} {o : Obj} (h : w.heap[b]? = some o) : b < w.heap.size := (Array.getElem?_eq_some_iff.1 h).1
theorem cell0 {w : World} {b : Nat} {v : Value} {t : TypeId} (h : w.heap[b]? = some (.cells #[v] t (0, 0))) : w.cell? ⟨b, 0, none⟩ = some v := by rw [Lib.cell_of_heap h]; rfl
theorem CS.below {wr2 : World} (h : CS gz oz b1 b2 b3 b4 b5 M ML nf U P F pv w wr) (hb : Below wr.heap.size wr wr2) : CS gz oz b1 b2 b3 b4 b5 M ML nf U P F pv w wr2 :=
  ⟨h.ci, (hb.block _ (blk_lt h.c1)).trans h.c1, (hb.block _ (blk_lt h.c2)).trans h.c2, (hb.block _ (blk_lt h.c3)).trans h.c3, (hb.block _ (blk_lt h.c4)).trans h.c4, (hb.block _ (blk_lt h.c5)).trans h.c5, row_low2 h.row (fun g hg => hb.block g (h.row.lt g hg).2), h.lm.keep (hb.block _ h.lm.lt), h.bel.trans (hb.mono h.bel.size), h.n12, h.n13, h.n14, h.n15, h.m1, h.m2, h.m3, h.m4, h.m5, h.lo1, h.lo2, h.loM, (hb.block _ (blk_lt h.pz)).trans h.pz, h.z1, h.z2, h.zM, h.zp⟩
theorem CS.tx (h : CS gz oz b1 b2 b3 b4 b5 M ML nf U P F pv w wr) (hU : U.length ≤ 60) : TxIn wr pv (P.map bN) := row_tx (B := w.heap.size) (by rw [List.length_map]; exact h.row) (by have := h.ci.len; rw [List.length_map]; omega)
theorem CS.ne (h : CS gz oz b1 b2 b3 b4 b5 M ML nf U P F pv w wr) : ∀ g, pv.ownBlock = some g → g ≠ b1 ∧ g ≠ b2 ∧ g ≠ b3 ∧ g ≠ b4 ∧ g ≠ b5 ∧ g ≠ ML := fun g hg => by
  obtain ⟨N, D, ⟨es, clock, hb, _⟩, _⟩ := h.lm
  rcases h.row.2 with ⟨e, _⟩ | ⟨g2, c, cur, e, _, hg2, _⟩
  · rw [e] at hg; cases hg
  · have e2 : g2 = g := by rw [e] at hg; simpa [Value.ownBlock] using hg
    subst e2
    refine ⟨fun e => ?_, fun e => ?_, fun e => ?_, fun e => ?_, fun e => ?_, fun e => ?_⟩
    · rw [e, h.c1] at hg2; injection hg2 with hg2; injection hg2 with _ hg2; exact absurd hg2 (by decide)
    · rw [e, h.c2] at hg2; injection hg2 with hg2; injection hg2 with _ hg2; exact absurd hg2 (by decide)
    · rw [e, h.c3] at hg2; injection hg2 with hg2; injection hg2 with _ hg2; exact absurd hg2 (by decide)
    · rw [e, h.c4] at hg2; injection hg2 with hg2; injection hg2 with _ hg2; exact absurd hg2 (by decide)
    · rw [e, h.c5] at hg2; injection hg2 with hg2; injection hg2 with _ hg2; exact absurd hg2 (by decide)
    · rw [e, hb] at hg2; cases hg2
theorem box_set {w : World} {b : Nat} {v u : Value} {t : TypeId} (h : w.heap[b]? = some (.cells #[v] t (0, 0))) : (w.setCell ⟨b, 0, none⟩ u).heap[b]? = some (.cells #[u] t (0, 0)) := by
  simp [World.setCell, Array.getElem?_modify, h]
theorem set_ne {w : World} {b g : Nat} {u : Value} (hg : g ≠ b) : (w.setCell ⟨b, 0, none⟩ u).heap[g]? = w.heap[g]? := Below.heap_setCell w ⟨b, 0, none⟩ u g (fun e => hg (by first | exact e | exact e.symm))
/-- One more on the way. -/
theorem CS.push (h : CS gz oz b1 b2 b3 b4 b5 M ML nf U P F pv w wr) (x : ByteArray) (hU : U.length ≤ 60) (hl : P ≠ [] → ∃ (hp : 0 < P.length), tl x ∈ ndT nf P[P.length - 1]) (hx : tl x ∉ P) (hxF : tl x ∉ F) (hxU : tl x ∈ U) :
    ∃ (G C : Nat) (w1 : World), (appG #[24, 24] 24 #[pv, .slice (some ⟨wr.heap.size, 0, none⟩) 1 1]).run Tryd.prog (wr.alloc (.cells #[.string x] 9)) = .ok (.slice (some ⟨G, 0, none⟩) (P.length + 1) C) w1 ∧ w1.cell? ⟨b1, 0, none⟩ = some pv ∧ w1.frozen? ⟨b1, 0, none⟩ = false ∧
      CS gz oz b1 b2 b3 b4 b5 M ML nf U (P ++ [tl x]) F (.slice (some ⟨G, 0, none⟩) (P.length + 1) C) w (w1.setCell ⟨b1, 0, none⟩ (.slice (some ⟨G, 0, none⟩) (P.length + 1) C)) := by
  have hne := h.ne
  have hlen := h.ci.len
  obtain ⟨G, C, w1, r1, r2, r3, r4⟩ := row_app (out := P.map bN) (by rw [List.length_map]; exact h.row) x h.bel.size (by rw [List.length_map]; omega)
  have el : (P.map bN ++ [x]).length = P.length + 1 := by simp
  rw [el] at r1 r2
  have hk : ∀ b, b < wr.heap.size → (∀ g, pv.ownBlock = some g → g ≠ b) → w1.heap[b]? = wr.heap[b]? := fun b hb hn => r3.block b hb fun e => hn b e.symm rfl
  have k1 := (hk b1 (blk_lt h.c1) fun g hg => (hne g hg).1).trans h.c1
  have hG : ∀ b, b < wr.heap.size → (∀ g, pv.ownBlock = some g → g ≠ b) → b ≠ G := fun b hb hn e => by
    rcases r4 with r4 | r4
    · exact hn G r4 e.symm
    · omega
  have hs : ∀ b, b ≠ b1 → (w1.setCell ⟨b1, 0, none⟩ (.slice (some ⟨G, 0, none⟩) (P.length + 1) C)).heap[b]? = w1.heap[b]? := fun b hb => set_ne hb
  have hci := h.ci.push hl hx hxF hxU
  have hb1 : Below w.heap.size w w1 := h.bel.grown r3 h.bel.size (fun j hj => (h.row.lt j hj).1)
  refine ⟨G, C, w1, r1, cell0 k1, Lib.frozen_of_heap k1 0, ⟨hci, box_set k1, ?_, ?_, ?_, ?_, ?_, ?_, hb1.setCell h.lo1 _, h.n12, h.n13, h.n14, h.n15, h.m1, h.m2, h.m3, h.m4, h.m5, h.lo1, h.lo2, h.loM, (hs gz h.z1).trans ((hk gz (blk_lt h.pz) fun g hg e => h.zp (e ▸ hg)).trans h.pz), h.z1, h.z2, h.zM, fun e => ?_⟩⟩
  · exact (hs b2 h.n12.symm).trans ((hk b2 (blk_lt h.c2) fun g hg => (hne g hg).2.1).trans h.c2)
  · exact (hs b3 h.n13.symm).trans ((hk b3 (blk_lt h.c3) fun g hg => (hne g hg).2.2.1).trans h.c3)
  · exact (hs b4 h.n14.symm).trans ((hk b4 (blk_lt h.c4) fun g hg => (hne g hg).2.2.2.1).trans h.c4)
  · exact (hs b5 h.n15.symm).trans ((hk b5 (blk_lt h.c5) fun g hg => (hne g hg).2.2.2.2.1).trans h.c5)
  · have hr : w1.ownsRow w.heap.size 9 1 (.slice (some ⟨G, 0, none⟩) (P.length + 1) C) (P ++ [tl x]).length (((P ++ [tl x]).map bN).map Value.string) := by
      rw [List.length_append, List.map_append, List.map_cons, List.map_nil, bN_tl]
      exact r2
    exact row_low2 hr fun g hg => hs g fun e => by
      have e2 : G = g := by simpa [Value.ownBlock] using hg
      exact hG b1 (blk_lt h.c1) (fun g2 hg2 => (hne g2 hg2).1) (by rw [e2, e])
  · exact (h.lm.keep (hk ML h.lm.lt fun g hg => (hne g hg).2.2.2.2.2)).keep (hs ML h.m1.symm)
  · have e2 : G = gz := by simpa [Value.ownBlock] using e
    exact hG gz (blk_lt h.pz) (fun g2 hg2 e3 => h.zp (e3 ▸ hg2)) e2.symm
/-- The last one on the way is left. -/
theorem CS.pop {x : ByteArray} {G C : Nat} (h : CS gz oz b1 b2 b3 b4 b5 M ML nf U (P ++ [tl x]) F (.slice (some ⟨G, 0, none⟩) (P.length + 1) C) w wr) (hU : U.length ≤ 60) (hs : x.size ≤ maxLen) (hn : ∀ y ∈ ndT nf (tl x), y ∈ F) :
    ∃ w', (Instr.mapUpdate 66 (.map (some ML)) (.string x) (.agg #[])).run Tryd.prog (wr.setCell ⟨b1, 0, none⟩ (.slice (some ⟨G, 0, none⟩) P.length C)) = .ok () w' ∧ CS gz oz b1 b2 b3 b4 b5 M ML nf U P (tl x :: F) (.slice (some ⟨G, 0, none⟩) P.length C) w w' := by
  have hne := h.ne G rfl
  have hlen := h.ci.len
  have hst : ∀ b, b ≠ b1 → (wr.setCell ⟨b1, 0, none⟩ (.slice (some ⟨G, 0, none⟩) P.length C)).heap[b]? = wr.heap[b]? := fun b hb => set_ne hb
  have hlm : LM ML F (wr.setCell ⟨b1, 0, none⟩ (.slice (some ⟨G, 0, none⟩) P.length C)) := h.lm.keep (hst ML h.m1.symm)
  obtain ⟨w', r1, r2, r3⟩ := hlm.put x hs (by simp at hlen; omega)
  have hsz : (wr.setCell ⟨b1, 0, none⟩ (.slice (some ⟨G, 0, none⟩) P.length C)).heap.size = wr.heap.size := by simp [World.setCell]
  have hk : ∀ b, b < wr.heap.size → b ≠ ML → w'.heap[b]? = (wr.setCell ⟨b1, 0, none⟩ (.slice (some ⟨G, 0, none⟩) P.length C)).heap[b]? := fun b hb hbM => r3.block b (by rw [hsz]; exact hb) fun e => hbM (by injection e)
  have hB : Below w.heap.size w (wr.setCell ⟨b1, 0, none⟩ (.slice (some ⟨G, 0, none⟩) P.length C)) := h.bel.setCell h.lo1 _
  refine ⟨w', r1, ⟨h.ci.pop hn, (hk b1 (blk_lt h.c1) h.m1).trans (box_set h.c1), (hk b2 (blk_lt h.c2) h.m2).trans ((hst b2 h.n12.symm).trans h.c2), (hk b3 (blk_lt h.c3) h.m3).trans ((hst b3 h.n13.symm).trans h.c3), (hk b4 (blk_lt h.c4) h.m4).trans ((hst b4 h.n14.symm).trans h.c4), (hk b5 (blk_lt h.c5) h.m5).trans ((hst b5 h.n15.symm).trans h.c5), ?_, r2, hB.grown r3 hB.size (fun j hj => by injection hj with hj; have := h.loM; omega), h.n12, h.n13, h.n14, h.n15, h.m1, h.m2, h.m3, h.m4, h.m5, h.lo1, h.lo2, h.loM, (hk gz (blk_lt h.pz) h.zM).trans ((hst gz h.z1).trans h.pz), h.z1, h.z2, h.zM, h.zp⟩⟩
  have hr := h.row
  rcases hr.2 with ⟨e, _⟩ | ⟨g, c, cur, e, hb, hg, hc1, hc2, hc3, hc4⟩
  · cases e
  · injection e with e1 _ e3
    injection e1 with e1
    injection e1 with e1
    subst e1 e3
    refine ⟨by simp, .inr ⟨G, C, cur, rfl, hb, ?_, by simp at hc1; omega, hc2, hc3, ?_⟩⟩
    · exact (hk G (h.row.lt G rfl).2 hne.2.2.2.2.2).trans ((hst G hne.1).trans hg)
    · have h4 := congrArg (List.take P.length) hc4
      rw [List.take_take] at h4
      simp only [Nat.mul_one] at h4 ⊢
      rw [show min P.length (P ++ [tl x]).length = P.length by simp] at h4
      rw [h4]
      simp
end
end Go.Proofs.YtoccfkinnopnjaaDoor

/- A walk that looks for a circle, walked. -/
namespace Go.Proofs.YtoccfkinnopnjaaDoor
open Go.RowKit Go.Shelf Go.Maps Go.WideMaps
attribute [local go_sem ↓] appG_eq2
/-- A circle was found. -/
def FnP (b2 : Nat) (nf : List UInt8 → List ByteArray) (U : List (List UInt8)) (w w' : World) : Prop := ∃ (fv : Value) (c : List ByteArray), w'.cell? ⟨b2, 0, none⟩ = some fv ∧ w'.ownsRow w.heap.size 9 1 fv c.length (c.map Value.string) ∧ Cyc (ndT nf) (c.map tl) ∧ (∀ y ∈ c, tl y ∈ U) ∧ Below w.heap.size w w'
/-- How the walk from one name ends. -/
def CkP (gz : Nat) (oz : Obj) (b1 b2 b3 b4 b5 M ML : Nat) (nf : List UInt8 → List ByteArray) (U P F : List (List UInt8)) (x : ByteArray) (w : World) (e : Ending) (w' : World) : Prop := ∃ b, e = .returned (.bool b) ∧ (b = true → FnP b2 nf U w w') ∧ (b = false → ∃ F' pv', CS gz oz b1 b2 b3 b4 b5 M ML nf U P F' pv' w w' ∧ tl x ∈ F' ∧ ∀ k ∈ F, k ∈ F')

set_option maxHeartbeats 8000000 in
set_option maxRecDepth 100000 in
theorem ckstep (gz : Nat) (oz : Obj) (b1 b2 b3 b4 b5 M ML N : Nat) (D : DataW Unit) (nf : List UInt8 → List ByteArray) (lf : List UInt8 → Value) (U : List (List UInt8)) (w : World) (hT : LT M N D nf lf w) (hU : U.length ≤ 60) (hcl : ∀ k ∈ U, ∀ y ∈ nf k, tl y ∈ U) (hsz : ∀ k ∈ U, k.length ≤ maxLen) (P F : List (List UInt8)) (pv : Value) (x : ByteArray) (wr : World) (h : CS gz oz b1 b2 b3 b4 b5 M ML nf U P F pv w wr) (hx : tl x ∈ U) (hlk : P ≠ [] → ∃ (hp : 0 < P.length), tl x ∈ ndT nf P[P.length - 1])
    (ih : ∀ (P2 F2 : List (List UInt8)) (pv2 : Value) (y : ByteArray) (W : World), P.length + F.length < P2.length + F2.length → CS gz oz b1 b2 b3 b4 b5 M ML nf U P2 F2 pv2 w W → tl y ∈ U → (P2 ≠ [] → ∃ (hp : 0 < P2.length), tl y ∈ ndT nf P2[P2.length - 1]) → Calls Tryd.prog 31 #[.string y, pt b1, pt b2, pt b3, pt b4, pt b5] W (CkP gz oz b1 b2 b3 b4 b5 M ML nf U P2 F2 y w)) :
    Calls Tryd.prog 31 #[.string x, pt b1, pt b2, pt b3, pt b4, pt b5] wr (CkP gz oz b1 b2 b3 b4 b5 M ML nf U P F x w) := by
  have hxs : x.size ≤ maxLen := by have := hsz _ hx; simpa [tl] using this
  have hlen := h.ci.len
  have c1 := cell0 h.c1
  have HIx := Index_any pv (P.map bN) x wr (h.tx hU)
  by_cases hin : tl x ∈ P
  · -- one comes back
    have HF : Hid (∀ r, txI (P.map bN) x r → ∃ (j g c : Nat), r = (j : Int) ∧ j < P.length ∧ P.length ≤ c ∧ pv = .slice (some ⟨g, 0, none⟩) P.length c ∧ Calls Tryd.prog 33 #[.slice (some ⟨g, j, none⟩) (P.length - j) (c - j)] wr fun e w' => ∃ G2 C2 : Nat, e = .returned (.slice (some ⟨G2, 0, none⟩) (P.length - j) C2) ∧ w'.cell? ⟨b2, 0, none⟩ = some (.slice none 0 0) ∧ w'.frozen? ⟨b2, 0, none⟩ = false ∧ Hid (CkP gz oz b1 b2 b3 b4 b5 M ML nf U P F x w (.returned (.bool true)) (w'.setCell ⟨b2, 0, none⟩ (.slice (some ⟨G2, 0, none⟩) (P.length - j) C2)))) := fun r hr => by
      rcases hr with ⟨_, hr⟩ | ⟨j, hj, e1, e2⟩
      · exact absurd (List.mem_map.2 ⟨tl x, hin, bN_tl x⟩) hr
      · have hj2 : j < P.length := by simpa using hj
        have ej : P[j] = tl x := by
          have : tl (P.map bN)[j] = tl x := by rw [e2]
          simpa [tl_bN] using this
        obtain ⟨g, c, e, hb, hcell⟩ := (row_at (l := P.map bN) (by rw [List.length_map]; exact h.row)).resolve_left (fun e => by rw [e] at hj; simp at hj)
        rw [List.length_map] at e
        have hcap : P.length ≤ c := by
          rcases h.row.2 with ⟨e3, _⟩ | ⟨g2, c2, cur, e3, _, _, hc, _⟩
          · rw [e] at e3; cases e3
          · rw [e] at e3
            injection e3 with _ _ e3
            omega
        refine ⟨j, g, c, e1, hj2, hcap, e, ?_⟩
        have hld : ((P.drop j).map bN).length = P.length - j := by simp
        refine (Clone_any g j (P.length - j) (c - j) ((P.drop j).map bN) wr hld.symm (by omega) (by omega) (h.row.lt g (by rw [e]; rfl)).2 (fun i hi => ?_)).mono fun e w' ⟨G, C, q1, q2, q3, q4⟩ => ?_
        · have hi2 : j + i < (P.map bN).length := by rw [List.length_map]; omega
          rw [hcell (j + i) hi2]
          simp
        · have k2 := (q4.block b2 (blk_lt h.c2)).trans h.c2
          rw [hld] at q1 q2
          refine ⟨G, C, q1, cell0 k2, Lib.frozen_of_heap k2 0, true, rfl, fun _ => ?_, fun e => by cases e⟩
          refine ⟨_, (P.drop j).map bN, cell0 (box_set k2), ?_, ?_, fun y hy => ?_, (h.bel.trans (q4.mono h.bel.size)).setCell h.lo2 _⟩
          · rw [hld]
            refine row_low2 (row_low q2 h.bel.size) fun g2 hg2 => set_ne fun e => ?_
            have e2 : G = g2 := by simpa [Value.ownBlock] using hg2
            have := blk_lt h.c2
            omega
          · rw [List.map_map, show (tl ∘ bN) = id from funext tl_bN, List.map_id]
            refine h.ci.cyc hj2 ?_
            rw [ej]
            obtain ⟨_, hl2⟩ := hlk (fun e => by rw [e] at hj2; simp at hj2)
            exact hl2
          · obtain ⟨k, hk, rfl⟩ := List.mem_map.1 hy
            rw [tl_bN]
            exact h.ci.subP k (List.mem_of_mem_drop hk)
    clear hT hU hcl hsz hx hlk ih h hin hxs hlen
    unfold pt
    go_enter Tryd.func31, Tryd.ntmps31
    go_wp2_with fail
    refine HIx.mono ?_
    rintro e w1 ⟨r, rfl, hr, rfl⟩
    obtain ⟨j, g, c, rfl, hj, hcap, rfl, HC⟩ := HF.out r hr
    have hj0 : (0 : Int) ≤ (j : Int) := by omega
    have hjl : j ≤ P.length := by omega
    have hjc : ¬ c = j := by omega
    have hjc2 : j ≤ c := by omega
    clear HF hr HIx
    generalize P.length = pl at *
    go_wp2_with fail
    refine HC.mono ?_
    rintro e w2 ⟨G2, C2, rfl, k1, k2, HE⟩
    clear HC
    go_wp2
    go_ret
    exact HE.out
  · have HIn : Hid (∀ r, txI (P.map bN) x r → r = -1) := fun r hr => by
      rcases hr with ⟨hr, _⟩ | ⟨j, hj, _, e2⟩
      · exact hr
      · refine absurd ?_ hin
        have : tl (P.map bN)[j] = tl x := by rw [e2]
        rw [← this]
        simp only [List.getElem_map, tl_bN]
        exact List.getElem_mem _
    have c3 := cell0 h.c3
    obtain ⟨Wa, hWa⟩ : ∃ Wa, Wa = wr.alloc (.cells #[] 69) := ⟨_, rfl⟩
    have hbA : Below wr.heap.size wr Wa := by rw [hWa]; exact (Below.refl _ wr).alloc (Nat.le_refl _) _
    have hA := h.below hbA
    by_cases hF : tl x ∈ F
    · have hlo := h.lm.look x hxs true ⟨fun _ => hF, fun _ => rfl⟩
      have HE : Hid (CkP gz oz b1 b2 b3 b4 b5 M ML nf U P F x w (.returned (.bool false)) Wa) := ⟨false, rfl, fun e => (by cases e), fun _ => ⟨F, pv, hA, hF, fun _ hk => hk⟩⟩
      rw [hWa] at HE
      clear hT hU hcl hsz hx hlk ih h hin hxs hlen hF hA hbA hWa
      unfold pt
      go_enter Tryd.func31, Tryd.ntmps31
      go_wp2_with fail
      refine HIx.mono ?_
      rintro e w1 ⟨r, rfl, hr, rfl⟩
      obtain rfl := HIn.out r hr
      clear HIn hr HIx
      go_wp2
      go_ret
      exact HE.out
    · have hlo := h.lm.look x hxs false ⟨fun e => (by cases e), fun e => absurd e hF⟩
      obtain ⟨G, C, w5, r1, r2, r3, hP⟩ := hA.push x hU hlk hin hF hx
      have c1A := cell0 hA.c1
      have c4P := cell0 hP.c4
      have c5P := cell0 hP.c5
      have hlk2 := (hT.below hP.bel (Nat.le_refl _)).look x hxs
      rw [show x.data.toList = tl x from rfl] at hlk2
      have hTx := hT.tx (tl x)
      obtain ⟨Wp, hWp⟩ : ∃ Wp, Wp = w5.setCell ⟨b1, 0, none⟩ (.slice (some ⟨G, 0, none⟩) (P.length + 1) C) := ⟨_, rfl⟩
      rw [← hWp] at hP c4P c5P hlk2
      have HCn := conSt (lf (tl x)) (nf (tl x)) 31 (pt b1) (pt b2) (pt b3) (pt b4) (pt b5) (fun k W => ∃ F' pv', CS gz oz b1 b2 b3 b4 b5 M ML nf U (P ++ [tl x]) F' pv' w W ∧ (∀ q ∈ F, q ∈ F') ∧ ∀ j (hj : j < (nf (tl x)).length), j < k → tl (nf (tl x))[j] ∈ F') (FnP b2 nf U w) Wp hTx.2.1 (enters_of Tryd.func31 (by kernel_rfl) rfl)
        (fun k W ⟨F', pv', q1, _, _⟩ => hTx.below q1.bel (Nat.le_refl _)) ⟨F, _, hP, fun _ hq => hq, fun j _ hj => absurd hj (Nat.not_lt_zero _)⟩
        (fun k hk W ⟨F', pv', q1, q2, q3⟩ => (ih (P ++ [tl x]) F' pv' (nf (tl x))[k] W (by
          have hle : F.length ≤ F'.length := h.ci.nodF.length_le_of_subset fun a ha => q2 a ha
          simp
          omega) q1 (hcl _ hx _ (List.getElem_mem hk)) (fun _ => ⟨by simp, by
          simp only [List.length_append, List.length_cons, List.length_nil, Nat.zero_add, Nat.add_sub_cancel]
          rw [List.getElem_append_right (Nat.le_refl _)]
          simp only [Nat.sub_self, List.getElem_cons_zero]
          exact List.mem_map.2 ⟨_, List.getElem_mem hk, rfl⟩⟩)).mono fun e w' ⟨b, p1, p2, p3⟩ => ⟨b, p1, p2, fun hb => by
            obtain ⟨F2, pv2, s1, s2, s3⟩ := p3 hb
            refine ⟨F2, pv2, s1, fun q hq => s3 q (q2 q hq), fun j hj hjk => ?_⟩
            rcases (show j < k ∨ j = k by omega) with e2 | e2
            · exact s3 _ (q3 j hj e2)
            · subst e2; exact s2⟩)
      have HPop : Hid (∀ W, (∃ F' pv', CS gz oz b1 b2 b3 b4 b5 M ML nf U (P ++ [tl x]) F' pv' w W ∧ (∀ q ∈ F, q ∈ F') ∧ ∀ j (hj : j < (nf (tl x)).length), j < (nf (tl x)).length → tl (nf (tl x))[j] ∈ F') → ∃ G2 C2 w', P.length + 1 ≤ C2 ∧ W.cell? ⟨b1, 0, none⟩ = some (.slice (some ⟨G2, 0, none⟩) (P.length + 1) C2) ∧ W.frozen? ⟨b1, 0, none⟩ = false ∧ (W.setCell ⟨b1, 0, none⟩ (.slice (some ⟨G2, 0, none⟩) P.length C2)).cell? ⟨b3, 0, none⟩ = some (.map (some ML)) ∧ (Instr.mapUpdate 66 (.map (some ML)) (.string x) (.agg #[])).run Tryd.prog (W.setCell ⟨b1, 0, none⟩ (.slice (some ⟨G2, 0, none⟩) P.length C2)) = .ok () w' ∧ Hid (CkP gz oz b1 b2 b3 b4 b5 M ML nf U P F x w (.returned (.bool false)) w')) := fun W ⟨F', pv', q1, q2, q3⟩ => by
        have hl1 : (P ++ [tl x]).length = P.length + 1 := by simp
        have hr := q1.row
        rw [hl1] at hr
        obtain ⟨G2, C2, e, _, _⟩ := hr.form (by omega)
        have hC : P.length + 1 ≤ C2 := by
          rcases hr.2 with ⟨e3, _⟩ | ⟨g2, c2, cur, e3, _, _, hc, _⟩
          · rw [e] at e3; cases e3
          · rw [e] at e3
            injection e3 with _ _ e3
            omega
        subst e
        obtain ⟨w', s1, s2⟩ := q1.pop hU hxs fun y hy => by
          obtain ⟨z, hz, rfl⟩ := List.mem_map.1 hy
          obtain ⟨j, hj, rfl⟩ := List.mem_iff_getElem.1 hz
          exact q3 j hj hj
        refine ⟨G2, C2, w', hC, cell0 q1.c1, Lib.frozen_of_heap q1.c1 0, ?_, s1, false, rfl, fun e => (by cases e), fun _ => ⟨tl x :: F', _, s2, List.mem_cons_self, fun k hk => List.mem_cons_of_mem _ (q2 k hk)⟩⟩
        exact (World.cell?_of_block (a := ⟨b3, 0, none⟩) (set_ne q1.n13.symm)).trans (cell0 q1.c3)
      have HYes : Hid (∀ W, FnP b2 nf U w W → CkP gz oz b1 b2 b3 b4 b5 M ML nf U P F x w (.returned (.bool true)) W) := fun W hW => ⟨true, rfl, fun _ => hW, fun e => by cases e⟩
      have hpl : (P.length : Int) ≤ 60 := by omega
      subst hWa hWp
      rw [World.size_alloc] at r1
      clear hT hU hcl hsz hx hlk ih h hin hxs hlen hF hA hbA hTx hP
      generalize lf (tl x) = lv at *
      generalize P.length = pl at *
      unfold pt at HCn
      unfold pt
      unfold pt at c5P
      go_enter Tryd.func31, Tryd.ntmps31
      go_wp2_with fail
      refine HIx.mono ?_
      rintro e w1 ⟨r, rfl, hr, rfl⟩
      obtain rfl := HIn.out r hr
      clear HIn hr HIx
      go_wp2_with fail
      refine HCn.mono ?_
      rintro e w6 ⟨b, rfl, hb1, hb2⟩
      clear HCn
      cases b with
      | true =>
        have HE : Hid (CkP gz oz b1 b2 b3 b4 b5 M ML nf U P F x w (.returned (.bool true)) w6) := HYes.out w6 (hb1 rfl)
        clear HYes HPop hb1 hb2 r1 r2 r3 c1A c4P c5P hlk2 hlo c3 c1
        go_wp2
        go_ret
        exact HE.out
      | false =>
        obtain ⟨G2, C2, w7, hC, k1, k2, k3, k4, HE⟩ := HPop.out w6 (hb2 rfl)
        obtain ⟨q, hq⟩ : ∃ q, q = pl + 1 := ⟨_, rfl⟩
        have hq1 : (q : Int) - 1 = (pl : Int) := by omega
        have hq2 : pl ≤ C2 := by omega
        have hq3 : (pl : Int) ≤ (C2 : Int) := by omega
        have hqi : (q : Int) ≤ 61 := by omega
        rw [← hq] at k1
        clear HYes HPop hb1 hb2 r1 r2 r3 c1A c4P c5P hlk2 hlo c3 c1 hq hC
        go_wp2
        go_ret
        exact HE.out
theorem cwalk_any (gz : Nat) (oz : Obj) (b1 b2 b3 b4 b5 M ML N : Nat) (D : DataW Unit) (nf : List UInt8 → List ByteArray) (lf : List UInt8 → Value) (U : List (List UInt8)) (w : World) (hT : LT M N D nf lf w) (hU : U.length ≤ 60) (hcl : ∀ k ∈ U, ∀ y ∈ nf k, tl y ∈ U) (hsz : ∀ k ∈ U, k.length ≤ maxLen) : ∀ (m : Nat) (P F : List (List UInt8)) (pv : Value) (x : ByteArray) (wr : World), U.length < m + (P.length + F.length) → CS gz oz b1 b2 b3 b4 b5 M ML nf U P F pv w wr → tl x ∈ U → (P ≠ [] → ∃ (hp : 0 < P.length), tl x ∈ ndT nf P[P.length - 1]) →
    Calls Tryd.prog 31 #[.string x, pt b1, pt b2, pt b3, pt b4, pt b5] wr (CkP gz oz b1 b2 b3 b4 b5 M ML nf U P F x w)
  | 0, P, F, pv, x, wr, hm, h, _, _ => by have := h.ci.len; omega
  | m + 1, P, F, pv, x, wr, hm, h, hx, hlk => ckstep gz oz b1 b2 b3 b4 b5 M ML N D nf lf U w hT hU hcl hsz P F pv x wr h hx hlk fun P2 F2 pv2 y W hl hC hy hlk2 => cwalk_any gz oz b1 b2 b3 b4 b5 M ML N D nf lf U w hT hU hcl hsz m P2 F2 pv2 y W (by omega) hC hy hlk2
end Go.Proofs.YtoccfkinnopnjaaDoor

/- A circle among links, if there is one: walked whole. -/
namespace Go.Proofs.YtoccfkinnopnjaaDoor
open Go.RowKit Go.Shelf Go.Maps Go.WideMaps
attribute [local go_sem] run_store_fn
/-- How circle ends. -/
def CrP (nf : List UInt8 → List ByteArray) (U : List (List UInt8)) (w : World) (e : Ending) (w' : World) : Prop := ∃ (fv : Value) (c : List ByteArray), e = .returned fv ∧ w'.ownsRow w.heap.size 9 1 fv c.length (c.map Value.string) ∧ Below w.heap.size w w' ∧ ((Cyc (ndT nf) (c.map tl) ∧ ∀ y ∈ c, tl y ∈ U) ∨ (c = [] ∧ ∀ k ∈ U, ¬ Rp (ndT nf) k k))

set_option maxHeartbeats 8000000 in
set_option maxRecDepth 100000 in
theorem circle_any (M N : Nat) (D : DataW Unit) (nf : List UInt8 → List ByteArray) (lf : List UInt8 → Value) (U : List (List UInt8)) (w : World) (hT : LT M N D nf lf w) (hN : N ≤ 60) (hU : U.length ≤ 60) (hUn : U.Nodup) (hUm : ∀ k, k ∈ U ↔ Maps.has D (.string k) = true) (hcl : ∀ k ∈ U, ∀ y ∈ nf k, tl y ∈ U) (hsz : ∀ k ∈ U, k.length ≤ maxLen) :
    Calls Tryd.prog 13 #[.map (some M)] w (CrP nf U w) := by
  obtain ⟨b5, h5⟩ : ∃ b, b = w.heap.size + 1 + 1 + 1 + 1 + 1 := ⟨_, rfl⟩
  obtain ⟨b3, h3⟩ : ∃ b, b = w.heap.size + 1 + 1 + 1 + 1 := ⟨_, rfl⟩
  obtain ⟨ML, hML⟩ : ∃ b, b = w.heap.size + 1 + 1 + 1 := ⟨_, rfl⟩
  obtain ⟨b2, h2⟩ : ∃ b, b = w.heap.size + 1 + 1 := ⟨_, rfl⟩
  obtain ⟨b1, h1⟩ : ∃ b, b = w.heap.size + 1 := ⟨_, rfl⟩
  obtain ⟨b4, h4⟩ : ∃ b, b = w.heap.size := ⟨_, rfl⟩
  have hmm := @run_makeMap Tryd.prog
  have HW : Hid (∀ gz oz F pv x wr, CS gz oz b1 b2 b3 b4 b5 M ML nf U [] F pv w wr → tl x ∈ U → Calls Tryd.prog 31 #[.string x, pt b1, pt b2, pt b3, pt b4, pt b5] wr (CkP gz oz b1 b2 b3 b4 b5 M ML nf U [] F x w)) := fun gz oz F pv x wr h hx => cwalk_any gz oz b1 b2 b3 b4 b5 M ML N D nf lf U w hT hU hcl hsz (U.length + 1) [] F pv x wr (by omega) h hx (fun e => absurd rfl e)
  have HSo : Hid (∀ W, Below w.heap.size w W → Calls Tryd.prog 16 #[.func (.func 36) #[] #[.pointer (some ⟨W.heap.size, 0, none⟩)]] (W.alloc (.cells #[.map (some M)] 38)) fun e w' => ∃ (va : Option Addr) (vc : Nat) (out : List ByteArray), e = .returned (.slice va out.length vc) ∧ Hid (w'.ownsRow W.heap.size 9 1 (.slice va out.length vc) out.length (out.map Value.string) ∧ (∀ k, k ∈ out.map tl ↔ k ∈ U) ∧ out.length ≤ 60 ∧ Below W.heap.size W w')) := fun W hW => (sorted_keys (omapG hT.own (hW.block M hT.own.lt)) hN hUn hUm).mono fun e w' ⟨v, out, q1, q2, q3, q4, q5⟩ => by
    have hl : out.length ≤ 60 := by
      have := (lt_nodup q3).length_le_of_subset (l₂ := U) fun k hk => (q4 k).1 hk
      rw [List.length_map] at this
      omega
    obtain ⟨ao, c, rfl⟩ := row_form q2
    exact ⟨ao, c, out, q1, q2, q4, hl, q5⟩
  have HZ : Hid (∀ gz oz F pv W, CS gz oz b1 b2 b3 b4 b5 M ML nf U [] F pv w W → (∀ k ∈ U, k ∈ F) → CrP nf U w (.returned (.slice none 0 0)) W) := fun _ _ F pv W h hk => ⟨_, [], rfl, World.ownsRow_nil _ _ _ _, h.bel, .inr ⟨rfl, fun k hk2 => h.ci.acy k (hk k hk2)⟩⟩
  have HY : Hid (∀ W, FnP b2 nf U w W → ∃ fv, W.cell? ⟨b2, 0, none⟩ = some fv ∧ Hid (CrP nf U w (.returned fv) W)) := fun W ⟨fv, c, q1, q2, q3, q4, q5⟩ => ⟨fv, q1, fv, c, rfl, q2, q5, .inl ⟨q3, q4⟩⟩
  have H0 : Hid (∀ W, W = ((((((w.alloc (.cells #[.map (some M)] 38)).alloc (.cells #[.slice none 0 0] 24)).alloc (.cells #[.slice none 0 0] 24)).alloc (.map #[] 0)).alloc (.cells #[.map (some ML)] 66)).alloc (.cells #[.func (.func 31) #[] #[pt b1, pt b2, pt b3, pt b4, pt b5]] 58)) → CS b4 (.cells #[.map (some M)] 38 (0, 0)) b1 b2 b3 b4 b5 M ML nf U [] [] (.slice none 0 0) w W) := fun W hW => by
    obtain ⟨w1, e1⟩ : ∃ w1, w1 = w.alloc (.cells #[.map (some M)] 38) := ⟨_, rfl⟩
    obtain ⟨w2, e2⟩ : ∃ w2, w2 = w1.alloc (.cells #[.slice none 0 0] 24) := ⟨_, rfl⟩
    obtain ⟨w3, e3⟩ : ∃ w3, w3 = w2.alloc (.cells #[.slice none 0 0] 24) := ⟨_, rfl⟩
    obtain ⟨w4, e4⟩ : ∃ w4, w4 = w3.alloc (.map #[] 0) := ⟨_, rfl⟩
    obtain ⟨w5, e5⟩ : ∃ w5, w5 = w4.alloc (.cells #[.map (some ML)] 66) := ⟨_, rfl⟩
    rw [← e1, ← e2, ← e3, ← e4, ← e5] at hW
    have z1 : w1.heap.size = w.heap.size + 1 := by rw [e1]; exact World.size_alloc _ _
    have z2 : w2.heap.size = w.heap.size + 1 + 1 := by rw [e2, World.size_alloc, z1]
    have z3 : w3.heap.size = w.heap.size + 1 + 1 + 1 := by rw [e3, World.size_alloc, z2]
    have z4 : w4.heap.size = w.heap.size + 1 + 1 + 1 + 1 := by rw [e4, World.size_alloc, z3]
    have z5 : w5.heap.size = w.heap.size + 1 + 1 + 1 + 1 + 1 := by rw [e5, World.size_alloc, z4]
    have a2 : Below w1.heap.size w1 w2 := by rw [e2]; exact (Below.refl _ _).alloc (Nat.le_refl _) _
    have a3 : Below w2.heap.size w2 w3 := by rw [e3]; exact (Below.refl _ _).alloc (Nat.le_refl _) _
    have a4 : Below w3.heap.size w3 w4 := by rw [e4]; exact (Below.refl _ _).alloc (Nat.le_refl _) _
    have a5 : Below w4.heap.size w4 w5 := by rw [e5]; exact (Below.refl _ _).alloc (Nat.le_refl _) _
    have a6 : Below w5.heap.size w5 W := by rw [hW]; exact (Below.refl _ _).alloc (Nat.le_refl _) _
    have q4 : w1.heap[b4]? = some (.cells #[.map (some M)] 38 (0, 0)) := by rw [e1, h4]; exact heap_alloc_new _ _
    have q1 : w2.heap[b1]? = some (.cells #[.slice none 0 0] 24 (0, 0)) := by rw [e2, h1, ← z1]; exact heap_alloc_new _ _
    have q2 : w3.heap[b2]? = some (.cells #[.slice none 0 0] 24 (0, 0)) := by rw [e3, h2, ← z2]; exact heap_alloc_new _ _
    have qm : LM ML [] w4 := by have := LM.made w3; rw [← e4, z3, ← hML] at this; exact this
    have q3 : w5.heap[b3]? = some (.cells #[.map (some ML)] 66 (0, 0)) := by rw [e5, h3, ← z4]; exact heap_alloc_new _ _
    have q5 : W.heap[b5]? = some (.cells #[.func (.func 31) #[] #[pt b1, pt b2, pt b3, pt b4, pt b5]] 58 (0, 0)) := by rw [hW, h5, ← z5]; exact heap_alloc_new _ _
    have p4 : W.heap[b4]? = some (.cells #[.map (some M)] 38 (0, 0)) := by rw [a6.block b4 (by omega), a5.block b4 (by omega), a4.block b4 (by omega), a3.block b4 (by omega), a2.block b4 (by omega)]; exact q4
    refine ⟨CI.nil, ?_, ?_, ?_, p4, q5, World.ownsRow_nil _ _ _ _, ?_, ?_, by omega, by omega, by omega, by omega, by omega, by omega, by omega, by omega, by omega, by omega, by omega, by omega, p4, by omega, by omega, by omega, fun e => by cases e⟩
    · rw [a6.block b1 (by omega), a5.block b1 (by omega), a4.block b1 (by omega), a3.block b1 (by omega)]; exact q1
    · rw [a6.block b2 (by omega), a5.block b2 (by omega), a4.block b2 (by omega)]; exact q2
    · rw [a6.block b3 (by omega)]; exact q3
    · exact (qm.keep (a5.block ML (by omega))).keep (a6.block ML (by omega))
    · have a1 : Below w.heap.size w w1 := by rw [e1]; exact (Below.refl _ _).alloc (Nat.le_refl _) _
      exact ((((a1.trans (a2.mono (by omega))).trans (a3.mono (by omega))).trans (a4.mono (by omega))).trans (a5.mono (by omega))).trans (a6.mono (by omega))
  have HKs := keysS_any
  clear hT hU hcl hsz hUn hUm hN
  go_enter Tryd.func13, Tryd.ntmps13
  go_wp2_with fail
  rw [← h5, ← h3, ← hML, ← h2, ← h1, ← h4]
  have H1 := H0.out _ rfl
  unfold pt at H1
  generalize hWz : ((((((w.alloc (.cells #[.map (some M)] 38)).alloc (.cells #[.slice none 0 0] 24)).alloc (.cells #[.slice none 0 0] 24)).alloc (.map #[] 0)).alloc (.cells #[.map (some ML)] 66)).alloc (.cells #[.func (.func 31) #[] #[.pointer (some ⟨b1, 0, none⟩), .pointer (some ⟨b2, 0, none⟩), .pointer (some ⟨b3, 0, none⟩), .pointer (some ⟨b4, 0, none⟩), .pointer (some ⟨b5, 0, none⟩)]] 58)) = Wz at *
  have H2 : Hid (CS b4 (.cells #[.map (some M)] 38 (0, 0)) b1 b2 b3 b4 b5 M ML nf U [] [] (.slice none 0 0) w Wz) := H1
  clear H1 H0 h5 h3 hML h2 h1 h4 hWz
  refine (HKs _ _).mono ?_
  rintro e wk ⟨rfl, rfl⟩
  go_wp2_with fail
  refine (HSo.out Wz H2.out.bel).mono ?_
  rintro e wz ⟨va, vc, out, rfl, G1⟩
  obtain ⟨gz, oz, hC0, hgz⟩ : ∃ gz oz, CS gz oz b1 b2 b3 b4 b5 M ML nf U [] [] (.slice none 0 0) w wz ∧ (out = [] ∨ (va = some ⟨gz, 0, none⟩ ∧ ∀ W : World, W.heap[gz]? = some oz → ∀ j (hj : j < out.length), W.cell? ⟨gz, j, none⟩ = some (.string out[j]))) := by
    obtain ⟨q1, _, _, q4⟩ := G1.out
    have hb := H2.out.below q4
    by_cases h0 : out = []
    · exact ⟨_, _, hb, .inl h0⟩
    · have hp : 0 < out.length := List.length_pos_iff.2 h0
      rcases q1.2 with ⟨_, e⟩ | ⟨g, c, cur, e, hg1, hg2, hr⟩
      · omega
      · have hl1 := blk_lt H2.out.c1
        have hl2 := blk_lt H2.out.c2
        have hl3 := H2.out.lm.lt
        injection e with e1 _ _
        refine ⟨g, _, { hb with pz := hg2, z1 := (by omega), z2 := (by omega), zM := (by omega), zp := fun e => by cases e }, .inr ⟨e1, fun W hW j hj => ?_⟩⟩
        subst e1
        have hc := q1.cells rfl j (.string out[j]) (by rw [List.getElem?_map, List.getElem?_eq_getElem hj]; rfl)
        rw [addr_add, Nat.zero_add] at hc
        rw [← hc]
        exact World.cell?_of_block (a := ⟨g, j, none⟩) (hW.trans hg2.symm)
  have HC0 : Hid (CS gz oz b1 b2 b3 b4 b5 M ML nf U [] [] (.slice none 0 0) w wz) := hC0
  have HGz : Hid (out = [] ∨ (va = some ⟨gz, 0, none⟩ ∧ ∀ W : World, W.heap[gz]? = some oz → ∀ j (hj : j < out.length), W.cell? ⟨gz, j, none⟩ = some (.string out[j]))) := hgz
  have HMe : Hid (∀ k, k ∈ out.map tl ↔ k ∈ U) := G1.out.2.1
  have hol : (out.length : Int) ≤ 60 := by have := G1.out.2.2.1; omega
  clear G1 HSo HKs H2 hmm hC0 hgz
  go_wp2
  go_loopw [15] (fun u wr => ∃ (i : Nat) (F : List (List UInt8)) (pv : Value), i ≤ out.length ∧ u = .int .i64 (i : Int) ∧ Hid (CS gz oz b1 b2 b3 b4 b5 M ML nf U [] F pv w wr ∧ (∀ j (hj : j < out.length), j < i → tl out[j] ∈ F))) (fun u _ => out.length - (intOf u).toNat)
  case atStart => exact ⟨0, [], _, Nat.zero_le _, rfl, HC0.out, (fun j _ hj => absurd hj (Nat.not_lt_zero _))⟩
  case round =>
    obtain ⟨i, F, pv, hi, rfl, HJ⟩ := hrel
    by_cases hlt : i < out.length
    · have hii : (i : Int) < (out.length : Int) := by omega
      rcases HGz.out with hz | ⟨rfl, hcc⟩
      · exfalso; rw [hz] at hlt; exact absurd hlt (by simp)
      have c0 := hcc wr HJ.out.1.pz i hlt
      have c5 := cell0 HJ.out.1.c5
      have hxU : tl out[i] ∈ U := (HMe.out _).1 (List.mem_map.2 ⟨_, List.getElem_mem hlt, rfl⟩)
      have HC := HW.out gz oz F pv out[i] wr HJ.out.1 hxU
      have HN : Hid (∀ W F' pv', CS gz oz b1 b2 b3 b4 b5 M ML nf U [] F' pv' w W → tl out[i] ∈ F' → (∀ k ∈ F, k ∈ F') → CS gz oz b1 b2 b3 b4 b5 M ML nf U [] F' pv' w W ∧ ∀ j (hj : j < out.length), j < i + 1 → tl out[j] ∈ F') := fun W F' pv' q1 q2 q3 => ⟨q1, fun j hj hji => by
        rcases (show j < i ∨ j = i by omega) with e | e
        · exact q3 _ (HJ.out.2 j hj e)
        · subst e; exact q2⟩
      generalize out[i] = y at *
      unfold CkP pt at HC
      unfold pt at c5
      clear hcc HJ HC0 hxU
      go_wp2_with fail
      refine HC.mono ?_
      rintro e w7 ⟨b, rfl, hb1, hb2⟩
      clear HC
      cases b with
      | true =>
        obtain ⟨fv, k1, HE⟩ := HY.out w7 (hb1 rfl)
        clear hb1 hb2 HN HW HZ HY c0 c5
        go_wp2
        go_ret
        exact HE.out
      | false =>
        obtain ⟨F', pv', q1, q2, q3⟩ := hb2 rfl
        have HE : Hid (CS gz oz b1 b2 b3 b4 b5 M ML nf U [] F' pv' w w7 ∧ ∀ j (hj : j < out.length), j < i + 1 → tl out[j] ∈ F') := HN.out w7 F' pv' q1 q2 q3
        clear hb1 hb2 HN q1 q2 q3 c0 c5
        go_wp2
        exact ⟨⟨i + 1, F', pv', by omega, by go_num, HE⟩, by simp [intOf]; omega⟩
    · obtain rfl : i = out.length := by omega
      have c2 := cell0 HJ.out.1.c2
      have HE : Hid (CrP nf U w (.returned (.slice none 0 0)) wr) := HZ.out gz oz F pv wr HJ.out.1 fun k hk => by
        obtain ⟨z, hz, e⟩ := List.mem_map.1 ((HMe.out k).2 hk)
        obtain ⟨j, hj, rfl⟩ := List.mem_iff_getElem.1 hz
        rw [← e]
        exact HJ.out.2 j hj hj
      clear HJ HC0 HZ HY
      go_wp2
      go_ret
      exact HE.out
end Go.Proofs.YtoccfkinnopnjaaDoor

/- What the laws begin with: two targets, one of which needs the other. -/
namespace Go.Proofs.YtoccfkinnopnjaaDoor
open Go.RowKit Go.Shelf Go.Maps
def aB : ByteArray := ⟨#[97]⟩
def bB : ByteArray := ⟨#[98]⟩
def nlS : Value := .slice none 0 0
def tgA (g : Nat) : Tg := ⟨aB, nlS, .slice (some ⟨g, 0, none⟩) 1 1, nlS, nlS, [], [bB], [], []⟩
def tgB : Tg := ⟨bB, nlS, nlS, nlS, nlS, [], [], [], []⟩
def tg2 (g : Nat) : List Tg := [tgA g, tgB]
theorem nmA : nameOk aB = true := by unfold nameOk; rw [Lib.toList_data]; decide
theorem nmBB : nameOk bB = true := by unfold nameOk; rw [Lib.toList_data]; decide
theorem names2 (g : Nat) : (tg2 g).map tnm = [[97], [98]] := rfl
theorem nf2_a (g : Nat) : nfL (tg2 g) [97] = [bB] := rfl
theorem nf2_b (g : Nat) : nfL (tg2 g) [98] = [] := rfl
theorem nd2_a (g : Nat) : ndT (nfL (tg2 g)) [97] = [[98]] := rfl
theorem nd2_b (g : Nat) : ndT (nfL (tg2 g)) [98] = [] := rfl
theorem ok2 (g : Nat) : NmOk (tg2 g) := by
  refine ⟨by simp [tg2], fun t ht => ?_, by rw [names2]; decide, fun t ht y hy => ?_⟩
  · rcases List.mem_cons.1 ht with rfl | ht
    · exact nmA
    · rw [List.mem_singleton.1 ht]; exact nmBB
  · rw [names2]
    rcases List.mem_cons.1 ht with rfl | ht
    · rw [List.mem_singleton.1 (show y ∈ [bB] from hy)]
      decide
    · rw [List.mem_singleton.1 ht] at hy
      cases hy
theorem ck2 (g : Nat) : ckN (tg2 g) = 0 := ckN_ok.2 (ok2 g)
theorem ck1 (g : Nat) : ckN [tgA g] = 5 := by
  have h1 : ([tgA g].any fun t => !nameOk t.nm) = false := by
    rw [List.any_cons, show (tgA g).nm = aB from rfl, nmA]
    rfl
  unfold ckN
  rw [if_neg (by simp), if_neg (by rw [h1]; simp), if_pos (by simp), if_pos ?_]
  refine List.any_eq_true.2 ⟨tgA g, by simp, List.any_eq_true.2 ⟨bB, by simp [tgA], ?_⟩⟩
  rw [has_ndD]
  rfl
theorem kn2 (g : Nat) (S : List UInt8 → Prop) (hS : ∀ k, k ∈ [[97], [98]] ↔ S k) : OrQ (nfL (tg2 g)) S [[97], [98]] [bB, aB] := by
  refine ⟨by decide, hS, fun i hi => ?_, fun k hk hn => ?_⟩
  · have h2 : i < 2 := hi
    rcases (show i = 0 ∨ i = 1 by omega) with rfl | rfl
    · show Stp _ _ _ [] [98]
      refine ⟨by decide, by decide, fun y hy => ?_, fun k hk _ hr => ?_⟩
      · rw [nd2_b] at hy
        cases hy
      · rcases List.mem_cons.1 hk with rfl | hk
        · rw [nd2_a] at hr
          have := hr [98] (by simp)
          cases this
        · rw [List.mem_singleton.1 hk]
          decide
    · show Stp _ _ _ [[98]] [97]
      refine ⟨by decide, by decide, fun y hy => ?_, fun k hk hn _ => ?_⟩
      · rw [nd2_a] at hy
        rw [List.mem_singleton.1 hy]
        decide
      · rcases List.mem_cons.1 hk with rfl | hk
        · decide
        · rw [List.mem_singleton.1 hk] at hn
          exact absurd (by decide) hn
  · exfalso
    apply hn
    rcases List.mem_cons.1 hk with rfl | hk
    · decide
    · rw [List.mem_singleton.1 hk]
      decide
theorem ls2 (g : Nat) {o : List ByteArray} {c : Int} (h : LsA (ckN (tg2 g)) (nfL (tg2 g)) (fun k => k ∈ (tg2 g).map tnm) o c) : o = [bB, aB] ∧ c = 0 :=
  h.uniq (.inr ⟨ck2 g, _, _, kn2 g (fun k => k ∈ (tg2 g).map tnm) (fun _ => Iff.rfl), .inr ⟨rfl, rfl, rfl⟩⟩) (fun _ _ => Iff.rfl) (fun _ _ _ => rfl)
theorem ckw2 (g : Nat) (x : ByteArray) (h : tl x ∈ [[97], [98]]) : ckW (tg2 g) x = 0 := ckW_ok.2 ⟨ok2 g, by rw [names2]; exact h⟩
theorem cn2 (g : Nat) (k : List UInt8) : k ∈ [[97], [98]] ↔ CnS (tg2 g) aB k := by
  constructor
  · intro hk
    rcases List.mem_cons.1 hk with rfl | hk
    · exact Rs.base rfl
    · rw [List.mem_singleton.1 hk]
      exact Rs.step (a := [97]) (Rs.base rfl) (by rw [nd2_a]; simp)
  · intro h
    refine h (fun k => k ∈ [[97], [98]]) (fun x hx => by rw [hx]; decide) (fun a ha y hy => ?_)
    rcases List.mem_cons.1 ha with rfl | ha
    · rw [nd2_a] at hy
      rw [List.mem_singleton.1 hy]
      decide
    · rw [List.mem_singleton.1 ha, nd2_b] at hy
      cases hy
theorem dpv2 (g : Nat) : (1 : Int) = dpF (nfL (tg2 g)) [bB, aB] (tl aB) := by
  have e : dpF (nfL (tg2 g)) [bB, aB] = dpI [97] [bB] (dpI [98] [] fun _ => 0) := rfl
  rw [e]
  decide
theorem dp2 (g : Nat) {n c : Int} (h : DpA (ckW (tg2 g) aB) (nfL (tg2 g)) (CnS (tg2 g) aB) (tl aB) n c) : n = 1 ∧ c = 0 :=
  h.uniq (.inr ⟨ckw2 g aB (by decide), _, _, kn2 g _ (cn2 g), .inr ⟨rfl, dpv2 g, rfl⟩⟩) (fun _ _ => Iff.rfl) (fun _ _ _ => rfl)
theorem us2 (g : Nat) {o : List ByteArray} {c : Int} (h : UsA (ckW (tg2 g) bB) (UsT (tg2 g) bB) o c) : o = [aB] ∧ c = 0 := by
  refine h.uniq (T2 := UsT (tg2 g) bB) (.inr ⟨ckw2 g bB (by decide), rfl, List.pairwise_singleton _ _, fun k => ?_⟩) (fun _ _ => Iff.rfl)
  constructor
  · intro hk
    rw [List.mem_singleton.1 (show k ∈ [[97]] from hk)]
    exact ⟨by rw [names2]; simp, Rs.base (by rw [nd2_a]; simp [tl, bB])⟩
  · rintro ⟨h1, h2⟩
    rw [names2] at h1
    rcases List.mem_cons.1 h1 with rfl | h1
    · decide
    · rw [List.mem_singleton.1 h1] at h2
      exact (h2 (fun _ => False) (fun x hx => by rw [nd2_b] at hx; cases hx) (fun _ ha _ _ => ha)).elim
end Go.Proofs.YtoccfkinnopnjaaDoor

/- What the laws begin with, walked. -/
namespace Go.Proofs.YtoccfkinnopnjaaDoor
open Go.RowKit Go.Shelf Go.Maps
theorem tx_nil (w : World) : TxIn w (.slice none 0 0) [] := ⟨⟨none, 0, 0, rfl⟩, Nat.zero_le _, none, 0, rfl, .inl rfl⟩
theorem tx_two (w : World) (x y : ByteArray) : TxIn (w.alloc (.cells #[.string x, .string y] 9)) (.slice (some ⟨w.heap.size, 0, none⟩) 2 2) [x, y] := by
  refine ⟨⟨_, _, _, rfl⟩, by simp, _, _, rfl, .inr ⟨w.heap.size, 0, rfl, by rw [World.size_alloc]; omega, fun j hj => ?_⟩⟩
  have h2 : j < 2 := hj
  rw [Lib.cell_of_heap (heap_alloc_new w _)]
  rcases (show j = 0 ∨ j = 1 by omega) with rfl | rfl <;> rfl
def W2 (w : World) : World := (w.alloc (.cells #[.string bB] 9)).alloc (.cells #[.string aB, nlS, .slice (some ⟨w.heap.size, 0, none⟩) 1 1, nlS, nlS, .string bB, nlS, nlS, nlS, nlS] 30)
theorem W2_at (w : World) : (W2 w).heap[w.heap.size + 1]? = some (.cells #[.string aB, nlS, .slice (some ⟨w.heap.size, 0, none⟩) 1 1, nlS, nlS, .string bB, nlS, nlS, nlS, nlS] 30 (0, 0)) := by
  unfold W2
  rw [← World.size_alloc w (.cells #[.string bB] 9)]
  exact heap_alloc_new _ _
theorem W2_below (w : World) : Below w.heap.size w (W2 w) := ((Below.refl _ w).alloc (Nat.le_refl _) _).alloc (by rw [World.size_alloc]; omega) _
theorem W2_size (w : World) : (W2 w).heap.size = w.heap.size + 2 := by unfold W2; rw [World.size_alloc, World.size_alloc]
theorem tg2_is (w : World) : IsTg (W2 w) (some ⟨w.heap.size + 1, 0, none⟩) (tg2 w.heap.size) := by
  have hz := W2_size w
  refine ⟨.inr ⟨_, _, rfl, by omega, fun j hj => ?_⟩, fun t ht => ?_, fun t ht => ?_⟩
  · have h2 : j < 2 := hj
    simp only [Lib.cell_of_heap (W2_at w)]
    rcases (show j = 0 ∨ j = 1 by omega) with rfl | rfl <;> exact ⟨rfl, rfl, rfl, rfl, rfl⟩
  · have hn : TxIn (W2 w) (.slice none 0 0) [] := tx_nil _
    rcases List.mem_cons.1 ht with rfl | ht
    · refine ⟨hn, ?_, hn, hn⟩
      exact (tx_one w bB).below ((Below.refl _ _).alloc (Nat.le_refl _) _) (Nat.le_refl _)
    · rw [List.mem_singleton.1 ht]
      exact ⟨hn, hn, hn, hn⟩
  · rcases List.mem_cons.1 ht with rfl | ht
    · exact (by decide : (⟨#[97]⟩ : ByteArray).size ≤ 1048576)
    · rw [List.mem_singleton.1 ht]
      exact (by decide : (⟨#[98]⟩ : ByteArray).size ≤ 1048576)
theorem tg2_sz (g : Nat) : ∀ t ∈ tg2 g, ∀ y ∈ t.ns, y.size ≤ maxLen := fun t ht y hy => by
  rcases List.mem_cons.1 ht with rfl | ht
  · rw [List.mem_singleton.1 (show y ∈ [bB] from hy)]
    decide
  · rw [List.mem_singleton.1 ht] at hy
    cases hy
theorem tg2_nm (g : Nat) : ∀ t ∈ tg2 g, (tnm t).length ≤ maxLen := fun t ht => by
  rcases List.mem_cons.1 ht with rfl | ht
  · exact (by decide : [(97 : UInt8)].length ≤ maxLen)
  · rw [List.mem_singleton.1 ht]
    exact (by decide : [(98 : UInt8)].length ≤ maxLen)
/-- Each of the four calls. -/
theorem bg_order (w w1 : World) (hb : Below (W2 w).heap.size (W2 w) w1) : Calls Tryd.prog 5 #[.slice (some ⟨w.heap.size + 1, 0, none⟩) 2 2] w1 fun e w' => ∃ v, e = .returned (.tuple #[v, .int .i64 0]) ∧ Hid (TxIn w' v [bB, aB] ∧ Below w1.heap.size w1 w') :=
  (Order_tw _ 2 (tg2 w.heap.size) w1 ((tg2_is w).below hb (Nat.le_refl _)) (by simp [tg2]) (tg2_sz _) (tg2_nm _)).mono fun e w' ⟨out, code, v, q1, q2, q3, q4⟩ => by
    obtain ⟨rfl, rfl⟩ := ls2 _ q1
    exact ⟨v, q2, row_tx q3 (by decide), q4⟩
theorem bg_users (w w1 : World) (hb : Below (W2 w).heap.size (W2 w) w1) : Calls Tryd.prog 7 #[.slice (some ⟨w.heap.size + 1, 0, none⟩) 2 2, .string bB] w1 fun e w' => ∃ v, e = .returned (.tuple #[v, .int .i64 0]) ∧ Hid (TxIn w' v [aB] ∧ Below w1.heap.size w1 w') :=
  (Users_tw _ 2 (tg2 w.heap.size) bB w1 ((tg2_is w).below hb (Nat.le_refl _)) (by simp [tg2]) (tg2_sz _) (tg2_nm _) (by decide) (by simp [tg2, tgA, tgB])).mono fun e w' ⟨out, code, v, q1, q2, q3, q4⟩ => by
    obtain ⟨rfl, rfl⟩ := us2 _ q1
    exact ⟨v, q2, row_tx q3 (by decide), q4⟩
theorem bg_depth (w w1 : World) (hb : Below (W2 w).heap.size (W2 w) w1) : Calls Tryd.prog 8 #[.slice (some ⟨w.heap.size + 1, 0, none⟩) 2 2, .string aB] w1 fun e w' => e = .returned (.tuple #[.int .i64 1, .int .i64 0]) ∧ Hid (Below w1.heap.size w1 w') :=
  (Depth_any _ 2 (tg2 w.heap.size) aB w1 ((tg2_is w).below hb (Nat.le_refl _)) (by simp [tg2]) (tg2_sz _) (tg2_nm _) (by decide)).mono fun e w' ⟨n, code, q1, q2, q4⟩ => by
    obtain ⟨rfl, rfl⟩ := dp2 _ q1
    exact ⟨q2, q4⟩
theorem bg_check (w w1 : World) (hm : MaxIs w1) (hb : Below (W2 w).heap.size (W2 w) w1) : Calls Tryd.prog 9 #[.slice (some ⟨w.heap.size + 1, 0, none⟩) 1 2, .slice none 0 0] w1 fun e w' => e = .returned (.tuple #[.string ⟨#[]⟩, .int .i64 5]) ∧ Hid (Below w1.heap.size w1 w') := by
  have h := (tg2_is w).below hb (Nat.le_refl _)
  have h1 : IsTg w1 (some ⟨w.heap.size + 1, 0, none⟩) [tgA w.heap.size] := by
    refine ⟨?_, fun t ht => h.tx t ?_, fun t ht => h.sz t ?_⟩
    · rcases h.at_ with e | ⟨g, o, e, hg, hc⟩
      · cases e
      · refine .inr ⟨g, o, e, hg, fun j hj => ?_⟩
        have e0 : j = 0 := by simp at hj; omega
        subst e0
        exact hc 0 (by simp [tg2])
    · rw [List.mem_singleton.1 ht]; exact List.mem_cons_self
    · rw [List.mem_singleton.1 ht]; exact List.mem_cons_self
  have := Check_bad (some ⟨w.heap.size + 1, 0, none⟩) 2 [tgA w.heap.size] w1 h1 (by simp) (fun t ht => tg2_sz w.heap.size t (by rw [List.mem_singleton.1 ht]; exact List.mem_cons_self)) hm (by rw [ck1]; decide)
  rw [ck1] at this
  exact this

set_option maxHeartbeats 4000000 in
set_option maxRecDepth 100000 in
theorem begun_any (w : World) (hm : MaxIs w) : Calls Tryd.prog 4 #[] w fun e w' => e = .returned (.bool true) ∧ Below w.heap.size w w' := by
  have HM : Hid (∀ w1, Below w.heap.size w w1 → MaxIs w1) := fun w1 hb => hm.up hb
  have H0 : Hid (Below w.heap.size w (W2 w)) := W2_below w
  have H1 := bg_order w
  have H2 := bg_users w
  have H3 := bg_depth w
  have H4 := fun w1 (h : Below w.heap.size w w1) => bg_check w w1 (HM.out w1 h)
  clear hm HM
  unfold bB aB at H1
  unfold bB aB at H2
  unfold aB at H3
  have HS1 : Hid (∀ w4 v, TxIn w4 v [bB, aB] → Calls Tryd.prog 10 #[v, .slice (some ⟨w4.heap.size, 0, none⟩) 2 2] (w4.alloc (.cells #[.string ⟨#[98]⟩, .string ⟨#[97]⟩] 9)) fun e w' => e = .returned (.bool true) ∧ Hid (Below w4.heap.size w4 w')) := fun w4 v h => (Same_yes v _ [bB, aB] _ (h.below ((Below.refl _ w4).alloc (Nat.le_refl _) _) (Nat.le_refl _)) (tx_two w4 bB aB)).mono fun e w' q => ⟨q.1, by
    have hA : Below w4.heap.size w4 (w4.alloc (.cells #[.string ⟨#[98]⟩, .string ⟨#[97]⟩] 9)) := (Below.refl _ w4).alloc (Nat.le_refl _) _
    exact hA.trans (q.2.out.mono hA.size)⟩
  have HS2 : Hid (∀ w4 v, TxIn w4 v [aB] → Calls Tryd.prog 10 #[v, .slice (some ⟨w4.heap.size, 0, none⟩) 1 1] (w4.alloc (.cells #[.string ⟨#[97]⟩] 9)) fun e w' => e = .returned (.bool true) ∧ Hid (Below w4.heap.size w4 w')) := fun w4 v h => (Same_yes v _ [aB] _ (h.below ((Below.refl _ w4).alloc (Nat.le_refl _) _) (Nat.le_refl _)) (tx_one w4 aB)).mono fun e w' q => ⟨q.1, by
    have hA : Below w4.heap.size w4 (w4.alloc (.cells #[.string ⟨#[97]⟩] 9)) := (Below.refl _ w4).alloc (Nat.le_refl _) _
    exact hA.trans (q.2.out.mono hA.size)⟩
  obtain ⟨U, hU⟩ : ∃ U, U = W2 w := ⟨_, rfl⟩
  have HU : Hid (Below w.heap.size w U) := by rw [hU]; exact H0
  rw [← hU] at H1 H2 H3 H4
  unfold W2 aB bB nlS at hU
  clear H0
  go_enter Tryd.func4, Tryd.ntmps4
  go_wp2_with fail
  rw [← hU]
  clear hU
  generalize w.heap.size + 1 = g at *
  refine (H1 U (Below.refl _ _)).mono ?_
  rintro e w1 ⟨v1, rfl, G1⟩
  clear H1
  go_wp2_with fail
  have B1 : Hid (Below U.heap.size U w1) := G1.out.2
  refine (H2 w1 B1.out).mono ?_
  rintro e w2 ⟨v2, rfl, G2⟩
  clear H2
  go_wp2_with fail
  have B2 : Hid (Below U.heap.size U w2) := B1.out.trans (G2.out.2.mono B1.out.size)
  refine (H3 w2 B2.out).mono ?_
  rintro e w3 ⟨rfl, G3⟩
  clear H3
  go_wp2_with fail
  have B3 : Hid (Below U.heap.size U w3) := B2.out.trans (G3.out.mono B2.out.size)
  refine (H4 w3 (HU.out.trans (B3.out.mono HU.out.size)) B3.out).mono ?_
  rintro e w4 ⟨rfl, G4⟩
  clear H4
  have T1 : TxIn w4 v1 [bB, aB] := ((G1.out.1.below G2.out.2 (Nat.le_refl _)).below G3.out (Nat.le_refl _)).below G4.out (Nat.le_refl _)
  have HC1 := HS1.out w4 v1 T1
  have HT2 : Hid (TxIn w4 v2 [aB]) := (G2.out.1.below G3.out (Nat.le_refl _)).below G4.out (Nat.le_refl _)
  have B4 : Hid (Below w.heap.size w w4) := (HU.out.trans (B3.out.mono HU.out.size)).trans (G4.out.mono (Nat.le_trans HU.out.size B3.out.size))
  clear T1 G1 G2 G3 G4 HS1 HU B1 B2 B3
  go_wp2_with fail
  refine HC1.mono ?_
  rintro e w5 ⟨rfl, G5⟩
  have HC2 := HS2.out w5 v2 (HT2.out.below G5.out (Nat.le_refl _))
  clear HC1 HS2
  go_wp2_with fail
  refine HC2.mono ?_
  rintro e w6 ⟨rfl, G6⟩
  have B5 := B4.out.trans (G5.out.mono B4.out.size)
  have B6 : Hid (Below w.heap.size w w6) := B5.trans (G6.out.mono B5.size)
  clear HC2 HT2 B4 B5 G5 G6
  go_wp2
  go_ret
  exact ⟨rfl, B6.out⟩
end Go.Proofs.YtoccfkinnopnjaaDoor

/- Targets turned round: all is told as it was. -/
namespace Go.Proofs.YtoccfkinnopnjaaDoor
open Go.RowKit Go.Shelf Go.Maps
theorem any_perm {α : Type} {a b : List α} (h : a.Perm b) (p : α → Bool) : a.any p = b.any p := by
  rw [Bool.eq_iff_iff, List.any_eq_true, List.any_eq_true]
  exact ⟨fun ⟨x, h1, h2⟩ => ⟨x, h.mem_iff.1 h1, h2⟩, fun ⟨x, h1, h2⟩ => ⟨x, h.mem_iff.2 h1, h2⟩⟩
theorem has_perm {L M : List Tg} (h : L.Perm M) (k : List UInt8) : Maps.has (ndD L) (.string k) = Maps.has (ndD M) (.string k) := by
  rw [Bool.eq_iff_iff, has_mem, has_mem]
  exact (h.map tnm).mem_iff
theorem ckN_perm {L M : List Tg} (h : L.Perm M) : ckN L = ckN M := by
  have e : (fun t : Tg => lckB (ndD L) t.ns) = fun t => lckB (ndD M) t.ns := by
    funext t
    unfold lckB
    congr 1
    funext y
    rw [has_perm h]
  unfold ckN
  rw [h.length_eq, any_perm h, e, any_perm h fun t => lckB (ndD M) t.ns]
  by_cases hn : (L.map tnm).Nodup
  · rw [if_pos hn, if_pos ((h.map tnm).nodup_iff.1 hn)]
  · rw [if_neg hn, if_neg fun h2 => hn ((h.map tnm).nodup_iff.2 h2)]
theorem ckW_perm {L M : List Tg} (h : L.Perm M) (x : ByteArray) : ckW L x = ckW M x := by
  unfold ckW
  rw [ckN_perm h, has_perm h]
theorem nfL_perm {L M : List Tg} (h : L.Perm M) (hn : (L.map tnm).Nodup) : nfL L = nfL M := by
  funext k
  by_cases hk : k ∈ L.map tnm
  · obtain ⟨t, ht, rfl⟩ := List.mem_map.1 hk
    rw [nfL_of hn ht, nfL_of ((h.map tnm).nodup_iff.1 hn) (h.mem_iff.1 ht)]
  · have h1 : Maps.has (ndD L) (.string k) = false := Bool.eq_false_iff.2 fun e => hk (has_mem.1 e)
    have h2 : Maps.has (ndD M) (.string k) = false := by rw [← has_perm h]; exact h1
    rw [nfL, nfL, tgF_none h1, tgF_none h2]
theorem ls_perm {L M : List Tg} (h : L.Perm M) {o o2 : List ByteArray} {c c2 : Int} (h1 : LsA (ckN L) (nfL L) (fun k => k ∈ L.map tnm) o c) (h2 : LsA (ckN M) (nfL M) (fun k => k ∈ M.map tnm) o2 c2) : o = o2 ∧ c = c2 := by
  rw [← ckN_perm h] at h2
  exact h1.uniq h2 (fun _ k => (h.map tnm).mem_iff) fun h0 k _ => by rw [nfL_perm h (ckN_ok.1 h0).nod]
theorem cn_perm {L M : List Tg} (h : L.Perm M) {x : ByteArray} {o o2 : List ByteArray} {c c2 : Int} (h1 : LsA (ckW L x) (nfL L) (CnS L x) o c) (h2 : LsA (ckW M x) (nfL M) (CnS M x) o2 c2) : o = o2 ∧ c = c2 := by
  rw [← ckW_perm h] at h2
  exact h1.uniq h2 (fun h0 k => by unfold CnS; rw [nfL_perm h (ckW_ok.1 h0).1.nod]) fun h0 k _ => by rw [nfL_perm h (ckW_ok.1 h0).1.nod]
theorem dp_perm {L M : List Tg} (h : L.Perm M) {x : ByteArray} {n n2 c c2 : Int} (h1 : DpA (ckW L x) (nfL L) (CnS L x) (tl x) n c) (h2 : DpA (ckW M x) (nfL M) (CnS M x) (tl x) n2 c2) : n = n2 ∧ c = c2 := by
  rw [← ckW_perm h] at h2
  exact h1.uniq h2 (fun h0 k => by unfold CnS; rw [nfL_perm h (ckW_ok.1 h0).1.nod]) fun h0 k _ => by rw [nfL_perm h (ckW_ok.1 h0).1.nod]
theorem us_perm {L M : List Tg} (h : L.Perm M) {x : ByteArray} {o o2 : List ByteArray} {c c2 : Int} (h1 : UsA (ckW L x) (UsT L x) o c) (h2 : UsA (ckW M x) (UsT M x) o2 c2) : o = o2 ∧ c = c2 := by
  rw [← ckW_perm h] at h2
  exact h1.uniq h2 fun h0 k => by unfold UsT; rw [nfL_perm h (ckW_ok.1 h0).1.nod, (h.map tnm).mem_iff]
/-- Targets, turned: those from k on, then the others. -/
def rotL (L : List Tg) (k : Nat) : List Tg := L.drop k ++ L.take k
theorem rotL_perm (L : List Tg) (k : Nat) : (rotL L k).Perm L := by
  unfold rotL
  exact List.perm_append_comm.trans (by rw [List.take_append_drop])
theorem out_len {L : List Tg} {c : Int} {S : List UInt8 → Prop} {o : List ByteArray} {e : Int} (h : LsA c (nfL L) S o e) (hs : c = 0 → ∀ k, S k → k ∈ L.map tnm) (hl : L.length ≤ 1048576) : o.length ≤ 1048576 := by
  rcases h with ⟨_, rfl, _⟩ | ⟨h0, ks, q, hq, ⟨_, rfl, _⟩ | ⟨h2, rfl, _⟩⟩
  · exact Nat.zero_le _
  · exact Nat.zero_le _
  · rw [h2]
    refine Nat.le_trans (hq.nod.length_le_of_subset (l₂ := L.map tnm) fun k hk => hs h0 k ((hq.mem k).1 hk)) ?_
    rw [List.length_map]
    exact hl
theorem us_len {L : List Tg} {x : ByteArray} {o : List ByteArray} {e : Int} (h : UsA (ckW L x) (UsT L x) o e) (hl : L.length ≤ 1048576) : o.length ≤ 1048576 := by
  rcases h with ⟨_, rfl, _⟩ | ⟨h0, _, q, hq⟩
  · exact Nat.zero_le _
  · have := (lt_nodup q).length_le_of_subset (l₂ := L.map tnm) fun k hk => ((hq k).1 hk).1
    rw [List.length_map, List.length_map] at this
    omega
theorem cn_in {L : List Tg} {x : ByteArray} (h : ckW L x = 0) : ∀ k, CnS L x k → k ∈ L.map tnm := fun k hk => by
  obtain ⟨hN, hx⟩ := ckW_ok.1 h
  refine hk (fun k => k ∈ L.map tnm) (fun j hj => by rw [hj]; exact hx) fun a ha y hy => ?_
  obtain ⟨z, hz, rfl⟩ := List.mem_map.1 hy
  exact hN.cl a ha z hz
end Go.Proofs.YtoccfkinnopnjaaDoor

/- Targets turned round, in memory: both appends. -/
namespace Go.Proofs.YtoccfkinnopnjaaDoor
open Go.RowKit Go.Shelf Go.Maps
attribute [local go_sem ↓] appG_eq2
def tgCells (L : List Tg) : List Value := L.flatMap tgC
theorem tgCells_app (A C : List Tg) : tgCells (A ++ C) = tgCells A ++ tgCells C := by simp [tgCells]
theorem tgCells_len (A : List Tg) : (tgCells A).length = A.length * 5 := by
  induction A with
  | nil => rfl
  | cons f l ih =>
    have e : tgCells (f :: l) = tgC f ++ tgCells l := rfl
    rw [e, List.length_append, ih, List.length_cons]
    simp [tgC]
    omega
theorem tgCells_get (L : List Tg) (j : Nat) (hj : j < L.length) (i : Nat) (hi : i < 5) : (tgCells L)[j * 5 + i]? = (tgC L[j])[i]? := by
  induction L generalizing j with
  | nil => simp at hj
  | cons f l ih =>
    have e : tgCells (f :: l) = tgC f ++ tgCells l := rfl
    rw [e]
    cases j with
    | zero => rw [Nat.zero_mul, Nat.zero_add, List.getElem?_append_left (by simpa [tgC] using hi)]; rfl
    | succ j =>
      have h5 : (tgC f).length = 5 := rfl
      rw [List.getElem?_append_right (by rw [h5]; omega), h5, show (j + 1) * 5 + i - 5 = j * 5 + i by omega]
      exact ih j (by simpa using hj)
theorem tgAt_cells {w : World} {g o : Nat} {F : List Tg} (h : TgAt g o F w) : ∀ j u, (tgCells F)[j]? = some u → w.cell? ⟨g, o + j, none⟩ = some u := fun j u hu => by
  have hj : j < (tgCells F).length := (List.getElem?_eq_some_iff.1 hu).1
  rw [tgCells_len] at hj
  have hq : j / 5 < F.length := by omega
  obtain ⟨h0, h1, h2, h3, h4⟩ := h (j / 5) hq
  have e2 : j = j / 5 * 5 + j % 5 := by omega
  have hm : j % 5 < 5 := by omega
  rw [e2, tgCells_get F (j / 5) hq (j % 5) hm] at hu
  rw [e2]
  generalize j % 5 = i at *
  rcases (show i = 0 ∨ i = 1 ∨ i = 2 ∨ i = 3 ∨ i = 4 by omega) with rfl | rfl | rfl | rfl | rfl
  · rw [← hu]; exact h0
  · rw [← hu, ← Nat.add_assoc]; exact h1
  · rw [← hu, ← Nat.add_assoc]; exact h2
  · rw [← hu, ← Nat.add_assoc]; exact h3
  · rw [← hu, ← Nat.add_assoc]; exact h4
theorem cells_tgAt {w : World} {g o : Nat} {F : List Tg} (h : ∀ j u, (tgCells F)[j]? = some u → w.cell? ⟨g, o + j, none⟩ = some u) : TgAt g o F w := fun j hj => by
  have k : ∀ i (hi : i < 5) u, (tgC F[j])[i]? = some u → w.cell? ⟨g, o + j * 5 + i, none⟩ = some u := fun i hi u hu => by
    rw [Nat.add_assoc]
    exact h _ u ((tgCells_get F j hj i hi).trans hu)
  exact ⟨k 0 (by omega) _ rfl, k 1 (by omega) _ rfl, k 2 (by omega) _ rfl, k 3 (by omega) _ rfl, k 4 (by omega) _ rfl⟩
theorem tgAt_drop {w : World} {g o : Nat} {F : List Tg} (h : TgAt g o F w) (k : Nat) : TgAt g (o + k * 5) (F.drop k) w := fun j hj => by
  have hj2 : k + j < F.length := by rw [List.length_drop] at hj; omega
  have e : o + k * 5 + j * 5 = o + (k + j) * 5 := by omega
  rw [e, List.getElem_drop]
  exact h (k + j) hj2
theorem tgAt_take {w : World} {g o : Nat} {F : List Tg} (h : TgAt g o F w) (k : Nat) : TgAt g o (F.take k) w := fun j hj => by
  have hj2 : j < F.length := by rw [List.length_take] at hj; omega
  rw [List.getElem_take]
  exact h j hj2
/-- Each list of a target is a slice. -/
def Sls (L : List Tg) : Prop := ∀ t ∈ L, IsSl t.vs ∧ IsSl t.vn ∧ IsSl t.vo ∧ IsSl t.vc
theorem sl_one {v : Value} (h : IsSl v) : v.oneCell' = true := by
  obtain ⟨ao, n, c, rfl⟩ := h
  rfl
theorem tgCells_one {L : List Tg} (h : Sls L) : ∀ u ∈ tgCells L, u.oneCell' = true := fun u hu => by
  obtain ⟨t, ht, hf⟩ := List.mem_flatMap.1 hu
  obtain ⟨h1, h2, h3, h4⟩ := h t ht
  simp [tgC] at hf
  rcases hf with rfl | rfl | rfl | rfl | rfl
  · rfl
  · exact sl_one h1
  · exact sl_one h2
  · exact sl_one h3
  · exact sl_one h4
theorem infTg : (Tryd.prog.info? 30).map (fun i => (i.zero, i.size, i.bytes)) = some (some (.agg #[.string ⟨#[]⟩, .slice none 0 0, .slice none 0 0, .slice none 0 0, .slice none 0 0]), 5, 112) := by kernel_rfl
theorem rot_ap {g o cap : Nat} {L : List Tg} {X Y : World} (hF : TgAt g o L X) (hg : g < X.heap.size) (hS : Sls L) (hY : Below X.heap.size X Y) (hE : Y.heap[X.heap.size]? = some (.cells #[] 30 (0, 0))) (hn : L.length ≤ 1048576) (k : Nat) (hk : k < L.length) :
    ∃ (v1 : Value) (rg rc : Nat) (w1 w2 : World), (appG #[22, 22] 22 #[.slice (some ⟨X.heap.size, 0, none⟩) 0 0, .slice (some ⟨g, o + k * 5, none⟩) (L.length - k) (cap - k)]).run Tryd.prog Y = .ok v1 w1 ∧
      (appG #[22, 22] 22 #[v1, .slice (some ⟨g, o, none⟩) k cap]).run Tryd.prog w1 = .ok (.slice (some ⟨rg, 0, none⟩) L.length rc) w2 ∧
      TgAt rg 0 (rotL L k) w2 ∧ rg < w2.heap.size ∧ Below X.heap.size X w2 := by
  obtain ⟨i0, hi, hz0, hz1, hz2⟩ := infoG infTg
  have hlt : X.heap.size < Y.heap.size := (Array.getElem?_eq_some_iff.1 hE).1
  have hFY : TgAt g o L Y := hF.below hY hg
  have hown0 : Y.ownsRow X.heap.size 30 5 (.slice (some ⟨X.heap.size, 0, none⟩) 0 0) 0 [] := ⟨rfl, .inr ⟨X.heap.size, 0, #[], rfl, Nat.le_refl _, hE, Nat.le_refl _, by decide, rfl, rfl⟩⟩
  obtain ⟨v1, w1, hr1, ho1, hg1', _⟩ := run_append_own (P := Tryd.prog) Y X.heap.size 22 22 30 i0 (.agg #[.string ⟨#[]⟩, .slice none 0 0, .slice none 0 0, .slice none 0 0, .slice none 0 0]) 5 112 Tryd.underlying22 hi hz0 hz1 hz2 rfl (by decide) (.slice (some ⟨X.heap.size, 0, none⟩) 0 0) 0 [] hown0 ⟨g, o + k * 5, none⟩ (L.length - k) (cap - k) (tgCells (L.drop k)) (by rw [tgCells_len, List.length_drop]) (fun j u hu => by rw [addr_add]; exact tgAt_cells (tgAt_drop hFY k) j u hu) (tgCells_one fun t ht => hS t (List.mem_of_mem_drop ht)) (by unfold maxLen; omega) (by omega) (by omega)
  have hw1 : Below X.heap.size X w1 := ⟨hg1'.os.trans hY.os, hg1'.tape.trans hY.tape, hg1'.output.trans hY.output, by have := hg1'.size; have := hY.size; omega, fun x hx => (hg1'.block x (by omega) (fun e => by simp [Value.ownBlock] at e; omega)).trans (hY.block x hx)⟩
  have hF1 : TgAt g o L w1 := hF.below hw1 hg
  have hs1 := hw1.size
  obtain ⟨v2, w2, hr2, ho2, hg2', _⟩ := run_append_own (P := Tryd.prog) w1 X.heap.size 22 22 30 i0 (.agg #[.string ⟨#[]⟩, .slice none 0 0, .slice none 0 0, .slice none 0 0, .slice none 0 0]) 5 112 Tryd.underlying22 hi hz0 hz1 hz2 rfl (by decide) v1 _ _ ho1 ⟨g, o, none⟩ k cap (tgCells (L.take k)) (by rw [tgCells_len, List.length_take]; omega) (fun j u hu => by rw [addr_add]; exact tgAt_cells (tgAt_take hF1 k) j u hu) (tgCells_one fun t ht => hS t (List.mem_of_mem_take ht)) (by unfold maxLen; omega) (by omega) (by omega)
  have el : 0 + (L.length - k) + k = L.length := by omega
  have ec : [] ++ tgCells (L.drop k) ++ tgCells (L.take k) = tgCells (rotL L k) := by rw [List.nil_append, ← tgCells_app]; rfl
  rw [el, ec] at ho2
  obtain ⟨rg, rc, hv2, hrg, hrg2⟩ := ho2.form (by omega)
  subst hv2
  refine ⟨v1, rg, rc, w1, w2, hr1, hr2, cells_tgAt fun j u hu => ?_, hrg2, hw1.grown hg2' hw1.size (fun x hx => (ho1.lt x hx).1)⟩
  have := ho2.cells rfl j u hu
  rwa [addr_add] at this
theorem rot_is {w w2 : World} {ao : Option Addr} {L : List Tg} {rg k : Nat} (h : IsTg w ao L) (hb : Below w.heap.size w w2) (hc : TgAt rg 0 (rotL L k) w2) (hg : rg < w2.heap.size) : IsTg w2 (some ⟨rg, 0, none⟩) (rotL L k) := by
  have h2 := h.below hb (Nat.le_refl _)
  exact ⟨.inr ⟨rg, 0, rfl, hg, hc⟩, fun t ht => h2.tx t ((rotL_perm L k).mem_iff.1 ht), fun t ht => h2.sz t ((rotL_perm L k).mem_iff.1 ht)⟩
theorem sls_of {w : World} {ao : Option Addr} {L : List Tg} (h : IsTg w ao L) : Sls L := fun t ht => ⟨(h.tx t ht).1.1, (h.tx t ht).2.1.1, (h.tx t ht).2.2.1.1, (h.tx t ht).2.2.2.1⟩
theorem appTN (g : Nat) (c : Nat) (W : World) (ao : Option Addr) : (appG #[22, 22] 22 #[.slice (some ⟨g, 0, none⟩) 0 0, .slice ao 0 c]).run Tryd.prog W = .ok (.slice (some ⟨g, 0, none⟩) 0 0) W := by
  obtain ⟨i0, hi, hz0, hz1, hz2⟩ := infoG infTg
  show (Builtin.append_ #[22, 22] 22 #[.slice (some ⟨g, 0, none⟩) 0 0, .slice ao 0 c]).run Tryd.prog W = _
  cases ao <;> simp [Builtin.append_, run_underlying Tryd.underlying22, sizeOf, typeInfo, hi, Builtin.lenOf, Builtin.firstCells, storeCells, loadCells, loadCellsFrom]
end Go.Proofs.YtoccfkinnopnjaaDoor

/- Targets turned round: the law's walk. -/
namespace Go.Proofs.YtoccfkinnopnjaaDoor
open Go.RowKit Go.Shelf Go.Maps
attribute [local go_sem ↓] appG_eq2

theorem Fine.rot {w w2 : World} {ao : Option Addr} {L : List Tg} {rg k : Nat} (h : Fine w ao L) (hb : Below w.heap.size w w2) (hc : TgAt rg 0 (rotL L k) w2) (hg : rg < w2.heap.size) : Fine w2 (some ⟨rg, 0, none⟩) (rotL L k) := by
  have hp := rotL_perm L k
  refine ⟨rot_is h.is hb hc hg, by rw [hp.length_eq]; exact h.len, fun t ht => h.sz t (hp.mem_iff.1 ht), fun t ht => h.nm t (hp.mem_iff.1 ht), ?_⟩
  rw [(hp.map fun t => t.ns.length).sum_nat]
  exact h.sum

theorem Fine.order {w : World} {ao : Option Addr} {L : List Tg} (h : Fine w ao L) (n cap : Nat) (hn : n = L.length) (W : World) (hb : Below w.heap.size w W) : Calls Tryd.prog 5 #[.slice ao n cap] W fun e w' => ∃ v code, e = .returned (.tuple #[v, .int .i64 code]) ∧ Hid (∃ out, LsA (ckN L) (nfL L) (fun k => k ∈ L.map tnm) out code ∧ TxIn w' v out ∧ Below W.heap.size W w') := by
  subst hn
  refine (Order_tw ao cap L W (h.below hb).is h.len h.sz h.nm).mono fun e w' ⟨out, code, v, q1, q2, q3, q4⟩ => ⟨v, code, q2, out, q1, row_tx q3 (out_len q1 (fun _ k hk => hk) h.len), q4⟩

theorem Fine.users {w : World} {ao : Option Addr} {L : List Tg} (h : Fine w ao L) (n cap : Nat) (hn : n = L.length) (x : ByteArray) (hx : x.size ≤ maxLen) (W : World) (hb : Below w.heap.size w W) : Calls Tryd.prog 7 #[.slice ao n cap, .string x] W fun e w' => ∃ v code, e = .returned (.tuple #[v, .int .i64 code]) ∧ Hid (∃ out, UsA (ckW L x) (UsT L x) out code ∧ TxIn w' v out ∧ Below W.heap.size W w') := by
  subst hn
  refine (Users_tw ao cap L x W (h.below hb).is h.len h.sz h.nm hx h.sum).mono fun e w' ⟨out, code, v, q1, q2, q3, q4⟩ => ⟨v, code, q2, out, q1, row_tx q3 (us_len q1 h.len), q4⟩

theorem Fine.depth {w : World} {ao : Option Addr} {L : List Tg} (h : Fine w ao L) (n cap : Nat) (hn : n = L.length) (x : ByteArray) (hx : x.size ≤ maxLen) (W : World) (hb : Below w.heap.size w W) : Calls Tryd.prog 8 #[.slice ao n cap, .string x] W fun e w' => ∃ d code, e = .returned (.tuple #[.int .i64 d, .int .i64 code]) ∧ Hid (DpA (ckW L x) (nfL L) (CnS L x) (tl x) d code ∧ Below W.heap.size W w') := by
  subst hn
  refine (Depth_any ao cap L x W (h.below hb).is h.len h.sz h.nm hx).mono fun e w' ⟨d, code, q1, q2, q3⟩ => ⟨d, code, q2, q1, q3⟩
end Go.Proofs.YtoccfkinnopnjaaDoor

/- Circle of targets, told by what is plain. -/
namespace Go.Proofs.YtoccfkinnopnjaaDoor
open Go.RowKit Go.Shelf Go.Maps Go.WideMaps
/-- What Circle tells. -/
def CcA (L : List Tg) (out : List ByteArray) (code : Int) : Prop := (ckN L ≠ 0 ∧ out = [] ∧ code = ckN L) ∨ (ckN L = 0 ∧ code = 0 ∧ ((Cyc (ndT (nfL L)) (out.map tl) ∧ ∀ y ∈ out, tl y ∈ L.map tnm) ∨ (out = [] ∧ ∀ k ∈ L.map tnm, ¬ Rp (ndT (nfL L)) k k)))

set_option maxHeartbeats 4000000 in
set_option maxRecDepth 100000 in
theorem Circle_tw (ao : Option Addr) (cap : Nat) (L : List Tg) (w : World) (hl : IsTg w ao L) (hn : L.length ≤ 1048576) (hs : ∀ t ∈ L, ∀ y ∈ t.ns, y.size ≤ maxLen) (hk : ∀ t ∈ L, (tnm t).length ≤ maxLen) :
    Calls Tryd.prog 6 #[.slice ao L.length cap] w (TwP (CcA L) w) := by
  have H1 := needsOf_any ao cap L w hl hn hs
  unfold NdP at H1
  by_cases h0 : ckN L = 0
  · have hN := ckN_ok.1 h0
    have HC : Hid (∀ M n w1, w1.ownsMap Tryd.prog 9 slE M n (ndD L) → n ≤ 60 → Below w.heap.size w w1 → Calls Tryd.prog 13 #[.map (some M)] w1 fun e w' => ∃ fv, e = .returned fv ∧ Hid (TwP (CcA L) w (.returned (.tuple #[fv, .int .i64 0])) w')) := fun M n w1 g1 g2 g3 => (circle_any M n (ndD L) (nfL L) (lfL L) (L.map tnm) w1 (lt_of g1 (fun t ht => ((hl.tx t ht).2.1).below g3 (Nat.le_refl _)) hs) g2 (by rw [List.length_map]; exact hN.len) hN.nod (fun k => has_mem.symm) hN.cl (fun k hk2 => by
      obtain ⟨t, ht, rfl⟩ := List.mem_map.1 hk2
      exact hk t ht)).mono fun e w' ⟨fv, c, q1, q2, q3, q4⟩ => ⟨fv, q1, c, 0, fv, .inr ⟨h0, rfl, q4⟩, rfl, row_low q2 g3.size, g3.trans (q3.mono g3.size)⟩
    rw [h0] at H1
    clear hl hn hs hk hN
    generalize L.length = ln at *
    go_enter Tryd.func6, Tryd.ntmps6
    go_wp2_with (first
      | (go_at_call 11; refine H1.mono ?_; rintro e w1 ⟨mo, rfl, g1, g2, g3⟩; obtain ⟨M, n, rfl, g4, g5, g6⟩ := g2 rfl; have H2 := HC.out M n w1 g6 g5 g3; clear g1 g2 g3 g4 g5 g6 H1 HC)
      | (go_at_call 13; refine H2.mono ?_; rintro e w2 ⟨fv, rfl, H3⟩)
      | go_in)
    go_ret2
    exact H3.out
  · have HZ : Hid (∀ w', Below w.heap.size w w' → TwP (CcA L) w (.returned (.tuple #[.slice none 0 0, .int .i64 (ckN L)])) w') := fun w' hb => TwP.bad hb (.inl ⟨h0, rfl, rfl⟩)
    generalize ckN L = c at *
    have hc1 : ¬(c : Int) = 0 := h0
    clear h0 hl hn hs hk
    generalize L.length = ln at *
    go_enter Tryd.func6, Tryd.ntmps6
    go_wp2_with (first
      | (go_at_call 11; refine H1.mono ?_; rintro e w1 ⟨mo, rfl, g1, g2, g3⟩; have HB : Hid (Below w.heap.size w w1) := g3; clear g1 g2 g3 H1)
      | go_in)
    go_ret2
    exact HZ.out _ HB.out
theorem cc_len {L : List Tg} {out : List ByteArray} {c : Int} (h : CcA L out c) (hl : L.length ≤ 1048576) : out.length ≤ 1048576 := by
  rcases h with ⟨_, rfl, _⟩ | ⟨_, _, ⟨h1, h2⟩ | ⟨rfl, _⟩⟩
  · exact Nat.zero_le _
  · have := h1.nod.length_le_of_subset (l₂ := L.map tnm) fun k hk => by
      obtain ⟨y, hy, rfl⟩ := List.mem_map.1 hk
      exact h2 y hy
    rw [List.length_map, List.length_map] at this
    omega
  · exact Nat.zero_le _
theorem Fine.circle {w : World} {ao : Option Addr} {L : List Tg} (h : Fine w ao L) (n cap : Nat) (hn : n = L.length) (W : World) (hb : Below w.heap.size w W) : Calls Tryd.prog 6 #[.slice ao n cap] W fun e w' => ∃ v code, e = .returned (.tuple #[v, .int .i64 code]) ∧ Hid (∃ out, CcA L out code ∧ TxIn w' v out ∧ Below W.heap.size W w' ∧ ∀ va vn vc, v = .slice va vn vc → out.length ≤ vc) := by
  subst hn
  refine (Circle_tw ao cap L W (h.below hb).is h.len h.sz h.nm).mono fun e w' ⟨out, code, v, q1, q2, q3, q4⟩ => ⟨v, code, q2, out, q1, row_tx q3 (cc_len q1 h.len), q4, fun va vn vc e => ?_⟩
  rcases q3.2 with ⟨_, h1⟩ | ⟨g, c, cur, h1, _, _, h2, _⟩
  · omega
  · rw [h1] at e
    injection e with _ _ e3
    omega
end Go.Proofs.YtoccfkinnopnjaaDoor

/- Circles, plain: where an order does not come to its end there is one. -/
namespace Go.Proofs.YtoccfkinnopnjaaDoor
open Go.RowKit Go.Shelf Go.Maps
theorem loop_of {nd : List UInt8 → List (List UInt8)} {V : List UInt8 → Prop} {ks : List (List UInt8)} (hk : ∀ x, V x → x ∈ ks) (hs : ∀ x, V x → ∃ y ∈ nd x, V y) {x0 : List UInt8} (h0 : V x0) : ∃ x, V x ∧ Rp nd x x := by
  have hc : ∀ x : {x // V x}, ∃ y : {y // V y}, y.val ∈ nd x.val := fun x => by
    obtain ⟨y, h1, h2⟩ := hs x.val x.property
    exact ⟨⟨y, h2⟩, h1⟩
  obtain ⟨g, hg⟩ := Classical.axiomOfChoice hc
  let sq : Nat → {x // V x} := fun n => Nat.rec ⟨x0, h0⟩ (fun _ x => g x) n
  have hstep : ∀ n, (sq (n + 1)).val ∈ nd (sq n).val := fun n => hg (sq n)
  have hrp : ∀ d i, Rp nd (sq i).val (sq (i + (d + 1))).val := fun d i => by
    induction d with
    | zero => exact Rs.base (hstep i)
    | succ d ih => exact Rs.step ih (hstep (i + (d + 1)))
  apply Classical.byContradiction
  intro hno
  have hnd : ((List.range (ks.length + 1)).map fun n => (sq n).val).Nodup := by
    rw [List.nodup_iff_pairwise_ne, List.pairwise_iff_getElem]
    intro i j hi hj hij e
    simp at e
    have := hrp (j - i - 1) i
    rw [show i + (j - i - 1 + 1) = j by omega, ← e] at this
    exact hno ⟨_, (sq i).property, this⟩
  have := hnd.length_le_of_subset (l₂ := ks) fun x hx => by
    obtain ⟨n, _, rfl⟩ := List.mem_map.1 hx
    exact hk _ (sq n).property
  simp at this
  omega
/-- An order comes to its end just where there is no circle. -/
theorem OrQ.circ {nf : List UInt8 → List ByteArray} {S : List UInt8 → Prop} {ks : List (List UInt8)} {o : List ByteArray} (h : OrQ nf S ks o) (hc : ∀ k, S k → ∀ y ∈ ndT nf k, S y) : o.length < ks.length ↔ ∃ k, S k ∧ Rp (ndT nf) k k := by
  have hle : o.length ≤ ks.length := by
    have := h.kn.nodup.length_le_of_subset h.kn.sub
    simpa using this
  constructor
  · intro hl
    have hex : ∃ x0, x0 ∈ ks ∧ x0 ∉ o.map tl := by
      apply Classical.byContradiction
      intro hno
      have := h.nod.length_le_of_subset (l₂ := o.map tl) fun k hk => Classical.byContradiction fun hn => hno ⟨k, hk, hn⟩
      simp at this
      omega
    obtain ⟨x0, h1, h2⟩ := hex
    obtain ⟨x, ⟨hx, _⟩, hr⟩ := loop_of (nd := ndT nf) (V := fun x => S x ∧ x ∉ o.map tl) (ks := ks) (fun x hx => (h.mem x).2 hx.1) (fun x hx => by
      have hst := h.stop x ((h.mem x).2 hx.1) hx.2
      obtain ⟨y, hy⟩ := Classical.not_forall.1 hst
      obtain ⟨hy1, hy2⟩ := Classical.not_imp.1 hy
      exact ⟨y, hy1, hc x hx.1 y hy1, hy2⟩) (x0 := x0) ⟨(h.mem x0).1 h1, h2⟩
    exact ⟨x, hx, hr⟩
  · rintro ⟨k, hk, hr⟩
    apply Classical.byContradiction
    intro hge
    have hall := all_out h.kn.nodup h.kn.sub (by simp; omega) k ((h.mem k).2 hk)
    exact h.kn.noLoop hall hr
end Go.Proofs.YtoccfkinnopnjaaDoor

/- A slice of texts that came in as an argument. -/
namespace Go.Proofs.YtoccfkinnopnjaaDoor
open Go.ChangeShapes Go.WideShapes Go.ChangeAt Go.RowKit Go.Shelf
open Go.ChangeMaps (open_string shut_string)

theorem own : ownKnob Tryd.prog.godebug = none := by kernel_rfl
theorem laidOut : laidOutB Tryd.prog = true := by kernel_rfl
theorem bytesS : Tryd.prog.bytesOf 9 = 16 := by kernel_rfl
set_option maxRecDepth 100000 in
/-- A slice of texts that came in. -/
theorem arg_texts {H : Type} {enc : TypeId × Value → H} {W : World} {v : Value} {d : DataW H} {p : List MemPlace} {base : Nat}
    (hv : Value.okWide Tryd.prog W .any base 24 v) (h : DataW.Trod enc Tryd.prog W 0 (fun _ => true) true 24 v d p) (hr : ∀ elems sp, d = .slice elems sp → elems.length ≤ 4611686018427387904) : ∃ ss, IsTexts W v ss := by
  obtain ⟨a, len, cap, rfl⟩ := okWide_slice Tryd.underlying24 hv
  obtain ⟨fuel, hf⟩ := h
  rcases open_strings Tryd.underlying24 Tryd.underlying9 (by kernel_rfl) hf with ⟨hcs, _⟩ | ⟨x, l, c, ss, hcs, _, hl, hm, hz, hx, hcell, hws⟩
  · simp [Value.cells] at hcs
    obtain ⟨rfl, rfl, rfl⟩ := hcs
    exact ⟨[], by decide, none, 0, rfl, Or.inl rfl⟩
  · simp [Value.cells] at hcs
    obtain ⟨rfl, rfl, rfl⟩ := hcs
    have hz' : ss.length = cap := by simpa using hz
    have hlen : (ss.take len).length = len := by rw [List.length_take]; omega
    have hb : len ≤ 4611686018427387904 := by
      have := hr _ _ (congrArg Prod.fst hx)
      simp [Go.ChangeShapes.strs] at this
      omega
    refine ⟨ss.take len, by rw [hlen]; exact hb, some x, cap, by rw [hlen], ?_⟩
    by_cases h0 : len = 0
    · exact Or.inl (by rw [h0]; rfl)
    · obtain ⟨b, off, spot⟩ := x
      have hspot : spot = none := by simpa [Addr.add] using World.cell?_spot (hcell 0 (by omega))
      subst hspot
      refine Or.inr ⟨b, off, rfl, fun j hj => ?_⟩
      rw [hlen] at hj
      rw [← Go.WideShapes.add_plain, hcell j (by omega)]
      simp [List.getD, List.getElem?_eq_getElem (show j < ss.length by omega)]

theorem arg_len {H : Type} {ts : List TypeId} {ds : List (DataW H)} (hsz : (DataW.weightsEach Tryd.prog ts ds).all (· ≤ reachBytes) = true) (j : Nat) (d : DataW H) (ht : ts[j]? = some 24) (hd : ds[j]? = some d) :
    ∀ elems sp, d = .slice elems sp → elems.length ≤ 4611686018427387904 := fun elems sp he => by
  have h1 := sized_slice hsz (j := j) (t := 24) ht (by rw [hd, he]) Tryd.underlying24
  have h2 := reachBytes_lt
  rw [bytesS] at h1
  omega
end Go.Proofs.YtoccfkinnopnjaaDoor

/- A law whose row lists variables of the program: its wrap, the world's shape kept. -/
namespace Go.Proofs.YtoccfkinnopnjaaDoor
open Go.ChangeShapes Go.WideShapes Go.ChangeAt Go.RowKit Go.Shelf

/-- What is asked of a call in a world that can be met. -/
def Meets {H : Type} (enc : TypeId × Value → H) (f : FuncId) (fn : Func) (s : ChangeSpec) (laid : List (String × DataW Unit)) : Prop :=
  ∀ (W : World) (base : Nat) (args : Array Value) (ds gs : List (DataW H)) (before : List MemPlace),
    (∀ (j : Nat) t v, fn.params[j]? = some t → args[j]? = some v → Value.okWide Tryd.prog W .any base t v) →
    DataW.Whole enc Tryd.prog fn.params.toList s.vars false W args.toList ds gs before →
    (DataW.weightsEach Tryd.prog (fn.params.toList ++ s.plain.varTypes Tryd.prog) (ds ++ gs)).all (· ≤ reachBytes) = true →
    laidMetH Tryd.prog laid W → W.ShapedOpen Tryd.prog →
    Calls Tryd.prog f args W fun e W' => ∃ v, e = .returned v ∧ s.post enc Tryd.prog fn false true false false W args v W'

set_option maxRecDepth 100000 in
theorem returns_laid {H : Type} {enc : TypeId × Value → H} {os : Os} {f : FuncId} {fn : Func} {s : ChangeSpec} {conds : List PathCond} {laid : List (String × DataW Unit)}
    (own : ownKnob Tryd.prog.godebug = none) (started : os.Started) (noInit : Tryd.checked.prog.inits.idxOf? f = none) (hfn : Tryd.checked.prog.funcs[f]? = some fn)
    (start : ∃ (w : World) (tape : Tape) (i : Input), w.os = os ∧ (w.forCall tape i).Shaped Tryd.checked.prog ∧ i.vars = [] ∧ Input.okWide Tryd.checked.prog (w.forCall tape i) .any w.heap.size f i ∧
      ((s.pre enc Tryd.checked.prog fn conds false (w.forCall tape i).memory i.args ∧ laidMetH Tryd.prog laid (w.forCall tape i).memory) ∧ sizedMet enc Tryd.checked.prog fn (OpenSpec.ofChange s) false (w.forCall tape i).memory i.args) ∧ Assume.holds {} Tryd.checked.prog (lone (Frame.enter Tryd.checked.prog f i.args .normal) [] (w.forCall tape i)))
    (meets : Meets enc f fn s laid) :
    ReturnsInHanded {} Tryd.checked os f .any (fun w args => (s.pre enc Tryd.prog fn conds false w args ∧ laidMetH Tryd.prog laid w) ∧ sizedMet enc Tryd.prog fn (OpenSpec.ofChange s) false w args) (s.post enc Tryd.prog fn false true false false) := by
  refine returnsInHanded_of_calls own started noInit start fun w tape i _ shape _ wide met _ => ?_
  obtain ⟨_, _, _, fn', h, _, _, _, _, vals⟩ := wide
  cases Option.some.inj (h.symm.trans hfn)
  obtain ⟨⟨⟨ds, gs, before, whole, _⟩, lies⟩, sized⟩ := met
  refine (meets (w.forCall tape i) w.heap.size i.args ds gs before vals (DataW.Whole.of_heap (w' := w.forCall tape i) (by rfl) whole) (sized.weights whole) (laidMetH.of_heap (by rfl) lies) shape).mono ?_
  rintro e W' ⟨v, rfl, post⟩
  exact ChangeSpec.post_blind post

set_option maxRecDepth 100000 in
theorem max_of_shaped {W : World} (h : W.ShapedOpen Tryd.prog) : MaxIs W :=
  cell_of_shapedOpen_int (t := 3) (zero := #[.int .i64 0]) h (by decide +kernel) (by kernel_rfl) rfl (by kernel_rfl) (by kernel_rfl) Tryd.underlying3
end Go.Proofs.YtoccfkinnopnjaaDoor

/- The second form of a row that lists variables, the world's shape kept: its witness. -/
namespace Go.Proofs.YtoccfkinnopnjaaDoor
open Go.ChangeShapes Go.WideShapes Go.ChangeAt Go.RowKit Go.Shelf

theorem witness_up {H : Type} {enc : TypeId × Value → H} {C : Checked} {os : Os} {f : FuncId} {fn : Func} {s : OpenSpec} {conds : List PathCond} {apart : Bool} {laid : List (String × DataW Unit)} (w0 : World) (args : Array Value) (hos : w0.os = os)
    (hsh : (w0.forCall (fun _ _ => 0) ⟨#[], args, []⟩).Shaped C.prog)
    (hok : Input.okWideB C.prog (w0.forCall (fun _ _ => 0) ⟨#[], args, []⟩) f ⟨#[], args, []⟩ = true)
    (hrow : s.preRow enc C.prog fn conds apart laid (w0.forCall (fun _ _ => 0) ⟨#[], args, []⟩).memory args) :
    ∃ (w : World) (tape : Tape) (i : Input), w.os = os ∧ (w.forCall tape i).Shaped C.prog ∧ i.vars = [] ∧ Input.okWide C.prog (w.forCall tape i) .any w.heap.size f i ∧
      s.preRow enc C.prog fn conds apart laid (w.forCall tape i).memory i.args ∧ ({} : Assume).holds C.prog (lone (Frame.enter C.prog f i.args .normal) [] (w.forCall tape i)) :=
  ⟨w0, fun _ _ => 0, ⟨#[], args, []⟩, hos, hsh, (Input.okWide_of_okWideB (base := 0) hok).1, (Input.okWide_of_okWideB hok).2, hrow, by
    simp only [Assume.holds]
    exact ⟨by simp, by simp, fun _ => Modest.zero, by simp, by simp⟩⟩
end Go.Proofs.YtoccfkinnopnjaaDoor
