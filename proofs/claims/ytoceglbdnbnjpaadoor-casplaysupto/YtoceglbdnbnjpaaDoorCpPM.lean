/- Rows that are appended to while their struct's fields wait to be stored. -/
import Derived.Test.YtoceglbdnbnjpaaDoorCpMM
namespace Go.Proofs.YtoceglbdnbnjpaaDoor
open Go.RowKit Go.Shelf Go.Sort

/-- Stores that are still to come. -/
def pnd (R : Nat) (L : List (Nat × Value)) (X : World) : World := L.foldl (fun W p => W.setCell ⟨R, p.1, none⟩ p.2) X
theorem pnd_snoc (R : Nat) (L : List (Nat × Value)) (p : Nat × Value) (X : World) : pnd R (L ++ [p]) X = (pnd R L X).setCell ⟨R, p.1, none⟩ p.2 := by unfold pnd; rw [List.foldl_append]; rfl
theorem set_congr {X Y : World} (a : Addr) (v : Value) {g : Nat} (h : X.heap[g]? = Y.heap[g]?) : (X.setCell a v).heap[g]? = (Y.setCell a v).heap[g]? := by
  by_cases e : g = a.block
  · subst e
    unfold World.setCell
    simp only [Array.getElem?_modify, h]
  · rw [Below.heap_setCell X a v g e, Below.heap_setCell Y a v g e, h]
theorem pnd_congr {R : Nat} {g : Nat} : ∀ (L : List (Nat × Value)) {X Y : World}, X.heap[g]? = Y.heap[g]? → (pnd R L X).heap[g]? = (pnd R L Y).heap[g]?
  | [], _, _, h => h
  | p :: r, X, Y, h => pnd_congr r (X := X.setCell ⟨R, p.1, none⟩ p.2) (Y := Y.setCell ⟨R, p.1, none⟩ p.2) (set_congr _ _ h)
theorem pnd_other {R : Nat} {g : Nat} (hg : g ≠ R) : ∀ (L : List (Nat × Value)) (X : World), (pnd R L X).heap[g]? = X.heap[g]?
  | [], _ => rfl
  | p :: r, X => (pnd_other hg r (X.setCell ⟨R, p.1, none⟩ p.2)).trans (Below.heap_setCell X _ _ g hg)
theorem pnd_size {R : Nat} : ∀ (L : List (Nat × Value)) (X : World), (pnd R L X).heap.size = X.heap.size
  | [], _ => rfl
  | p :: r, X => (pnd_size r (X.setCell ⟨R, p.1, none⟩ p.2)).trans (by simp [World.setCell])
theorem pnd_os {R : Nat} : ∀ (L : List (Nat × Value)) (X : World), (pnd R L X).os = X.os ∧ (pnd R L X).tape = X.tape ∧ (pnd R L X).output = X.output
  | [], _ => ⟨rfl, rfl, rfl⟩
  | p :: r, X => pnd_os r (X.setCell ⟨R, p.1, none⟩ p.2)

/-- Some rows have been appended to. -/
structure AS (ty : TypeId) (B R : Nat) (hd : List Value) (I : List Nat) (w : World) (L : List (Nat × Value)) (rs : List Fw) (X : World) : Prop where
  ds : DS ty B R hd rs (pnd R L X)
  up : Upd I (rid R rs) w (pnd R L X)
  hR : X.heap[R]? = w.heap[R]?

section
variable {ty : TypeId} {B R : Nat} {hd : List Value} {I : List Nat} {w X : World} {L : List (Nat × Value)} {rs l1 l2 : List Fw} {r : Fw}
theorem AS.start (h : DS ty B R hd rs w) : AS ty B R hd (rid R rs) w [] rs w := ⟨h, Upd.refl _ _, rfl⟩
theorem AS.lt (h : AS ty B R hd I w L rs X) : ∀ g ∈ rid R rs, g < X.heap.size := fun g hg => by
  have := (h.ds.lt g hg).2
  rwa [pnd_size] at this
theorem AS.keep {X' : World} (h : AS ty B R hd I w L rs X) (hb : Below X.heap.size X X') : AS ty B R hd I w L rs X' := by
  have hc : ∀ g, g < X.heap.size → (pnd R L X').heap[g]? = (pnd R L X).heap[g]? := fun g hg => pnd_congr L (hb.block g hg)
  refine ⟨h.ds.keep fun g hg => hc g (h.lt g hg), ?_, (hb.block R (h.lt R List.mem_cons_self)).trans h.hR⟩
  have o1 := pnd_os (R := R) L X
  have o2 := pnd_os (R := R) L X'
  refine ⟨?_, ?_, ?_, ?_, fun g hg hn => ?_, h.up.new⟩
  · rw [o2.1, hb.os, ← o1.1]; exact h.up.os
  · rw [o2.2.1, hb.tape, ← o1.2.1]; exact h.up.tape
  · rw [o2.2.2, hb.output, ← o1.2.2]; exact h.up.output
  · have := h.up.size
    rw [pnd_size] at this ⊢
    exact Nat.le_trans this hb.size
  · have := h.up.size
    rw [pnd_size] at this
    exact (hc g (by omega)).trans (h.up.block g hg hn)
theorem AS.al (h : AS ty B R hd I w L rs X) (o : Obj) : AS ty B R hd I w L rs (X.alloc o) := h.keep ((Below.refl _ X).alloc (Nat.le_refl _) o)
theorem AS.drew (h : AS ty B R hd I w L rs X) : AS ty B R hd I w L rs X.drew := h.keep (Below.refl _ X).drew

theorem AS.app (h : AS ty B R hd I w L (l1 ++ r :: l2) X) (k : Nat) (hk : k = hd.length + l1.length) (t ty2 : TypeId) (i : TypeInfo) (z : Value) (bytes : Nat) (ht : Tryd.prog.underlying t = some (.slice r.e)) (hi : Tryd.prog.info? r.e = some i) (hz : i.zero = some z) (hsize : i.size = r.sz) (hby : i.bytes = bytes) (hzs : z.cells.size = r.sz) (hsz : r.sz = 1) (A : Nat) (x : Value) (hA : X.heap[A]? = some (.cells #[x] r.e (0, 0))) (h1 : x.oneCell' = true) (hn : r.n ≤ 1000) (hbytes : bytes ≤ 16) :
    ∃ g' cap' X', (appS #[t, t] ty2 #[r.v, .slice (some ⟨A, 0, none⟩) 1 1]).run Tryd.prog X = .ok (.slice (some ⟨g', 0, none⟩) (r.n + 1) cap') X' ∧ AS ty B R hd I w (L ++ [(k, .slice (some ⟨g', 0, none⟩) (r.n + 1) cap')]) (l1 ++ ⟨.slice (some ⟨g', 0, none⟩) (r.n + 1) cap', r.e, r.sz, r.n + 1, r.xs ++ [x]⟩ :: l2) X' ∧ (∀ g, g < X.heap.size → r.v.ownBlock ≠ some g → X'.heap[g]? = X.heap[g]?) := by
  have hnd := h.ds.nd
  rw [rid_mid] at hnd
  have hRr : ∀ g ∈ ob r.v, g ≠ R := fun g hg e => by
    rw [List.nodup_append] at hnd
    exact hnd.2.2 R List.mem_cons_self g (List.mem_append_left _ hg) e.symm
  have hrow : RowL X B r.e r.sz r.v r.n r.xs := (h.ds.rows r (by simp)).keep fun g hg => (pnd_other (hRr g (mem_ob.2 hg)) L X).symm
  have hB : B ≤ X.heap.size := by
    have h2 := h.ds.lo
    have h3 := h.lt R List.mem_cons_self
    omega
  obtain ⟨g', cap', X', hrun, hown, hgr, hat⟩ := RowL.app (P := Tryd.prog) hrow t ty2 i z bytes ht hi hz hsize hby hzs (by omega) ⟨A, 0, none⟩ 1 1 [x] (by rw [hsz]; rfl) (fun j u hj => by
    match j, hj with
    | 0, hj => simp at hj; subst hj; exact Lib.cell_of_heap hA 0) (by simpa using h1) (by decide) (by unfold maxLen; omega) (by
      have : (r.n + 1) * bytes ≤ 1001 * 16 := Nat.mul_le_mul (by omega) hbytes
      omega) hB
  have hkp : ∀ g, g < X.heap.size → r.v.ownBlock ≠ some g → X'.heap[g]? = X.heap[g]? := fun g hg hn => hgr.block g hg fun e => hn e.symm
  have hRl := h.lt R List.mem_cons_self
  have hgR : g' ≠ R := fun e => by
    rcases hat with e2 | e2
    · exact hRr g' (mem_ob.2 e2) e
    · omega
  have hu : Upd (ob r.v) (ob (.slice (some ⟨g', 0, none⟩) (r.n + 1) cap')) (pnd R L X) (pnd R L X') := by
    have o1 := pnd_os (R := R) L X
    have o2 := pnd_os (R := R) L X'
    refine ⟨?_, ?_, ?_, ?_, fun g hg hn => ?_, fun g hg => ?_⟩
    · rw [o1.1, o2.1]; exact hgr.os
    · rw [o1.2.1, o2.2.1]; exact hgr.tape
    · rw [o1.2.2, o2.2.2]; exact hgr.output
    · rw [pnd_size, pnd_size]; exact hgr.size
    · rw [pnd_size] at hg
      exact pnd_congr L (hkp g hg fun e => hn (mem_ob.2 e))
    · rw [pnd_size]
      have : g = g' := by have := mem_ob.1 hg; simp [Value.ownBlock] at this; omega
      subst this
      rcases hat with e | e
      · exact .inl (mem_ob.2 e)
      · right; omega
  have hrok : Fw.ok (pnd R L X') B ⟨.slice (some ⟨g', 0, none⟩) (r.n + 1) cap', r.e, r.sz, r.n + 1, r.xs ++ [x]⟩ := RowL.keep (.inl hown) fun g hg => pnd_other (by
    have : g = g' := by simp [Value.ownBlock] at hg; omega
    rw [this]; exact hgR) L X'
  obtain ⟨_, _, f3, f4⟩ := h.ds.setRow (r' := ⟨.slice (some ⟨g', 0, none⟩) (r.n + 1) cap', r.e, r.sz, r.n + 1, r.xs ++ [x]⟩) hu hrok k hk
  refine ⟨g', cap', X', hrun, ⟨by rw [pnd_snoc]; exact f3, by rw [pnd_snoc]; exact h.up.trans f4, (hkp R hRl fun e => hRr R (mem_ob.2 e) rfl).trans h.hR⟩, hkp⟩
end
end Go.Proofs.YtoceglbdnbnjpaaDoor
