/- The document's book of leases, in memory. -/
import Derived.Test.YtoceglbdnbnjpaaDoorCpRM
namespace Go.Proofs.YtoceglbdnbnjpaaDoor
open Go.RowKit Go.Shelf

/-- A row in a field. -/
structure Fw where
  v : Value
  e : TypeId
  sz : Nat
  n : Nat
  xs : List Value
def Fw.ok (W : World) (B : Nat) (r : Fw) : Prop := RowL W B r.e r.sz r.v r.n r.xs
def rid (R : Nat) (rs : List Fw) : List Nat := R :: rs.flatMap fun r => ob r.v
/-- A struct with rows in its last fields. -/
structure DS (ty : TypeId) (B R : Nat) (hd : List Value) (rs : List Fw) (W : World) : Prop where
  lo : B ≤ R
  blk : W.heap[R]? = some (.cells (hd ++ rs.map Fw.v).toArray ty (0, 0))
  rows : ∀ r ∈ rs, r.ok W B
  nd : (rid R rs).Nodup

section
variable {ty : TypeId} {B R : Nat} {hd hd' : List Value} {rs l1 l2 : List Fw} {r r' : Fw} {W W' w1 : World}
theorem DS.lt (h : DS ty B R hd rs W) : ∀ g ∈ rid R rs, B ≤ g ∧ g < W.heap.size := by
  intro g hg
  rcases List.mem_cons.1 hg with rfl | hg
  · exact ⟨h.lo, (Array.getElem?_eq_some_iff.1 h.blk).1⟩
  · obtain ⟨r, hr, hg⟩ := List.mem_flatMap.1 hg
    exact (h.rows r hr).lt g (mem_ob.1 hg)
theorem DS.keep (h : DS ty B R hd rs W) (hh : ∀ g ∈ rid R rs, W'.heap[g]? = W.heap[g]?) : DS ty B R hd rs W' :=
  ⟨h.lo, (hh R List.mem_cons_self).trans h.blk, fun r hr => (h.rows r hr).keep fun g hg => hh g (List.mem_cons_of_mem _ (List.mem_flatMap.2 ⟨r, hr, mem_ob.2 hg⟩)), h.nd⟩
theorem DS.up (h : DS ty B R hd rs W) (hb : Below W.heap.size W W') : DS ty B R hd rs W' := h.keep fun g hg => hb.block g (h.lt g hg).2
theorem DS.c (h : DS ty B R hd rs W) (k : Nat) : W.cell? ⟨R, k, none⟩ = (hd ++ rs.map Fw.v)[k]? := by
  rw [Lib.cell_of_heap h.blk]
  simp
theorem DS.fz (h : DS ty B R hd rs W) (k : Nat) : W.frozen? ⟨R, k, none⟩ = false := Lib.frozen_of_heap h.blk k
theorem rid_mid : rid R (l1 ++ r :: l2) = (R :: l1.flatMap fun r => ob r.v) ++ (ob r.v ++ l2.flatMap fun r => ob r.v) := by simp [rid]

/-- A row is another one. -/
theorem DS.setRow (h : DS ty B R hd (l1 ++ r :: l2) W) (hu : Upd (ob r.v) (ob r'.v) W w1) (hr : r'.ok w1 B) (k : Nat) (hk : k = hd.length + l1.length) :
    w1.frozen? ⟨R, k, none⟩ = false ∧ (∃ v, w1.cell? ⟨R, k, none⟩ = some v) ∧ DS ty B R hd (l1 ++ r' :: l2) (w1.setCell ⟨R, k, none⟩ r'.v) ∧ Upd (rid R (l1 ++ r :: l2)) (rid R (l1 ++ r' :: l2)) W (w1.setCell ⟨R, k, none⟩ r'.v) := by
  have hnd := h.nd
  rw [rid_mid] at hnd
  have hlt := h.lt
  have hout : ∀ g ∈ rid R (l1 ++ l2), g ∉ ob r.v := fun g hg he => by
    rw [List.nodup_append] at hnd
    obtain ⟨_, h2, h3⟩ := hnd
    rw [List.nodup_append] at h2
    rw [show rid R (l1 ++ l2) = (R :: l1.flatMap fun r => ob r.v) ++ l2.flatMap (fun r => ob r.v) from by simp [rid]] at hg
    rcases List.mem_append.1 hg with hg | hg
    · exact h3 g hg g (by simp [he]) rfl
    · exact h2.2.2 g he g hg rfl
  have hin : ∀ g ∈ rid R (l1 ++ l2), g ∈ rid R (l1 ++ r :: l2) := fun g hg => by
    rw [rid_mid]
    rw [show rid R (l1 ++ l2) = (R :: l1.flatMap fun r => ob r.v) ++ l2.flatMap (fun r => ob r.v) from by simp [rid]] at hg
    rcases List.mem_append.1 hg with hg | hg
    · exact List.mem_append_left _ hg
    · exact List.mem_append_right _ (List.mem_append_right _ hg)
  have hkk : ∀ g ∈ rid R (l1 ++ l2), w1.heap[g]? = W.heap[g]? := fun g hg => hu.block g (hlt g (hin g hg)).2 (hout g hg)
  have eR : w1.heap[R]? = W.heap[R]? := hkk R List.mem_cons_self
  have hblk := eR.trans h.blk
  have hnew : ∀ g ∈ ob r'.v, g ∈ ob r.v ∨ W.heap.size ≤ g := hu.new
  have hnR : ∀ g ∈ ob r'.v, g ≠ R := fun g hg e => by
    rcases hnew g hg with e2 | e2
    · exact hout R List.mem_cons_self (e ▸ e2)
    · have := (hlt R List.mem_cons_self).2; omega
  have hnR2 : ∀ x ∈ l1 ++ l2, ∀ g ∈ ob x.v, g ≠ R := fun x hx g hg e => by
    rw [List.nodup_append] at hnd
    obtain ⟨h1, h2, h3⟩ := hnd
    rw [List.nodup_cons] at h1
    rcases List.mem_append.1 hx with hx | hx
    · exact h1.1 (e ▸ List.mem_flatMap.2 ⟨x, hx, hg⟩)
    · exact h3 R List.mem_cons_self g (List.mem_append_right _ (List.mem_flatMap.2 ⟨x, hx, hg⟩)) e.symm
  have hX : (ob r'.v).Nodup := by unfold ob; cases r'.v.ownBlock <;> simp
  refine ⟨by rw [World.frozen?_of_block (w := W) eR]; exact h.fz k, ?_, ⟨h.lo, ?_, fun x hx => ?_, ?_⟩, ?_⟩
  · refine ⟨r.v, ?_⟩
    rw [World.cell?_of_block (w := W) eR, h.c, hk]
    rw [List.getElem?_append_right (by omega)]
    simp
  · rw [Go.Joins.block_setCell hblk]
    congr 2
    apply Array.toList_inj.1
    rw [Array.toList_setIfInBounds]
    simp only [List.map_append, List.map_cons]
    rw [hk, List.set_append_right _ _ (by omega)]
    congr 1
    rw [show hd.length + l1.length - hd.length = l1.length from by omega, List.set_append_right _ _ (by simp)]
    simp
  · rcases List.mem_append.1 hx with hx | hx
    · exact (h.rows x (by simp [hx])).keep fun g hg => (Below.heap_setCell _ ⟨R, k, none⟩ _ g (hnR2 x (by simp [hx]) g (mem_ob.2 hg))).trans (hkk g (List.mem_cons_of_mem _ (List.mem_flatMap.2 ⟨x, by simp [hx], mem_ob.2 hg⟩)))
    · rcases List.mem_cons.1 hx with rfl | hx
      · exact hr.keep fun g hg => Below.heap_setCell _ ⟨R, k, none⟩ _ g (hnR g (mem_ob.2 hg))
      · exact (h.rows x (by simp [hx])).keep fun g hg => (Below.heap_setCell _ ⟨R, k, none⟩ _ g (hnR2 x (by simp [hx]) g (mem_ob.2 hg))).trans (hkk g (List.mem_cons_of_mem _ (List.mem_flatMap.2 ⟨x, by simp [hx], mem_ob.2 hg⟩)))
  · rw [rid_mid]
    exact nodup_swap hnd (fun g hg => (hlt g (by rw [rid_mid]; exact hg)).2) hX hnew
  · refine ⟨hu.os, hu.tape, hu.output, ?_, fun g hg hgn => ?_, fun g hg => ?_⟩
    · have e : (w1.setCell ⟨R, k, none⟩ r'.v).heap.size = w1.heap.size := by simp [World.setCell]
      rw [e]
      exact hu.size
    · exact (Below.heap_setCell _ ⟨R, k, none⟩ _ g (fun e => hgn (by rw [show g = R from e]; exact List.mem_cons_self))).trans (hu.block g hg fun e => hgn (by rw [rid_mid]; exact List.mem_append_right _ (List.mem_append_left _ e)))
    · rw [rid_mid] at hg ⊢
      rcases List.mem_append.1 hg with hg | hg
      · exact .inl (List.mem_append_left _ hg)
      · rcases List.mem_append.1 hg with hg | hg
        · rcases hnew g hg with e | e
          · exact .inl (List.mem_append_right _ (List.mem_append_left _ e))
          · exact .inr e
        · exact .inl (List.mem_append_right _ (List.mem_append_right _ hg))

/-- A cell of a row is turned. -/
theorem DS.setIn (h : DS ty B R hd (l1 ++ r :: l2) W) {g cap : Nat} (hv : r.v = .slice (some ⟨g, 0, none⟩) r.n cap) (hn : 0 < r.n) (j : Nat) (u : Value) :
    W.frozen? ⟨g, j, none⟩ = false ∧ DS ty B R hd (l1 ++ { r with xs := r.xs.set j u } :: l2) (W.setCell ⟨g, j, none⟩ u) ∧ Upd (rid R (l1 ++ r :: l2)) (rid R (l1 ++ r :: l2)) W (W.setCell ⟨g, j, none⟩ u) := by
  have hr := h.rows r (by simp)
  unfold Fw.ok at hr
  rw [hv] at hr
  obtain ⟨hf, hs⟩ := hr.set hn j u
  have hgin : g ∈ ob r.v := by rw [hv]; exact mem_ob.2 rfl
  have hnd := h.nd
  rw [rid_mid] at hnd
  have hne : ∀ x, x = R ∨ (∃ y ∈ l1 ++ l2, x ∈ ob y.v) → x ≠ g := fun x hx e => by
    rw [List.nodup_append] at hnd
    obtain ⟨_, h2, h3⟩ := hnd
    rw [List.nodup_append] at h2
    rcases hx with rfl | ⟨y, hy, hx⟩
    · exact h3 x List.mem_cons_self g (by simp [hgin]) e
    · rcases List.mem_append.1 hy with hy | hy
      · exact h3 x (List.mem_cons_of_mem _ (List.mem_flatMap.2 ⟨y, hy, hx⟩)) g (by simp [hgin]) e
      · exact h2.2.2 g hgin x (List.mem_flatMap.2 ⟨y, hy, hx⟩) e.symm
  have hk : ∀ x, x ≠ g → (W.setCell ⟨g, j, none⟩ u).heap[x]? = W.heap[x]? := fun x hx => Below.heap_setCell _ _ _ x hx
  refine ⟨hf, ⟨h.lo, ?_, fun x hx => ?_, ?_⟩, Upd.set W _ _ (by rw [rid_mid]; exact List.mem_append_right _ (List.mem_append_left _ hgin))⟩
  · rw [hk R (hne R (.inl rfl)), h.blk]
    simp
  · rcases List.mem_append.1 hx with hx | hx
    · exact (h.rows x (by simp [hx])).keep fun z hz => hk z (hne z (.inr ⟨x, by simp [hx], mem_ob.2 hz⟩))
    · rcases List.mem_cons.1 hx with rfl | hx
      · unfold Fw.ok
        simp only [hv]
        exact hs
      · exact (h.rows x (by simp [hx])).keep fun z hz => hk z (hne z (.inr ⟨x, by simp [hx], mem_ob.2 hz⟩))
  · have := h.nd
    simpa [rid] using this
/-- A plain field is turned. -/
theorem DS.setHd (h : DS ty B R hd rs W) (k : Nat) (u : Value) (hk : k < hd.length) : DS ty B R (hd.set k u) rs (W.setCell ⟨R, k, none⟩ u) ∧ Upd (rid R rs) (rid R rs) W (W.setCell ⟨R, k, none⟩ u) := by
  have hnd := h.nd
  unfold rid at hnd
  rw [List.nodup_cons] at hnd
  refine ⟨⟨h.lo, ?_, fun r hr => (h.rows r hr).keep fun g hg => Below.heap_setCell _ ⟨R, k, none⟩ _ g (fun e => hnd.1 (by rw [show R = g from e.symm]; exact List.mem_flatMap.2 ⟨r, hr, mem_ob.2 hg⟩)), h.nd⟩, Upd.set W _ _ List.mem_cons_self⟩
  rw [Go.Joins.block_setCell h.blk]
  congr 2
  apply Array.toList_inj.1
  rw [Array.toList_setIfInBounds]
  simp only
  rw [List.set_append_left _ _ hk]
end
end Go.Proofs.YtoceglbdnbnjpaaDoor
