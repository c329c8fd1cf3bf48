/- The document's ring: a job is taken. -/
import Derived.Test.YtfddhdpnoliamaaQuRt
namespace Go.Proofs.Ytfddhdpnoliamaa
open Go.RowKit Go.Shelf

theorem jcs_cut (l : List Jb) (i : Nat) : jcs (cut1 l i) = (jcs l).take (i * 3) ++ (jcs l).drop ((i + 1) * 3) := by
  have key : ∀ (k : Nat) (l : List Jb), (jcs l).take (k * 3) = jcs (l.take k) ∧ (jcs l).drop (k * 3) = jcs (l.drop k) := by
    intro k
    induction k with
    | zero => intro l; simp [jcs]
    | succ k ih =>
      intro l
      cases l with
      | nil => simp [jcs]
      | cons a r =>
        obtain ⟨h1, h2⟩ := ih r
        have e : jcs (a :: r) = jc a ++ jcs r := rfl
        have e3 : (k + 1) * 3 = (jc a).length + k * 3 := by show _ = 3 + k * 3; omega
        refine ⟨?_, ?_⟩
        · rw [e, e3, List.take_length_add_append, h1]
          rfl
        · rw [e, e3, List.drop_length_add_append, h2]
          rfl
  unfold cut1
  rw [jcs_app, (key i l).1, (key (i + 1) l).2]

/-- A job is cut out. -/
theorem RS.jobsCut {B P g cap : Nat} {tv cv v' : Value} {W w1 : World} {r : Rg} (h : RS B P tv cv (.slice (some ⟨g, 0, none⟩) r.jobs.length cap) W r) (i : Nat) (hi : i < r.jobs.length)
    (a1 : RowL w1 B 34 3 v' (r.jobs.length - 1) ((jcs r.jobs).take (i * 3) ++ (jcs r.jobs).drop ((i + 1) * 3))) (a2 : W.drew.grownBy w1 none) (a3 : v'.ownBlock = some g ∨ v'.ownBlock = some W.heap.size) :
    RS B P tv cv v' (w1.setCell ⟨P, 4, none⟩ v') { r with jobs := cut1 r.jobs i } ∧ Upd (rids P tv cv (.slice (some ⟨g, 0, none⟩) r.jobs.length cap)) (rids P tv cv v') W (w1.setCell ⟨P, 4, none⟩ v') := by
  have hnd := h.nd
  rw [rids_last] at hnd
  have hdj := (List.nodup_append.1 hnd).2.2
  have hPl := (h.lt P List.mem_cons_self).2
  have hgm : g ∈ ob (.slice (some ⟨g, 0, none⟩) r.jobs.length cap) := mem_ob.2 rfl
  have hbk : ∀ k : Nat, k < W.heap.size → w1.heap[k]? = W.heap[k]? := fun k hk => a2.block k hk (by simp)
  have hnP : ∀ k ∈ ob tv ++ ob cv, k ≠ P := fun k hk e => by
    have h1 := (List.nodup_append.1 hnd).1
    rw [List.nodup_cons] at h1
    exact h1.1 (by rw [← e]; exact hk)
  have hlt : ∀ k ∈ ob tv ++ ob cv, k < W.heap.size := fun k hk => (h.lt k (by rw [rids_last]; exact List.mem_append_left _ (List.mem_cons_of_mem _ hk))).2
  have hgP : g ≠ P := fun e => hdj P List.mem_cons_self g hgm e.symm
  have hnw : ∀ k, v'.ownBlock = some k → (Value.slice (some ⟨g, 0, none⟩) r.jobs.length cap).ownBlock = some k ∨ W.heap.size ≤ k := fun k hk => by
    rcases a3 with a | a
    · rw [a] at hk; exact .inl hk
    · rw [a] at hk; cases hk; exact .inr (Nat.le_refl _)
  have hvP : ∀ k, v'.ownBlock = some k → k ≠ P := fun k hk e => by
    rcases a3 with a | a
    · rw [a] at hk; cases hk; exact hgP e
    · rw [a] at hk; cases hk; omega
  refine ⟨h.jobsTo ?_ (fun k hk => (Below.heap_setCell _ ⟨P, 4, none⟩ _ k (hnP k hk)).trans (hbk k (hlt k hk))) ?_ hnw, ?_⟩
  · rw [Go.Joins.block_setCell ((hbk P hPl).trans h.blk)]
    rfl
  · have hl : (cut1 r.jobs i).length = r.jobs.length - 1 := by unfold cut1; rw [List.length_append, List.length_take, List.length_drop]; omega
    rw [jcs_cut, hl]
    exact a1.keep fun k hk => Below.heap_setCell _ ⟨P, 4, none⟩ _ k (hvP k hk)
  · refine ⟨a2.os, a2.tape, a2.output, ?_, fun k x1 x2 => ?_, fun k hk => ?_⟩
    · have := a2.size
      have e : (w1.setCell ⟨P, 4, none⟩ v').heap.size = w1.heap.size := by simp [World.setCell]
      rw [e]
      exact this
    · exact (Below.heap_setCell _ ⟨P, 4, none⟩ _ k fun e => x2 (by rw [e]; exact List.mem_cons_self)).trans (hbk k x1)
    · rw [rids_last] at hk ⊢
      rcases List.mem_append.1 hk with hk | hk
      · exact .inl (List.mem_append_left _ hk)
      · rcases hnw k (mem_ob.1 hk) with e | e
        · exact .inl (List.mem_append_right _ (mem_ob.2 e))
        · exact .inr e
end Go.Proofs.Ytfddhdpnoliamaa
