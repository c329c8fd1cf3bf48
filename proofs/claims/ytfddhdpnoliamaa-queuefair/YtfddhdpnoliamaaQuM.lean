/- What is written of a queue, and how it lies then. -/
import Derived.Test.YtfddhdpnoliamaaQuE
namespace Go.Proofs.Ytfddhdpnoliamaa
open Go.RowKit Go.Shelf

theorem ids_perm (P : Nat) (rv : Value) (a b : List Ce) (c : Ce) : (ids P rv (a ++ c :: b)).Perm (cids c ++ ids P rv (a ++ b)) := by
  unfold ids
  have e : (a ++ c :: b).flatMap cids = a.flatMap cids ++ (cids c ++ b.flatMap cids) := by simp
  have e2 : (a ++ b).flatMap cids = a.flatMap cids ++ b.flatMap cids := by simp
  rw [e, e2]
  have p1 : (a.flatMap cids ++ (cids c ++ b.flatMap cids)).Perm (cids c ++ (a.flatMap cids ++ b.flatMap cids)) := by
    rw [← List.append_assoc, ← List.append_assoc]
    exact List.Perm.append_right _ List.perm_append_comm
  have p2 : (P :: (ob rv ++ (cids c ++ (a.flatMap cids ++ b.flatMap cids)))).Perm (cids c ++ (P :: (ob rv ++ (a.flatMap cids ++ b.flatMap cids)))) := by
    have h1 : P :: (ob rv ++ (cids c ++ (a.flatMap cids ++ b.flatMap cids))) = ((P :: ob rv) ++ cids c) ++ (a.flatMap cids ++ b.flatMap cids) := by simp
    have h2 : cids c ++ (P :: (ob rv ++ (a.flatMap cids ++ b.flatMap cids))) = (cids c ++ (P :: ob rv)) ++ (a.flatMap cids ++ b.flatMap cids) := by simp
    rw [h1, h2]
    exact List.Perm.append_right _ List.perm_append_comm
  exact ((List.Perm.append_left _ p1).cons _).trans p2
theorem ids_swap (P : Nat) (rv : Value) (c : Ce) (r : List Ce) : (ids P rv (r ++ [c])).Perm (ids P rv (c :: r)) := by
  have h1 := ids_perm P rv r [] c
  rw [List.append_nil] at h1
  have h2 := ids_perm P rv [] r c
  exact h1.trans h2.symm

section
variable {B P : Nat} {rv : Value} {w : World} {q : Qu} {a b cs : List Ce} {c : Ce}
theorem QS.c_off (h : QS B P rv (a ++ c :: b) w q) : (cids c).Nodup ∧ ∀ g ∈ cids c, g ∉ ids P rv (a ++ b) := by
  have := (ids_perm P rv a b c).nodup_iff.1 h.apart
  rw [List.nodup_append] at this
  exact ⟨this.1, fun g hg hi => this.2.2 g hg g hi rfl⟩
theorem QS.c_ne (h : QS B P rv (a ++ c :: b) w q) : c.blk ≠ P ∧ c.blk ∉ ob c.jv ∧ (∀ g, rv.ownBlock = some g → c.blk ≠ g) := by
  obtain ⟨h1, h2⟩ := h.c_off
  refine ⟨fun e => h2 c.blk List.mem_cons_self (by rw [e]; exact List.mem_cons_self), (List.nodup_cons.1 h1).1, fun g hg e => h2 c.blk List.mem_cons_self (mem_ids_r (by rw [e]; exact hg))⟩
theorem QS.p_ne (h : QS B P rv cs w q) : (∀ g, rv.ownBlock = some g → P ≠ g) ∧ ∀ c ∈ cs, P ∉ cids c := by
  have := (List.nodup_cons.1 h.apart).1
  exact ⟨fun g hg e => this (List.mem_append_left _ (mem_ob.2 (by rw [e]; exact hg))), fun c hc hi => this (List.mem_append_right _ (List.mem_flatMap.2 ⟨c, hc, hi⟩))⟩
theorem QS.r_ne (h : QS B P rv cs w q) : ∀ g, rv.ownBlock = some g → ∀ c ∈ cs, g ∉ cids c := by
  have := (List.nodup_append.1 (List.nodup_cons.1 h.apart).2).2.2
  exact fun g hg c hc hi => this g (mem_ob.2 hg) g (List.mem_flatMap.2 ⟨c, hc, hi⟩) rfl

/-- Its own cells alone are written; the row is the same. -/
theorem QS.setQ (h : QS B P rv cs w q) (bb : Bool) {w' : World} (hb : w'.heap[P]? = some (.cells #[.int .i64 q.qm, rv, .bool bb] 56 (0, 0))) (ho : ∀ g : Nat, g ≠ P → w'.heap[g]? = w.heap[g]?) : QS B P rv cs w' { q with beg := bb } :=
  ⟨h.lo, h.ring, hb, own_heap h.row fun g hg => ho g (fun e => h.p_ne.1 g hg e.symm), fun c hc => (h.tens c hc).keep fun g hg => ho g (fun e => h.p_ne.2 c hc (e ▸ hg)), h.apart⟩
/-- A tenant's numbers alone are written. -/
theorem QS.setTen (h : QS B P rv (a ++ c :: b) w q) (t' : Tn) (hj : t'.jobs = c.t.jobs) {w' : World} (hb : w'.heap[c.blk]? = some (.cells #[.int .i64 t'.num, .int .i64 t'.cr, c.jv] 66 (0, 0))) (ho : ∀ g : Nat, g ≠ c.blk → w'.heap[g]? = w.heap[g]?) :
    QS B P rv (a ++ ⟨c.blk, c.jv, t'⟩ :: b) w' { q with ring := a.map Ce.t ++ t' :: b.map Ce.t } := by
  obtain ⟨n1, n2, n3⟩ := h.c_ne
  have hc := h.tens c (by simp)
  refine ⟨h.lo, by simp, (ho P n1.symm).trans h.blk, ?_, ?_, ?_⟩
  · have := own_heap (w' := w') h.row fun g hg => ho g (fun e => n3 g hg e.symm)
    simpa [pc] using this
  · intro d hd
    rcases List.mem_append.1 hd with hd | hd
    · refine (h.tens d (by simp [hd])).keep fun g hg => ho g fun e => ?_
      exact h.c_off.2 c.blk List.mem_cons_self (mem_ids_c (c := d) (by simp [hd]) (e ▸ hg))
    rcases List.mem_cons.1 hd with rfl | hd
    · refine ⟨hc.lo, hb, ?_⟩
      show w'.ownsRow B _ 3 c.jv t'.jobs.length (jcs t'.jobs)
      rw [hj]
      exact own_heap hc.row fun g hg => ho g fun e => n2 (mem_ob.2 (e ▸ hg))
    · refine (h.tens d (by simp [hd])).keep fun g hg => ho g fun e => ?_
      exact h.c_off.2 c.blk List.mem_cons_self (mem_ids_c (c := d) (by simp [hd]) (e ▸ hg))
  · have := h.apart
    unfold ids at this ⊢
    simpa [cids] using this
/-- Its row of tenants is another one. -/
theorem QS.setRing (h : QS B P rv cs w q) {rv' : Value} {cs' : List Ce} (bb : Bool) {w' : World} (hb : w'.heap[P]? = some (.cells #[.int .i64 q.qm, rv', .bool bb] 56 (0, 0))) (hr : w'.ownsRow B 64 1 rv' cs'.length (cs'.map pc))
    (hs : ∀ c ∈ cs', c ∈ cs) (ho : ∀ g : Nat, g ≠ P → g ∉ ob rv → g < w.heap.size → w'.heap[g]? = w.heap[g]?) (hnd : (ids P rv' cs').Nodup) : QS B P rv' cs' w' { q with ring := cs'.map Ce.t, beg := bb } :=
  ⟨h.lo, rfl, hb, hr, fun c hc => (h.tens c (hs c hc)).keep fun g hg => ho g (fun e => h.p_ne.2 c (hs c hc) (e ▸ hg)) (fun e => h.r_ne g (mem_ob.1 e) c (hs c hc) hg) (h.lt g (mem_ids_c (hs c hc) hg)).2, hnd⟩
/-- A tenant's row of jobs is another one. -/
theorem QS.setJobs (h : QS B P rv (a ++ c :: b) w q) (t' : Tn) {jv' : Value} {w' : World} (hb : w'.heap[c.blk]? = some (.cells #[.int .i64 t'.num, .int .i64 t'.cr, jv'] 66 (0, 0)))
    (hr : w'.ownsRow B 34 3 jv' t'.jobs.length (jcs t'.jobs)) (hn : ∀ g, jv'.ownBlock = some g → c.jv.ownBlock = some g ∨ w.heap.size ≤ g) (ho : ∀ g : Nat, g ≠ c.blk → g ∉ ob c.jv → g < w.heap.size → w'.heap[g]? = w.heap[g]?) :
    QS B P rv (a ++ ⟨c.blk, jv', t'⟩ :: b) w' { q with ring := a.map Ce.t ++ t' :: b.map Ce.t } := by
  obtain ⟨n1, n2, n3⟩ := h.c_ne
  obtain ⟨f1, f2⟩ := h.c_off
  have hc := h.tens c (by simp)
  have hlt := h.lt
  have k : ∀ g ∈ ids P rv (a ++ b), w'.heap[g]? = w.heap[g]? := fun g hg => by
    have hg2 : g ∈ ids P rv (a ++ c :: b) := (ids_perm P rv a b c).mem_iff.2 (List.mem_append_right _ hg)
    exact ho g (fun e => f2 c.blk List.mem_cons_self (e ▸ hg)) (fun e => f2 g (List.mem_cons_of_mem _ e) hg) (hlt g hg2).2
  refine ⟨h.lo, by simp, (k P List.mem_cons_self).trans h.blk, ?_, ?_, ?_⟩
  · have := own_heap (w' := w') h.row fun g hg => k g (mem_ids_r hg)
    simpa [pc] using this
  · intro d hd
    rcases List.mem_append.1 hd with hd | hd
    · exact (h.tens d (by simp [hd])).keep fun g hg => k g (mem_ids_c (c := d) (by simp [hd]) hg)
    rcases List.mem_cons.1 hd with rfl | hd
    · exact ⟨hc.lo, hb, hr⟩
    · exact (h.tens d (by simp [hd])).keep fun g hg => k g (mem_ids_c (c := d) (by simp [hd]) hg)
  · rw [(ids_perm P rv a b ⟨c.blk, jv', t'⟩).nodup_iff, List.nodup_append]
    have hnd := (ids_perm P rv a b c).nodup_iff.1 h.apart
    rw [List.nodup_append] at hnd
    have hnew : ∀ g ∈ ob jv', g ∈ ob c.jv ∨ w.heap.size ≤ g := fun g hg => (hn g (mem_ob.1 hg)).imp mem_ob.2 id
    refine ⟨?_, hnd.2.1, ?_⟩
    · refine List.nodup_cons.2 ⟨fun hm => ?_, ?_⟩
      · rcases hnew c.blk hm with e | e
        · exact n2 e
        · have := hc.lt; omega
      · show (ob jv').Nodup
        unfold ob
        cases jv'.ownBlock <;> simp
    · intro g hg g' hg' e
      subst e
      rcases List.mem_cons.1 hg with rfl | hg
      · exact f2 c.blk List.mem_cons_self hg'
      · rcases hnew g hg with e | e
        · exact f2 g (List.mem_cons_of_mem _ e) hg'
        · have := (hlt g ((ids_perm P rv a b c).mem_iff.2 (List.mem_append_right _ hg'))).2
          omega
end
end Go.Proofs.Ytfddhdpnoliamaa
