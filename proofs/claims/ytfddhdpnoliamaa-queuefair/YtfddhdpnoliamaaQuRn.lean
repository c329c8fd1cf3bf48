/- The document's ring: a job is put to a tenant that is not there. -/
import Derived.Test.YtfddhdpnoliamaaQuRo
namespace Go.Proofs.Ytfddhdpnoliamaa
open Go.RowKit Go.Shelf
attribute [local go_sem ↓] appS_eq

theorem infI : (Try.prog.info? 3).map (fun i => (i.zero, i.size, i.bytes)) = some (some (.int .i64 0), 1, 8) := by kernel_rfl

/-- Two rows of numbers are appended to, one behind the other. -/
theorem RS.two {B P : Nat} {tv cv jv : Value} {W : World} {r : Rg} (h : RS B P tv cv jv W r) (ht : r.tens.length ≤ 1000) (hc : r.creds.length ≤ 1000) (t1 : Nat)
    {X : World} (hX : Below W.heap.size W X) (ad1 : Addr) (h1 : X.cell? (ad1.add 0) = some (.int .i64 (t1 : Int))) :
    ∃ g1 cap1 wa, (appS #[29, 29] 29 #[tv, .slice (some ad1) 1 1]).run Try.prog X = .ok (.slice (some ⟨g1, 0, none⟩) (r.tens.length + 1) cap1) wa ∧ wa.cell? ⟨P, 2, none⟩ = some cv ∧ P < wa.heap.size ∧
      (∀ a : Addr, a.block < X.heap.size → W.heap.size ≤ a.block → wa.cell? a = X.cell? a) ∧
      ∀ {Y : World}, Below wa.heap.size wa Y → ∀ ad2 : Addr, Y.cell? (ad2.add 0) = some (.int .i64 0) →
        ∃ g2 cap2 wb, (appS #[29, 29] 29 #[cv, .slice (some ad2) 1 1]).run Try.prog Y = .ok (.slice (some ⟨g2, 0, none⟩) (r.creds.length + 1) cap2) wb ∧
          wb.cell? ⟨P, 1, none⟩ = some tv ∧ wb.frozen? ⟨P, 1, none⟩ = false ∧
          (wb.setCell ⟨P, 1, none⟩ (.slice (some ⟨g1, 0, none⟩) (r.tens.length + 1) cap1)).cell? ⟨P, 2, none⟩ = some cv ∧
          (wb.setCell ⟨P, 1, none⟩ (.slice (some ⟨g1, 0, none⟩) (r.tens.length + 1) cap1)).frozen? ⟨P, 2, none⟩ = false ∧
          RS B P (.slice (some ⟨g1, 0, none⟩) (r.tens.length + 1) cap1) (.slice (some ⟨g2, 0, none⟩) (r.creds.length + 1) cap2) jv
            ((wb.setCell ⟨P, 1, none⟩ (.slice (some ⟨g1, 0, none⟩) (r.tens.length + 1) cap1)).setCell ⟨P, 2, none⟩ (.slice (some ⟨g2, 0, none⟩) (r.creds.length + 1) cap2)) { r with tens := r.tens ++ [t1], creds := r.creds ++ [0] } ∧
          Upd (rids P tv cv jv) (rids P (.slice (some ⟨g1, 0, none⟩) (r.tens.length + 1) cap1) (.slice (some ⟨g2, 0, none⟩) (r.creds.length + 1) cap2) jv) W
            ((wb.setCell ⟨P, 1, none⟩ (.slice (some ⟨g1, 0, none⟩) (r.tens.length + 1) cap1)).setCell ⟨P, 2, none⟩ (.slice (some ⟨g2, 0, none⟩) (r.creds.length + 1) cap2)) := by
  obtain ⟨i0, hi, hz0, hz1, hz2⟩ := info_p infI
  have hPl := (h.lt P List.mem_cons_self).2
  have hXs := hX.size
  have hlo := h.lo
  have hnd := h.nd
  have hd1 : P ∉ ob tv ++ (ob cv ++ ob jv) := (List.nodup_cons.1 hnd).1
  have hnd2 := List.nodup_append.1 (List.nodup_cons.1 hnd).2
  have hnd3 := List.nodup_append.1 hnd2.2.1
  have hRow1 : RowL X B 3 1 tv r.tens.length (ns r.tens) := h.tens.keep fun g hg => hX.block g (h.tens.lt g hg).2
  obtain ⟨g1, cap1, wa, hrun1, hown1, hgr1, hat1⟩ := hRow1.app (P := Try.prog) 29 29 i0 (.int .i64 0) 8 Try.underlying29 hi hz0 hz1 hz2 rfl (by decide) ad1 1 1 [.int .i64 (t1 : Int)] rfl (fun j u hu => by
      have hj : j = 0 := by
        have := (List.getElem?_eq_some_iff.1 hu).1
        simp at this
        exact this
      subst hj
      rw [h1, ← hu]
      rfl) (fun u hu => by simp at hu; subst hu; rfl) (by decide) (by unfold maxLen; omega) (by omega) (by omega)
  have hasz := hgr1.size
  have hbk1 : ∀ g : Nat, g < W.heap.size → g ∉ ob tv → wa.heap[g]? = W.heap[g]? := fun g hg hn => (hgr1.block g (by omega) (fun e => hn (mem_ob.2 e.symm))).trans (hX.block g hg)
  have hP1 : wa.heap[P]? = W.heap[P]? := hbk1 P hPl fun e => hd1 (List.mem_append_left _ e)
  have hct : ∀ g ∈ ob cv, g ∉ ob tv := fun g hg e => hnd2.2.2 g e g (List.mem_append_left _ hg) rfl
  have hjt : ∀ g ∈ ob jv, g ∉ ob tv := fun g hg e => hnd2.2.2 g e g (List.mem_append_right _ hg) rfl
  have hjc : ∀ g ∈ ob jv, g ∉ ob cv := fun g hg e => hnd3.2.2 g e g hg rfl
  have htl : ∀ g ∈ ob tv, g < W.heap.size := fun g hg => (h.tens.lt g (mem_ob.1 hg)).2
  have hcl : ∀ g ∈ ob cv, g < W.heap.size := fun g hg => (h.creds.lt g (mem_ob.1 hg)).2
  have hjl : ∀ g ∈ ob jv, g < W.heap.size := fun g hg => (h.jobs.lt g (mem_ob.1 hg)).2
  refine ⟨g1, cap1, wa, hrun1, by rw [World.cell?_of_block (w := W) hP1]; exact h.c 2 cv rfl, by omega, fun a ha hw => World.cell?_of_block (hgr1.block a.block ha fun e => ?_), ?_⟩
  · have := htl a.block (mem_ob.2 e.symm)
    omega
  intro Y hY ad2 h2
  have hYs := hY.size
  have hRow2 : RowL Y B 3 1 cv r.creds.length (ns r.creds) := h.creds.keep fun g hg => (hY.block g (by have := hcl g (mem_ob.2 hg); omega)).trans (hbk1 g (hcl g (mem_ob.2 hg)) (hct g (mem_ob.2 hg)))
  obtain ⟨g2, cap2, wb, hrun2, hown2, hgr2, hat2⟩ := hRow2.app (P := Try.prog) 29 29 i0 (.int .i64 0) 8 Try.underlying29 hi hz0 hz1 hz2 rfl (by decide) ad2 1 1 [.int .i64 0] rfl (fun j u hu => by
      have hj : j = 0 := by
        have := (List.getElem?_eq_some_iff.1 hu).1
        simp at this
        exact this
      subst hj
      rw [h2, ← hu]
      rfl) (fun u hu => by simp at hu; subst hu; rfl) (by decide) (by unfold maxLen; omega) (by omega) (by omega)
  have hbsz := hgr2.size
  have hbk2 : ∀ g : Nat, g < wa.heap.size → g ∉ ob cv → wb.heap[g]? = wa.heap[g]? := fun g hg hn => (hgr2.block g (by omega) (fun e => hn (mem_ob.2 e.symm))).trans (hY.block g hg)
  have hP2 : wb.heap[P]? = W.heap[P]? := (hbk2 P (by omega) fun e => hd1 (List.mem_append_right _ (List.mem_append_left _ e))).trans hP1
  have hg1P : g1 ≠ P := fun e => by
    rcases hat1 with a | a
    · exact hd1 (List.mem_append_left _ (mem_ob.2 (by rw [a, e])))
    · omega
  have hg1w : g1 < wa.heap.size := (hown1.lt g1 rfl).2
  have hg1c : g1 ∉ ob cv := fun e => by
    rcases hat1 with a | a
    · exact hct g1 e (mem_ob.2 a)
    · have := hcl g1 e; omega
  have hg2P : g2 ≠ P := fun e => by
    rcases hat2 with a | a
    · exact hd1 (List.mem_append_right _ (List.mem_append_left _ (mem_ob.2 (by rw [a, e]))))
    · omega
  have hg12 : g1 ≠ g2 := fun e => by
    rcases hat2 with a | a
    · exact hg1c (by rw [e]; exact mem_ob.2 a)
    · omega
  have bS1 : (wb.setCell ⟨P, 1, none⟩ (.slice (some ⟨g1, 0, none⟩) (r.tens.length + 1) cap1)).heap[P]? = some (.cells #[.int .i64 r.qm, .slice (some ⟨g1, 0, none⟩) (r.tens.length + 1) cap1, cv, .bool r.turn, jv] 32 (0, 0)) := by
    rw [Go.Joins.block_setCell (hP2.trans h.blk)]
    rfl
  have hfar : ∀ g : Nat, g ≠ P → ((wb.setCell ⟨P, 1, none⟩ (.slice (some ⟨g1, 0, none⟩) (r.tens.length + 1) cap1)).setCell ⟨P, 2, none⟩ (.slice (some ⟨g2, 0, none⟩) (r.creds.length + 1) cap2)).heap[g]? = wb.heap[g]? := fun g hg => (Below.heap_setCell _ ⟨P, 2, none⟩ _ g hg).trans (Below.heap_setCell _ ⟨P, 1, none⟩ _ g hg)
  have hjk : ∀ g ∈ ob jv, wb.heap[g]? = W.heap[g]? := fun g hg => (hbk2 g (by have := hjl g hg; omega) (hjc g hg)).trans (hbk1 g (hjl g hg) (hjt g hg))
  refine ⟨g2, cap2, wb, hrun2, by rw [World.cell?_of_block (w := W) hP2]; exact h.c 1 tv rfl, by rw [World.frozen?_of_block (w := W) hP2]; exact Lib.frozen_of_heap h.blk 1, by rw [Lib.cell_of_heap bS1]; rfl, Lib.frozen_of_heap bS1 2, ⟨?_, h.lo, ?_, ?_, ?_, ?_⟩, ?_⟩
  · rw [Go.Joins.block_setCell bS1]
    rfl
  · have e : ns (r.tens ++ [t1]) = ns r.tens ++ [.int .i64 (t1 : Int)] := by simp [ns]
    rw [e, List.length_append]
    refine .inl (own_heap (own_heap hown1 (w' := wb) fun g hg => ?_) fun g hg => ?_)
    · simp [Value.ownBlock] at hg
      subst hg
      exact hbk2 g1 hg1w hg1c
    · simp [Value.ownBlock] at hg
      subst hg
      exact hfar g1 hg1P
  · have e : ns (r.creds ++ [0]) = ns r.creds ++ [.int .i64 0] := by simp [ns]
    rw [e, List.length_append]
    refine .inl (own_heap hown2 fun g hg => ?_)
    simp [Value.ownBlock] at hg
    subst hg
    exact hfar g2 hg2P
  · exact h.jobs.keep fun g hg => (hfar g fun e => hd1 (by rw [← e]; exact List.mem_append_right _ (List.mem_append_right _ (mem_ob.2 hg)))).trans (hjk g (mem_ob.2 hg))
  · have o1 : ob (.slice (some ⟨g1, 0, none⟩) (r.tens.length + 1) cap1) = [g1] := rfl
    have o2 : ob (.slice (some ⟨g2, 0, none⟩) (r.creds.length + 1) cap2) = [g2] := rfl
    have g1j : g1 ∉ ob jv := fun e => by
      rcases hat1 with a | a
      · exact hjt g1 e (mem_ob.2 a)
      · have := hjl g1 e; omega
    have g2j : g2 ∉ ob jv := fun e => by
      rcases hat2 with a | a
      · exact hjc g2 e (mem_ob.2 a)
      · have := hjl g2 e; omega
    have Pj : P ∉ ob jv := fun e => hd1 (List.mem_append_right _ (List.mem_append_right _ e))
    unfold rids
    rw [o1, o2]
    simp only [List.singleton_append, List.nodup_cons, List.mem_cons, not_or]
    exact ⟨⟨Ne.symm hg1P, Ne.symm hg2P, Pj⟩, ⟨hg12, g1j⟩, g2j, hnd3.2.1⟩
  · refine ⟨hgr2.os.trans (hY.os.trans (hgr1.os.trans hX.os)), hgr2.tape.trans (hY.tape.trans (hgr1.tape.trans hX.tape)), hgr2.output.trans (hY.output.trans (hgr1.output.trans hX.output)), ?_, fun g x1 x2 => ?_, fun g hg => ?_⟩
    · have e : ((wb.setCell ⟨P, 1, none⟩ (.slice (some ⟨g1, 0, none⟩) (r.tens.length + 1) cap1)).setCell ⟨P, 2, none⟩ (.slice (some ⟨g2, 0, none⟩) (r.creds.length + 1) cap2)).heap.size = wb.heap.size := by simp [World.setCell]
      omega
    · have y1 : g ≠ P := fun e => x2 (by rw [e]; exact List.mem_cons_self)
      have y2 : g ∉ ob tv := fun e => x2 (List.mem_cons_of_mem _ (List.mem_append_left _ e))
      have y3 : g ∉ ob cv := fun e => x2 (List.mem_cons_of_mem _ (List.mem_append_right _ (List.mem_append_left _ e)))
      exact (hfar g y1).trans ((hbk2 g (by omega) y3).trans (hbk1 g x1 y2))
    · rcases List.mem_cons.1 hg with rfl | hg
      · exact .inl List.mem_cons_self
      rcases List.mem_append.1 hg with hg | hg
      · have e := mem_ob.1 hg
        simp [Value.ownBlock] at e
        subst e
        rcases hat1 with a | a
        · exact .inl (List.mem_cons_of_mem _ (List.mem_append_left _ (mem_ob.2 a)))
        · exact .inr (by omega)
      rcases List.mem_append.1 hg with hg | hg
      · have e := mem_ob.1 hg
        simp [Value.ownBlock] at e
        subst e
        rcases hat2 with a | a
        · exact .inl (List.mem_cons_of_mem _ (List.mem_append_right _ (List.mem_append_left _ (mem_ob.2 a))))
        · exact .inr (by omega)
      · exact .inl (List.mem_cons_of_mem _ (List.mem_append_right _ (List.mem_append_right _ hg)))
end Go.Proofs.Ytfddhdpnoliamaa
