/- The document's ring in memory: its other fields turn. -/
import Derived.Test.YtfddhdpnoliamaaQuRv
namespace Go.Proofs.Ytfddhdpnoliamaa
open Go.RowKit Go.Shelf

theorem rids_t (P : Nat) (tv cv jv : Value) : (rids P tv cv jv).Perm ((P :: (ob cv ++ ob jv)) ++ ob tv) := by
  unfold rids
  rw [List.cons_append]
  exact List.Perm.cons _ List.perm_append_comm
theorem rids_c (P : Nat) (tv cv jv : Value) : (rids P tv cv jv).Perm ((P :: (ob tv ++ ob jv)) ++ ob cv) := by
  unfold rids
  rw [List.cons_append, List.append_assoc]
  exact List.Perm.cons _ (List.Perm.append_left _ List.perm_append_comm)

theorem Below.of_grown {W w1 : World} (a : W.drew.grownBy w1 none) : Below W.heap.size W w1 := ⟨a.os, a.tape, a.output, a.size, fun g hg => a.block g hg (by simp)⟩

section
variable {B P : Nat} {tv cv jv : Value} {W w1 : World} {r : Rg}
theorem upd_new {P : Nat} {W w1 : World} {I J A : List Nat} {v v' : Value} {f : Nat} (hb : Below W.heap.size W w1) (hI : I.Perm (A ++ ob v)) (hJ : J.Perm (A ++ ob v')) (hP : P ∈ A) (hnew : ∀ g, v'.ownBlock = some g → v.ownBlock = some g ∨ W.heap.size ≤ g) : Upd I J W (w1.setCell ⟨P, f, none⟩ v') := by
  refine ⟨hb.os, hb.tape, hb.output, ?_, fun k x1 x2 => ?_, fun k hk => ?_⟩
  · have e : (w1.setCell ⟨P, f, none⟩ v').heap.size = w1.heap.size := by simp [World.setCell]
    rw [e]
    exact hb.size
  · exact (Below.heap_setCell _ ⟨P, f, none⟩ _ k fun e => x2 (hI.mem_iff.2 (List.mem_append_left _ (by rw [e]; exact hP)))).trans (hb.block k x1)
  · rcases List.mem_append.1 (hJ.mem_iff.1 hk) with hk | hk
    · exact .inl (hI.mem_iff.2 (List.mem_append_left _ hk))
    · rcases hnew k (mem_ob.1 hk) with e | e
      · exact .inl (hI.mem_iff.2 (List.mem_append_right _ (mem_ob.2 e)))
      · exact .inr e

theorem RS.tensTo (h : RS B P tv cv jv W r) {l' : List Nat} {v' : Value} (hb : Below W.heap.size W w1) (hr : RowL w1 B 3 1 v' l'.length (ns l')) (hnew : ∀ g, v'.ownBlock = some g → tv.ownBlock = some g ∨ W.heap.size ≤ g) :
    w1.cell? ⟨P, 1, none⟩ = some tv ∧ w1.frozen? ⟨P, 1, none⟩ = false ∧ RS B P v' cv jv (w1.setCell ⟨P, 1, none⟩ v') { r with tens := l' } ∧ Upd (rids P tv cv jv) (rids P v' cv jv) W (w1.setCell ⟨P, 1, none⟩ v') := by
  have hPl := (h.lt P List.mem_cons_self).2
  have eP : w1.heap[P]? = W.heap[P]? := hb.block P hPl
  have hnd := (rids_t P tv cv jv).nodup_iff.1 h.nd
  have hdj := (List.nodup_append.1 hnd).2.2
  have hA : ∀ g ∈ P :: (ob cv ++ ob jv), g < W.heap.size := fun g hg => (h.lt g ((rids_t P tv cv jv).mem_iff.2 (List.mem_append_left _ hg))).2
  have hnP : ∀ g ∈ ob cv ++ ob jv, g ≠ P := fun g hg e => by
    have h1 := (List.nodup_append.1 hnd).1
    rw [List.nodup_cons] at h1
    exact h1.1 (by rw [← e]; exact hg)
  have hvP : ∀ g, v'.ownBlock = some g → g ≠ P := fun g hg e => by
    rcases hnew g hg with a | a
    · exact hdj P List.mem_cons_self g (mem_ob.2 a) e.symm
    · omega
  have hk : ∀ g ∈ ob cv ++ ob jv, (w1.setCell ⟨P, 1, none⟩ v').heap[g]? = W.heap[g]? := fun g hg => (Below.heap_setCell _ ⟨P, 1, none⟩ _ g (hnP g hg)).trans (hb.block g (hA g (List.mem_cons_of_mem _ hg)))
  refine ⟨by rw [World.cell?_of_block (w := W) eP]; exact h.c 1 tv rfl, by rw [World.frozen?_of_block (w := W) eP]; exact Lib.frozen_of_heap h.blk 1, ⟨?_, h.lo, hr.keep fun g hg => Below.heap_setCell _ ⟨P, 1, none⟩ _ g (hvP g hg), h.creds.keep fun g hg => hk g (List.mem_append_left _ (mem_ob.2 hg)), h.jobs.keep fun g hg => hk g (List.mem_append_right _ (mem_ob.2 hg)), ?_⟩, upd_new hb (rids_t _ _ _ _) (rids_t _ _ _ _) List.mem_cons_self hnew⟩
  · rw [Go.Joins.block_setCell (eP.trans h.blk)]
    rfl
  · exact (rids_t P v' cv jv).nodup_iff.2 (nd_last hnd hA hnew)

theorem RS.credsTo (h : RS B P tv cv jv W r) {l' : List Nat} {v' : Value} (hb : Below W.heap.size W w1) (hr : RowL w1 B 3 1 v' l'.length (ns l')) (hnew : ∀ g, v'.ownBlock = some g → cv.ownBlock = some g ∨ W.heap.size ≤ g) :
    w1.cell? ⟨P, 2, none⟩ = some cv ∧ w1.frozen? ⟨P, 2, none⟩ = false ∧ RS B P tv v' jv (w1.setCell ⟨P, 2, none⟩ v') { r with creds := l' } ∧ Upd (rids P tv cv jv) (rids P tv v' jv) W (w1.setCell ⟨P, 2, none⟩ v') := by
  have hPl := (h.lt P List.mem_cons_self).2
  have eP : w1.heap[P]? = W.heap[P]? := hb.block P hPl
  have hnd := (rids_c P tv cv jv).nodup_iff.1 h.nd
  have hdj := (List.nodup_append.1 hnd).2.2
  have hA : ∀ g ∈ P :: (ob tv ++ ob jv), g < W.heap.size := fun g hg => (h.lt g ((rids_c P tv cv jv).mem_iff.2 (List.mem_append_left _ hg))).2
  have hnP : ∀ g ∈ ob tv ++ ob jv, g ≠ P := fun g hg e => by
    have h1 := (List.nodup_append.1 hnd).1
    rw [List.nodup_cons] at h1
    exact h1.1 (by rw [← e]; exact hg)
  have hvP : ∀ g, v'.ownBlock = some g → g ≠ P := fun g hg e => by
    rcases hnew g hg with a | a
    · exact hdj P List.mem_cons_self g (mem_ob.2 a) e.symm
    · omega
  have hk : ∀ g ∈ ob tv ++ ob jv, (w1.setCell ⟨P, 2, none⟩ v').heap[g]? = W.heap[g]? := fun g hg => (Below.heap_setCell _ ⟨P, 2, none⟩ _ g (hnP g hg)).trans (hb.block g (hA g (List.mem_cons_of_mem _ hg)))
  refine ⟨by rw [World.cell?_of_block (w := W) eP]; exact h.c 2 cv rfl, by rw [World.frozen?_of_block (w := W) eP]; exact Lib.frozen_of_heap h.blk 2, ⟨?_, h.lo, h.tens.keep fun g hg => hk g (List.mem_append_left _ (mem_ob.2 hg)), hr.keep fun g hg => Below.heap_setCell _ ⟨P, 2, none⟩ _ g (hvP g hg), h.jobs.keep fun g hg => hk g (List.mem_append_right _ (mem_ob.2 hg)), ?_⟩, upd_new hb (rids_c _ _ _ _) (rids_c _ _ _ _) List.mem_cons_self hnew⟩
  · rw [Go.Joins.block_setCell (eP.trans h.blk)]
    rfl
  · exact (rids_c P tv v' jv).nodup_iff.2 (nd_last hnd hA hnew)

theorem RS.turnTo (h : RS B P tv cv jv W r) (f : Bool) : W.frozen? ⟨P, 3, none⟩ = false ∧ RS B P tv cv jv (W.setCell ⟨P, 3, none⟩ (.bool f)) { r with turn := f } ∧ Upd (rids P tv cv jv) (rids P tv cv jv) W (W.setCell ⟨P, 3, none⟩ (.bool f)) := by
  have h0 := h.nd
  unfold rids at h0
  rw [List.nodup_cons] at h0
  have hk : ∀ g ∈ ob tv ++ (ob cv ++ ob jv), (W.setCell ⟨P, 3, none⟩ (.bool f)).heap[g]? = W.heap[g]? := fun g hg => Below.heap_setCell _ ⟨P, 3, none⟩ _ g fun e => h0.1 (by have e2 : g = P := e; rw [← e2]; exact hg)
  refine ⟨Lib.frozen_of_heap h.blk 3, ⟨?_, h.lo, h.tens.keep fun g hg => hk g (List.mem_append_left _ (mem_ob.2 hg)), h.creds.keep fun g hg => hk g (List.mem_append_right _ (List.mem_append_left _ (mem_ob.2 hg))), h.jobs.keep fun g hg => hk g (List.mem_append_right _ (List.mem_append_right _ (mem_ob.2 hg))), h.nd⟩, Upd.set W ⟨P, 3, none⟩ _ List.mem_cons_self⟩
  rw [Go.Joins.block_setCell h.blk]
  rfl

theorem ns_cut (l : List Nat) (k : Nat) : ns (l.take k ++ l.drop (k + 1)) = (ns l).take (k * 1) ++ (ns l).drop ((k + 1) * 1) := by
  unfold ns
  rw [List.map_append, Nat.mul_one, Nat.mul_one, ← List.map_take, ← List.map_drop]

/-- The first credit is another one. -/
theorem RS.cred0 {gc c0 cap : Nat} {cs : List Nat} (h : RS B P tv (.slice (some ⟨gc, 0, none⟩) r.creds.length cap) jv W r) (hc : r.creds = c0 :: cs) (c : Nat) :
    W.cell? ⟨gc, 0, none⟩ = some (.int .i64 (c0 : Int)) ∧ W.frozen? ⟨gc, 0, none⟩ = false ∧ RS B P tv (.slice (some ⟨gc, 0, none⟩) r.creds.length cap) jv (W.setCell ⟨gc, 0, none⟩ (.int .i64 (c : Int))) { r with creds := c :: cs } ∧ Upd (rids P tv (.slice (some ⟨gc, 0, none⟩) r.creds.length cap) jv) (rids P tv (.slice (some ⟨gc, 0, none⟩) r.creds.length cap) jv) W (W.setCell ⟨gc, 0, none⟩ (.int .i64 (c : Int))) := by
  have hl : r.creds.length = cs.length + 1 := by rw [hc]; rfl
  have hnd := (rids_c P tv (.slice (some ⟨gc, 0, none⟩) r.creds.length cap) jv).nodup_iff.1 h.nd
  have hdj := (List.nodup_append.1 hnd).2.2
  have hgm : gc ∈ ob (.slice (some ⟨gc, 0, none⟩) r.creds.length cap) := mem_ob.2 rfl
  have hk : ∀ g ∈ P :: (ob tv ++ ob jv), (W.setCell ⟨gc, 0, none⟩ (.int .i64 (c : Int))).heap[g]? = W.heap[g]? := fun g hg => Below.heap_setCell _ ⟨gc, 0, none⟩ _ g fun e => hdj g hg gc hgm e
  have key : ∀ cur : Array Value, cur.toList.take (r.creds.length * 1) = ns r.creds → ∃ rest : List Value, cur.toList = .int .i64 (c0 : Int) :: rest ∧ rest.take cs.length = ns cs := fun cur h1 => by
    rw [hl, Nat.mul_one] at h1
    cases e : cur.toList with
    | nil => rw [e, hc] at h1; simp [ns] at h1
    | cons x rest =>
      rw [e, hc] at h1
      have h2 : x :: rest.take cs.length = Value.int .i64 (c0 : Int) :: ns cs := h1
      injection h2 with a b
      exact ⟨rest, by rw [a], b⟩
  have key2 : ∀ cur : Array Value, cur.toList.take (r.creds.length * 1) = ns r.creds → (cur.setIfInBounds 0 (.int .i64 (c : Int))).toList.take ((c :: cs).length * 1) = ns (c :: cs) := fun cur h1 => by
    obtain ⟨rest, e, h2⟩ := key cur h1
    rw [Array.toList_setIfInBounds, e, Nat.mul_one]
    show Value.int .i64 (c : Int) :: rest.take cs.length = _
    rw [h2]
    rfl
  have hrow := h.creds
  have hnl : ∀ l : List Nat, (ns l).length = l.length * 1 := ns_len
  have hcell : W.cell? ⟨gc, 0, none⟩ = some (.int .i64 (c0 : Int)) ∧ W.frozen? ⟨gc, 0, none⟩ = false ∧ RowL (W.setCell ⟨gc, 0, none⟩ (.int .i64 (c : Int))) B 3 1 (.slice (some ⟨gc, 0, none⟩) r.creds.length cap) (c :: cs).length (ns (c :: cs)) := by
    have hll : (c :: cs).length = r.creds.length := by rw [hl]; rfl
    rcases hrow with h1 | ⟨g, cur, hv, h2, h3, h4, h5, h6⟩
    · rcases h1.2 with ⟨e0, _⟩ | ⟨g, cap', cur, hv, h2, h3, h4, h5, h6, h7⟩
      · cases e0
      · cases hv
        obtain ⟨rest, e, _⟩ := key cur h7
        refine ⟨?_, Lib.frozen_of_heap h3 0, .inl ⟨hnl _, .inr ⟨gc, cap, cur.setIfInBounds 0 (.int .i64 (c : Int)), by rw [hll], h2, ?_, by rw [hll]; exact h4, h5, by rw [Array.size_setIfInBounds]; exact h6, key2 cur h7⟩⟩⟩
        · rw [Lib.cell_of_heap h3, ← Array.getElem?_toList, e]
          rfl
        · rw [Go.Joins.block_setCell h3]
    · cases hv
      obtain ⟨rest, e, _⟩ := key cur h6
      refine ⟨?_, Lib.frozen_of_heap h3 0, .inr ⟨gc, cur.setIfInBounds 0 (.int .i64 (c : Int)), by rw [hll], h2, ?_, by rw [hll]; exact h4, hnl _, key2 cur h6⟩⟩
      · rw [Lib.cell_of_heap h3, ← Array.getElem?_toList, e]
        rfl
      · rw [Go.Joins.block_setCell h3]
  refine ⟨hcell.1, hcell.2.1, ⟨(hk P List.mem_cons_self).trans h.blk, h.lo, h.tens.keep fun g hg => hk g (List.mem_cons_of_mem _ (List.mem_append_left _ (mem_ob.2 hg))), hcell.2.2, h.jobs.keep fun g hg => hk g (List.mem_cons_of_mem _ (List.mem_append_right _ (mem_ob.2 hg))), h.nd⟩, Upd.set W ⟨gc, 0, none⟩ _ ((rids_c _ _ _ _).mem_iff.2 (List.mem_append_right _ hgm))⟩
end
end Go.Proofs.Ytfddhdpnoliamaa
