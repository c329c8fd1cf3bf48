/- What QueueFair keeps beside the queue, in memory: the names of each tenant's jobs, and all jobs. -/
import Derived.Test.YtfddhdpnoliamaaQuFp
import Derived.Test.YtfddhdpnoliamaaQuTr
import Derived.Test.YtfddhdpnoliamaaQuL
namespace Go.Proofs.Ytfddhdpnoliamaa
open Go.RowKit Go.Shelf

def fids (nmv : Value) (nvs : List Value) (av : Value) : List Nat := ob nmv ++ (nvs.flatMap ob ++ ob av)
structure FM (B : Nat) (W : World) (nmv : Value) (nvs : List Value) (nl : List (List ByteArray)) (av : Value) (na : Nat) : Prop where
  row : W.ownsRow B 43 1 nmv nvs.length nvs
  len : nl.length = nvs.length
  rows : ∀ t (h : t < nvs.length) (h2 : t < nl.length), W.ownsRow B 9 1 nvs[t] (nl[t]).length (ss nl[t])
  all : ∃ xs, W.ownsRow B 34 3 av na xs
  nd : (fids nmv nvs av).Nodup

section
variable {B : Nat} {W W' : World} {nmv av : Value} {nvs : List Value} {nl : List (List ByteArray)} {na : Nat}
theorem mem_fids_r {t : Nat} (h : t < nvs.length) {g : Nat} (hg : (nvs[t]).ownBlock = some g) : g ∈ fids nmv nvs av :=
  List.mem_append_right _ (List.mem_append_left _ (List.mem_flatMap.2 ⟨nvs[t], List.getElem_mem h, mem_ob.2 hg⟩))
theorem FM.keep (h : FM B W nmv nvs nl av na) (hh : ∀ g ∈ fids nmv nvs av, W'.heap[g]? = W.heap[g]?) : FM B W' nmv nvs nl av na := by
  obtain ⟨xs, hx⟩ := h.all
  exact ⟨own_heap h.row fun g hg => hh g (List.mem_append_left _ (mem_ob.2 hg)), h.len, fun t h1 h2 => own_heap (h.rows t h1 h2) fun g hg => hh g (mem_fids_r h1 hg), ⟨xs, own_heap hx fun g hg => hh g (List.mem_append_right _ (List.mem_append_right _ (mem_ob.2 hg)))⟩, h.nd⟩
theorem FM.lt (h : FM B W nmv nvs nl av na) : ∀ g ∈ fids nmv nvs av, B ≤ g ∧ g < W.heap.size := by
  intro g hg
  rcases List.mem_append.1 hg with hg | hg
  · exact h.row.lt g (mem_ob.1 hg)
  rcases List.mem_append.1 hg with hg | hg
  · obtain ⟨v, hv, hg⟩ := List.mem_flatMap.1 hg
    obtain ⟨t, ht, rfl⟩ := List.getElem_of_mem hv
    exact (h.rows t ht (by rw [h.len]; exact ht)).lt g (mem_ob.1 hg)
  · obtain ⟨xs, hx⟩ := h.all
    exact hx.lt g (mem_ob.1 hg)
theorem FM.up (h : FM B W nmv nvs nl av na) (hb : Below W.heap.size W W') : FM B W' nmv nvs nl av na := h.keep fun g hg => hb.block g (h.lt g hg).2

/-- Where a tenant's names lie. -/
theorem FM.at_ (h : FM B W nmv nvs nl av na) {t : Nat} (ht : t < nvs.length) : ∃ g cap cur, nmv = .slice (some ⟨g, 0, none⟩) nvs.length cap ∧ nvs.length ≤ cap ∧ W.heap[g]? = some (.cells cur 43 (0, 0)) ∧ W.cell? ⟨g, t, none⟩ = some nvs[t] ∧ W.frozen? ⟨g, t, none⟩ = false ∧ cur.toList.take nvs.length = nvs ∧ nvs.length ≤ cur.size := by
  rcases h.row.2 with ⟨_, e0⟩ | ⟨g, cap, cur, hv, h2, h3, h4, h5, h6, h7⟩
  · omega
  · rw [Nat.mul_one] at h6 h7
    refine ⟨g, cap, cur, hv, h4, h3, ?_, Lib.frozen_of_heap h3 t, h7, by omega⟩
    rw [Lib.cell_of_heap h3, ← Array.getElem?_toList]
    have e : (cur.toList.take nvs.length)[t]? = nvs[t]? := by rw [h7]
    rw [List.getElem?_take_of_lt ht] at e
    rw [e, List.getElem?_eq_getElem ht]

theorem perm_set {l : List Value} {t : Nat} (h : t < l.length) (v : Value) : ((l.set t v).flatMap ob).Perm ((l.take t).flatMap ob ++ (l.drop (t + 1)).flatMap ob ++ ob v) := by
  rw [List.set_eq_take_append_cons_drop, if_pos h, List.flatMap_append, List.flatMap_cons, List.append_assoc]
  exact List.Perm.append_left _ List.perm_append_comm

/-- A name comes behind a tenant's others. -/
theorem FM.name (h : FM B W nmv nvs nl av na) {t : Nat} (ht : t < nvs.length) (s : ByteArray) {v' : Value} {w1 : World} {g cap : Nat} (hv : nmv = .slice (some ⟨g, 0, none⟩) nvs.length cap)
    (hr : w1.ownsRow B 9 1 v' ((nl.getD t []).length + 1) (ss (nl.getD t []) ++ [.string s])) (hW : ∀ x : Nat, x < W.heap.size → x ∉ ob (nvs.getD t (.slice none 0 0)) → w1.heap[x]? = W.heap[x]?) (hnew : ∀ x, v'.ownBlock = some x → (nvs.getD t (.slice none 0 0)).ownBlock = some x ∨ W.heap.size ≤ x) :
    FM B (w1.setCell ⟨g, t, none⟩ v') nmv (nvs.set t v') (nl.set t (nl.getD t [] ++ [s])) av na ∧ (∀ x : Nat, x < W.heap.size → x ∉ fids nmv nvs av → (w1.setCell ⟨g, t, none⟩ v').heap[x]? = W.heap[x]?) ∧ (∀ x ∈ fids nmv (nvs.set t v') av, x ∈ fids nmv nvs av ∨ W.heap.size ≤ x) ∧ w1.cell? ⟨g, t, none⟩ = some nvs[t] ∧ w1.frozen? ⟨g, t, none⟩ = false := by
  have htl : t < nl.length := by rw [h.len]; exact ht
  have e1 : nl.getD t [] = nl[t] := by rw [List.getD_eq_getElem?_getD, List.getElem?_eq_getElem htl]; rfl
  have e2 : nvs.getD t (.slice none 0 0) = nvs[t] := by rw [List.getD_eq_getElem?_getD, List.getElem?_eq_getElem ht]; rfl
  rw [e2] at hW hnew
  rw [e1] at hr ⊢
  obtain ⟨g', cap', cur, hv', _, hblk, hcell, hfz, htk, hsz⟩ := h.at_ ht
  rw [hv] at hv'
  have hgg : g = g' := by injection hv' with a; injection a with a; injection a
  subst hgg
  have hob : ob nmv = [g] := by rw [hv]; rfl
  have hnd := h.nd
  unfold fids at hnd
  rw [hob] at hnd
  have hgn : g ∉ nvs.flatMap ob ++ ob av := (List.nodup_cons.1 hnd).1
  have hnd2 := (List.nodup_cons.1 hnd).2
  have hsplit : nvs = nvs.take t ++ nvs[t] :: nvs.drop (t + 1) := by rw [← List.drop_eq_getElem_cons ht, List.take_append_drop]
  have hset : nvs.set t nvs[t] = nvs := by rw [List.set_getElem_self]
  have hp0 : (nvs.flatMap ob ++ ob av).Perm (((nvs.take t).flatMap ob ++ (nvs.drop (t + 1)).flatMap ob ++ ob av) ++ ob nvs[t]) := by
    have := perm_set ht nvs[t]
    rw [hset] at this
    refine (this.append_right _).trans ?_
    rw [List.append_assoc, List.append_assoc ((nvs.take t).flatMap ob ++ _)]
    exact List.Perm.append_left _ List.perm_append_comm
  have hp1 : ((nvs.set t v').flatMap ob ++ ob av).Perm (((nvs.take t).flatMap ob ++ (nvs.drop (t + 1)).flatMap ob ++ ob av) ++ ob v') := by
    refine ((perm_set ht v').append_right _).trans ?_
    rw [List.append_assoc, List.append_assoc ((nvs.take t).flatMap ob ++ _)]
    exact List.Perm.append_left _ List.perm_append_comm
  have hlt := h.lt
  have hgl : g < W.heap.size := (hlt g (by unfold fids; rw [hob]; exact List.mem_cons_self)).2
  have hndp := hp0.nodup_iff.1 hnd2
  have hoth : ∀ x ∈ (nvs.take t).flatMap ob ++ (nvs.drop (t + 1)).flatMap ob ++ ob av, x < W.heap.size ∧ x ∉ ob nvs[t] ∧ x ≠ g := fun x hx => by
    have hxm : x ∈ nvs.flatMap ob ++ ob av := hp0.mem_iff.2 (List.mem_append_left _ hx)
    exact ⟨(hlt x (List.mem_append_right _ hxm)).2, fun e => (List.nodup_append.1 hndp).2.2 x hx x e rfl, fun e => hgn (e ▸ hxm)⟩
  have hgt : g ∉ ob nvs[t] := fun e => hgn (hp0.mem_iff.2 (List.mem_append_right _ e))
  have hg1 : w1.heap[g]? = W.heap[g]? := hW g hgl hgt
  have hv'g : ∀ x, v'.ownBlock = some x → x ≠ g := fun x hx e => by
    rcases hnew x hx with a | a
    · exact hgt (mem_ob.2 (e ▸ a))
    · omega
  have hk : ∀ x ∈ (nvs.take t).flatMap ob ++ (nvs.drop (t + 1)).flatMap ob ++ ob av, (w1.setCell ⟨g, t, none⟩ v').heap[x]? = W.heap[x]? := fun x hx => (Below.heap_setCell _ ⟨g, t, none⟩ _ x (hoth x hx).2.2).trans (hW x (hoth x hx).1 (hoth x hx).2.1)
  have hblk2 : (w1.setCell ⟨g, t, none⟩ v').heap[g]? = some (.cells (cur.setIfInBounds t v') 43 (0, 0)) := by rw [Go.Joins.block_setCell (hg1.trans hblk)]
  refine ⟨⟨?_, ?_, ?_, ?_, ?_⟩, ?_, ?_, ?_, ?_⟩
  · rcases h.row.2 with ⟨_, e0⟩ | ⟨g2, cap2, cur2, hv2, h2, h3, h4, h5, h6, h7⟩
    · omega
    · rw [hv] at hv2
      have hgg2 : g = g2 ∧ cap = cap2 := by injection hv2 with a b c; injection a with a; injection a with a; exact ⟨a, c⟩
      obtain ⟨rfl, rfl⟩ := hgg2
      rw [hblk] at h3
      have hcc : cur2 = cur := by cases h3; rfl
      subst hcc
      refine ⟨by rw [List.length_set]; omega, .inr ⟨g, cap, cur2.setIfInBounds t v', by rw [List.length_set]; exact hv, h2, hblk2, by rw [List.length_set]; exact h4, h5, by rw [Array.size_setIfInBounds]; exact h6, ?_⟩⟩
      rw [List.length_set, Nat.mul_one, Array.toList_setIfInBounds, List.take_set, htk]
  · rw [List.length_set, List.length_set]; exact h.len
  · intro k h1 h2
    rw [List.length_set] at h1 h2
    by_cases e : k = t
    · subst e
      rw [List.getElem_set_self, List.getElem_set_self, List.length_append]
      have e5 : ss (nl[k] ++ [s]) = ss nl[k] ++ [.string s] := by unfold ss; rw [List.map_append]; rfl
      rw [e5]
      exact own_heap hr fun x hx => Below.heap_setCell _ ⟨g, k, none⟩ _ x (hv'g x hx)
    · rw [List.getElem_set_ne (fun e2 => e e2.symm), List.getElem_set_ne (fun e2 => e e2.symm)]
      refine own_heap (h.rows k h1 h2) fun x hx => hk x (List.mem_append_left _ ?_)
      have hxk : x ∈ ob nvs[k] := mem_ob.2 hx
      rcases Nat.lt_or_gt_of_ne e with hlt2 | hgt2
      · refine List.mem_append_left _ (List.mem_flatMap.2 ⟨nvs[k], ?_, hxk⟩)
        rw [List.mem_iff_getElem?]
        exact ⟨k, by rw [List.getElem?_take_of_lt hlt2, List.getElem?_eq_getElem h1]⟩
      · refine List.mem_append_right _ (List.mem_flatMap.2 ⟨nvs[k], ?_, hxk⟩)
        rw [List.mem_iff_getElem?]
        exact ⟨k - (t + 1), by rw [List.getElem?_drop, show t + 1 + (k - (t + 1)) = k from by omega, List.getElem?_eq_getElem h1]⟩
  · obtain ⟨xs, hx⟩ := h.all
    exact ⟨xs, own_heap hx fun x hx => hk x (List.mem_append_right _ (mem_ob.2 hx))⟩
  · unfold fids
    rw [hob]
    show (g :: _).Nodup
    rw [List.nodup_cons]
    refine ⟨fun e => ?_, hp1.nodup_iff.2 (nd_last hndp (fun x hx => (hoth x hx).1) hnew)⟩
    rcases List.mem_append.1 (hp1.mem_iff.1 e) with e | e
    · exact (hoth g e).2.2 rfl
    · exact hv'g g (mem_ob.1 e) rfl
  · intro x hx hn
    have hxg : x ≠ g := fun e => hn (by unfold fids; rw [hob]; exact List.mem_append_left _ (by rw [e]; exact List.mem_singleton.2 rfl))
    exact (Below.heap_setCell _ ⟨g, t, none⟩ _ x hxg).trans (hW x hx fun e => hn (List.mem_append_right _ (hp0.mem_iff.2 (List.mem_append_right _ e))))
  · intro x hx
    rcases List.mem_append.1 hx with hx | hx
    · exact .inl (List.mem_append_left _ hx)
    · rcases List.mem_append.1 (hp1.mem_iff.1 hx) with hx | hx
      · exact .inl (List.mem_append_right _ (hp0.mem_iff.2 (List.mem_append_left _ hx)))
      · rcases hnew x (mem_ob.1 hx) with a | a
        · exact .inl (List.mem_append_right _ (hp0.mem_iff.2 (List.mem_append_right _ (mem_ob.2 a))))
        · exact .inr a
  · rw [World.cell?_of_block (w := W) hg1]; exact hcell
  · rw [World.frozen?_of_block (w := W) hg1]; exact hfz

/-- A job comes behind all others. -/
theorem FM.more (h : FM B W nmv nvs nl av na) {v' : Value} {w1 : World} {xs' : List Value} (hr : w1.ownsRow B 34 3 v' (na + 1) xs') (hW : ∀ x : Nat, x < W.heap.size → x ∉ ob av → w1.heap[x]? = W.heap[x]?) (hnew : ∀ x, v'.ownBlock = some x → av.ownBlock = some x ∨ W.heap.size ≤ x) :
    FM B w1 nmv nvs nl v' (na + 1) ∧ (∀ x : Nat, x < W.heap.size → x ∉ fids nmv nvs av → w1.heap[x]? = W.heap[x]?) ∧ (∀ x ∈ fids nmv nvs v', x ∈ fids nmv nvs av ∨ W.heap.size ≤ x) := by
  have hnd := h.nd
  unfold fids at hnd
  rw [← List.append_assoc] at hnd
  have hA : ∀ x ∈ ob nmv ++ nvs.flatMap ob, x < W.heap.size ∧ x ∉ ob av := fun x hx => ⟨(h.lt x (by unfold fids; rw [← List.append_assoc]; exact List.mem_append_left _ hx)).2, fun e => (List.nodup_append.1 hnd).2.2 x hx x e rfl⟩
  have hk : ∀ x ∈ ob nmv ++ nvs.flatMap ob, w1.heap[x]? = W.heap[x]? := fun x hx => hW x (hA x hx).1 (hA x hx).2
  refine ⟨⟨own_heap h.row fun x hx => hk x (List.mem_append_left _ (mem_ob.2 hx)), h.len, fun t h1 h2 => own_heap (h.rows t h1 h2) fun x hx => hk x (List.mem_append_right _ (List.mem_flatMap.2 ⟨_, List.getElem_mem h1, mem_ob.2 hx⟩)), ⟨xs', hr⟩, ?_⟩, fun x hx hn => hW x hx fun e => hn (List.mem_append_right _ (List.mem_append_right _ e)), fun x hx => ?_⟩
  · unfold fids
    rw [← List.append_assoc]
    exact nd_last hnd (fun x hx => (hA x hx).1) hnew
  · unfold fids at hx ⊢
    rw [← List.append_assoc] at hx ⊢
    rcases List.mem_append.1 hx with hx | hx
    · exact .inl (List.mem_append_left _ hx)
    · rcases hnew x (mem_ob.1 hx) with a | a
      · exact .inl (List.mem_append_right _ (mem_ob.2 a))
      · exact .inr a
end
end Go.Proofs.Ytfddhdpnoliamaa
