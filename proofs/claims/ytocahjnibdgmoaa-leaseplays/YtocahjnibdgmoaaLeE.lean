/- A book of leases: the leases that are over are ended. -/
import Derived.Test.YtocahjnibdgmoaaLeP
import Derived.Test.YtocahjnibdgmoaaLeIt
import Derived.Sort.OwnSorted
namespace Go.Proofs.Ytocahjnibdgmoaa
open Go.RowKit Go.Shelf Go.Maps Go.WideMaps Go.Sort

/-- The last lease of this job is over by now. -/
def frees (nw : Int) (e : Ent) : Bool := decide (0 < e.ts.length) && decide ((e.ts.filter fun p => decide (nw ≤ p.2)).length = 0)
def cutE (nw : Int) (e : Ent) : Ent := { e with ts := e.ts.filter fun p => decide (nw ≤ p.2) }
def fE (nw : Int) (left : Lit → Bool) (e : Ent) : Ent := if left (.string e.nm) = true then e else cutE nw e

theorem fE_nm (nw : Int) (left : Lit → Bool) (e : Ent) : (fE nw left e).nm = e.nm := by unfold fE; split <;> rfl
theorem fE_ids (nw : Int) (left : Lit → Bool) (e : Ent) : eids (fE nw left e) = eids e := by unfold fE; split <;> rfl
theorem bids_fE (Bk M : Nat) (nw : Int) (left : Lit → Bool) (E : List Ent) : bids Bk M (E.map (fE nw left)) = bids Bk M E := by
  unfold bids
  rw [List.flatMap_map]
  simp [fE_ids]

/-- Which job a key tells. -/
theorem at_ent {E : List Ent} (hpw : E.Pairwise (fun x y => x.nm ≠ y.nm)) {x : List UInt8} {y : DataW Unit} (hat : ∀ zd, (DataW.map (E.map eD)).atKey (.string x) zd = y) : ∃ E1 e E2, E = E1 ++ e :: E2 ∧ e.nm = x ∧ y = .lit (.int .i64 (e.blk : Int)) := by
  have hh := has_true_of_atKey hat
  rw [has_eq, List.any_eq_true] at hh
  obtain ⟨p, hp, hs⟩ := hh
  obtain ⟨e, he, rfl⟩ := List.mem_map.1 hp
  have hnm : e.nm = x := by
    have := WideAt.sameKey_eq hs
    injection this
  obtain ⟨E1, E2, rfl⟩ := List.append_of_mem he
  refine ⟨E1, e, E2, rfl, hnm, ?_⟩
  have hpw2 : ((E1 ++ e :: E2).map eD).Pairwise (fun p q => p.1 ≠ q.1) := List.pairwise_map.2 (hpw.imp fun hne e => hne (by injection e))
  have hm : (Lit.string x, DataW.lit (.int .i64 (e.blk : Int))) ∈ (E1 ++ e :: E2).map eD := by rw [← hnm]; exact hp
  exact (hat .nil).symm.trans (WideAt.atKey_mem .nil (by exact trivial) hpw2 hm)

theorem fE_others {nw : Int} {left : Lit → Bool} {E : List Ent} {x : List UInt8} (h : ∀ e ∈ E, e.nm ≠ x) : E.map (fE nw fun z => left z && !z.sameKey (.string x)) = E.map (fE nw left) := by
  refine List.map_congr_left fun e he => ?_
  unfold fE
  have : (Lit.string e.nm).sameKey (.string x) = false := sameKey_ne (fun h2 => h e he (by injection h2))
  simp [this]

theorem fE_step {nw : Int} {left : Lit → Bool} {E1 E2 : List Ent} {e : Ent} (hpw : (E1 ++ e :: E2).Pairwise (fun x y => x.nm ≠ y.nm)) (hl : left (.string e.nm) = true) :
    (E1 ++ e :: E2).map (fE nw left) = E1.map (fE nw left) ++ e :: E2.map (fE nw left) ∧ (E1 ++ e :: E2).map (fE nw fun z => left z && !z.sameKey (.string e.nm)) = E1.map (fE nw left) ++ cutE nw e :: E2.map (fE nw left) := by
  rw [List.pairwise_append, List.pairwise_cons] at hpw
  obtain ⟨h1, ⟨h2, h3⟩, h4⟩ := hpw
  constructor
  · rw [List.map_append, List.map_cons]
    congr 2
    unfold fE
    rw [if_pos hl]
  · rw [List.map_append, List.map_cons, fE_others (fun x hx => h4 x hx e (by simp)), fE_others (fun x hx => (h2 x hx).symm)]
    congr 2
    unfold fE
    have : (Lit.string e.nm).sameKey (.string e.nm) = true := WideAt.sameKey_self (by exact trivial)
    simp [this]

theorem mem_step {nw : Int} {left : Lit → Bool} {E1 E2 : List Ent} {e : Ent} (hpw : (E1 ++ e :: E2).Pairwise (fun x y => x.nm ≠ y.nm)) (hl : left (.string e.nm) = true) {ss : List (List UInt8)} (hm : ∀ x, x ∈ ss ↔ ∃ e' ∈ E1 ++ e :: E2, e'.nm = x ∧ left (.string x) = false ∧ frees nw e' = true) (ss' : List (List UInt8)) (hs : (ss' = ss ∧ frees nw e = false) ∨ (ss' = ss ++ [e.nm] ∧ frees nw e = true)) :
    ∀ x, x ∈ ss' ↔ ∃ e' ∈ E1 ++ e :: E2, e'.nm = x ∧ (left (.string x) && !(Lit.string x).sameKey (.string e.nm)) = false ∧ frees nw e' = true := by
  have hone : ∀ e' ∈ E1 ++ e :: E2, e'.nm = e.nm → e' = e := by
    intro e' he' hn
    rw [List.pairwise_append, List.pairwise_cons] at hpw
    obtain ⟨h1, ⟨h2, h3⟩, h4⟩ := hpw
    rcases List.mem_append.1 he' with h | h
    · exact absurd hn (h4 e' h e (by simp))
    · rcases List.mem_cons.1 h with h | h
      · exact h
      · exact absurd hn.symm (h2 e' h)
  have hself : (Lit.string e.nm).sameKey (.string e.nm) = true := WideAt.sameKey_self (by exact trivial)
  intro x
  by_cases hx : x = e.nm
  · subst hx
    rw [hself]
    constructor
    · intro hmem
      rcases hs with ⟨rfl, hf⟩ | ⟨rfl, hf⟩
      · obtain ⟨e', _, _, h3, _⟩ := (hm _).1 hmem
        rw [hl] at h3; cases h3
      · exact ⟨e, by simp, rfl, by simp, hf⟩
    · rintro ⟨e', he', hn, _, hf⟩
      rw [hone e' he' hn] at hf
      rcases hs with ⟨rfl, hf2⟩ | ⟨rfl, hf2⟩
      · rw [hf] at hf2; cases hf2
      · simp
  · have hns : (Lit.string x).sameKey (.string e.nm) = false := sameKey_ne (fun h2 => hx (by injection h2))
    rw [hns]
    have : x ∈ ss' ↔ x ∈ ss := by
      rcases hs with ⟨rfl, _⟩ | ⟨rfl, _⟩
      · exact Iff.rfl
      · simp [hx]
    rw [this, hm x]
    simp
theorem nd_step {nw : Int} {left : Lit → Bool} {E : List Ent} {x : List UInt8} (hl : left (.string x) = true) {ss : List (List UInt8)} (hm : ∀ x, x ∈ ss ↔ ∃ e' ∈ E, e'.nm = x ∧ left (.string x) = false ∧ frees nw e' = true) (hn : ss.Nodup) : (ss ++ [x]).Nodup := by
  refine List.nodup_append.2 ⟨hn, by simp, fun y hy z hz e => ?_⟩
  simp at hz
  subst e hz
  obtain ⟨_, _, _, h3, _⟩ := (hm y).1 hy
  rw [hl] at h3; cases h3
/-- All the way through the book: what lies in memory. -/
structure EJ (B Bk M bb r : Nat) (a b c nw : Int) (E : List Ent) (w wr : World) (fv : Value) (left : Lit → Bool) (cnt : Nat) (ss : List (List UInt8)) : Prop where
  rg : wr.ranges Try.prog 9 ptrE M r E.length (.map (E.map eD)) left cnt
  bs : BS B Bk M a b c nw (E.map (fE nw left)) wr
  bx : wr.cell? ⟨bb, 0, none⟩ = some (.pointer (some ⟨Bk, 0, none⟩))
  row : wr.ownsRow (w.heap.size + 2) 9 1 fv ss.length (ss.map encStr)
  up : Upd (bids Bk M E) (bids Bk M E) w wr
  sz : w.heap.size + 2 ≤ wr.heap.size
  lt : ∀ g ∈ bids Bk M E, g < w.heap.size
  hb : bb = w.heap.size
  hr : r = w.heap.size + 1
/-- .. and what is told. -/
structure EP (nw : Int) (E : List Ent) (left : Lit → Bool) (cnt : Nat) (ss : List (List UInt8)) : Prop where
  nd : ss.Nodup
  mem : ∀ x, x ∈ ss ↔ ∃ e ∈ E, e.nm = x ∧ left (.string x) = false ∧ frees nw e = true
  cn : ss.length + cnt ≤ E.length

theorem own_heapL {w w' : World} {base : Nat} {e : TypeId} {size : Nat} {v : Value} {n : Nat} {xs : List Value} (h : w.ownsRow base e size v n xs) (hh : ∀ g, v.ownBlock = some g → w'.heap[g]? = w.heap[g]?) : w'.ownsRow base e size v n xs := by
  refine ⟨h.1, ?_⟩
  rcases h.2 with hn | ⟨g, cap, cur, rfl, hb, hgg, rest⟩
  · exact .inl hn
  · exact .inr ⟨g, cap, cur, rfl, hb, (hh g rfl).trans hgg, rest⟩
theorem own_low {w : World} {base base' : Nat} {e : TypeId} {size : Nat} {v : Value} {n : Nat} {xs : List Value} (h : w.ownsRow base e size v n xs) (hh : base' ≤ base) : w.ownsRow base' e size v n xs := by
  refine ⟨h.1, ?_⟩
  rcases h.2 with hn | ⟨g, cap, cur, rfl, hb, rest⟩
  · exact .inl hn
  · exact .inr ⟨g, cap, cur, rfl, Nat.le_trans hh hb, rest⟩
theorem ranges_heap {H : Type} {w w' : World} {P : Program} {k : TypeId} {R : Value → Option (DataW H × List MemPlace)} {b r n : Nat} {D : DataW H} {left : Lit → Bool} {cnt : Nat} (h : w.ranges P k R b r n D left cnt) (hb : w'.heap[b]? = w.heap[b]?) (hr : w'.heap[r]? = w.heap[r]?) : w'.ranges P k R b r n D left cnt := by
  obtain ⟨es, clock, i, x1, x2, h1, h2, h3, h4, h5, rest⟩ := h
  exact ⟨es, clock, i, x1, x2, hb.trans h1, h2, h3, h4, hr.trans h5, rest⟩

section
variable {B Bk M bb r : Nat} {a b c nw : Int} {E E1 E2 : List Ent} {e : Ent} {w wr w2 w3 : World} {fv : Value} {left left2 : Lit → Bool} {cnt cnt2 : Nat} {ss : List (List UInt8)}
theorem Upd.grown {I : List Nat} {a0 a1 a2 : World} {row : Option Nat} (h : Upd I I a0 a1) (hg : a1.grownBy a2 row) (hr : ∀ j, row = some j → a0.heap.size ≤ j ∨ j ∈ I) : Upd I I a0 a2 :=
  ⟨hg.os.trans h.os, hg.tape.trans h.tape, hg.output.trans h.output, Nat.le_trans h.size hg.size, fun g hgl hgn => (hg.block g (Nat.lt_of_lt_of_le hgl h.size) fun e => by
    rcases hr g e.symm with e | e
    · omega
    · exact hgn e).trans (h.block g hgl hgn), fun _ h => .inl h⟩
theorem EJ.at2 (h : EJ B Bk M bb r a b c nw E w wr fv left cnt ss) (hg : wr.grownBy w2 (some r)) : BS B Bk M a b c nw (E.map (fE nw left)) w2 ∧ w2.cell? ⟨bb, 0, none⟩ = some (.pointer (some ⟨Bk, 0, none⟩)) ∧ w2.ownsRow (w.heap.size + 2) 9 1 fv ss.length (ss.map encStr) ∧ Upd (bids Bk M E) (bids Bk M E) w w2 ∧ w.heap.size + 2 ≤ w2.heap.size := by
  have hr := h.hr
  have hb := h.hb
  refine ⟨h.bs.keep fun g hg2 => ?_, ?_, own_heapL h.row fun g hg2 => ?_, h.up.grown hg fun j hj => ?_, Nat.le_trans h.sz hg.size⟩
  · rw [bids_fE] at hg2
    have := h.lt g hg2
    exact hg.block g (by have := h.sz; omega) (by simp; omega)
  · exact (World.cell?_of_block (w := wr) (hg.block bb (by have := h.sz; omega) (by simp; omega))).trans h.bx
  · have := h.row.lt g hg2
    exact hg.block g this.2 (by simp; omega)
  · cases hj; exact .inl (by omega)
theorem EJ.step (h : EJ B Bk M bb r a b c nw E w wr fv left cnt ss) (hpw : E.Pairwise fun x y => x.nm ≠ y.nm) (hE : E = E1 ++ e :: E2) (hlk : left (.string e.nm) = true) (hg : wr.grownBy w2 (some r)) (hrg2 : w2.ranges Try.prog 9 ptrE M r E.length (.map (E.map eD)) (fun z => left z && !z.sameKey (.string e.nm)) cnt2) (hg3 : w2.grownBy w3 e.tb) (hj3 : JobAt B w3 (cutE nw e)) :
    EJ B Bk M bb r a b c nw E w w3 fv (fun z => left z && !z.sameKey (.string e.nm)) cnt2 ss := by
  obtain ⟨hbs, hbx, hrow, hup, hsz⟩ := h.at2 hg
  have hr := h.hr
  have hb := h.hb
  have htl : ∀ t, e.tb = some t → t ∈ bids Bk M E ∧ t < w.heap.size := fun t ht => by
    have : t ∈ bids Bk M E := mem_bids (e := e) (by rw [hE]; simp) (by simp [eids, ht])
    exact ⟨this, h.lt t this⟩
  have hMt : ∀ t, e.tb = some t → M ≠ t := fun t ht e1 => by
    have hap := hbs.apart
    rw [bids_fE, hE, bids_mid, List.nodup_append] at hap
    exact hap.2.2 M (by simp) t (by simp [eids, ht]) e1
  have hst := fE_step (nw := nw) (left := left) (E1 := E1) (E2 := E2) (e := e) (by rw [← hE]; exact hpw) hlk
  refine ⟨ranges_heap hrg2 (hg3.block M (hrg2.owns).lt fun e1 => hMt M e1.symm rfl) (hg3.block r hrg2.lt fun e1 => by have := (htl r e1.symm).2; omega), ?_, ?_, own_heapL hrow fun g hg2 => ?_, hup.grown hg3 fun j hj => .inr (htl j hj).1, Nat.le_trans hsz hg3.size, h.lt, hb, hr⟩
  · rw [hE, hst.1] at hbs
    rw [hE, hst.2]
    have he := hbs.jobs e (by simp)
    have hnd : (eids e).Nodup := by
      have hap := hbs.apart
      rw [bids_mid, List.nodup_append, List.nodup_append] at hap
      exact hap.2.1.1
    exact hbs.setEnt rfl rfl hnd (fun g hg => .inl hg) hj3 fun g hgl hgn => hg3.block g hgl fun e1 => hgn (by simp [eids, ← e1])
  · exact (World.cell?_of_block (w := w2) (hg3.block bb (by omega) fun e1 => by have := (htl bb e1.symm).2; omega)).trans hbx
  · have := hrow.lt g hg2
    exact hg3.block g this.2 fun e1 => by have := (htl g e1.symm).2; omega
/-- One name more. -/
theorem EJ.app (h : EJ B Bk M bb r a b c nw E w wr fv left cnt ss) {o : Obj} {v' : Value} {x : List UInt8} (hg : (wr.alloc o).grownBy w3 fv.ownBlock) (hrow : w3.ownsRow (w.heap.size + 2) 9 1 v' (ss ++ [x]).length ((ss ++ [x]).map encStr)) : EJ B Bk M bb r a b c nw E w w3 v' left cnt (ss ++ [x]) := by
  have hr := h.hr
  have hb := h.hb
  have hs := h.sz
  have hk : ∀ g : Nat, g < w.heap.size + 2 → w3.heap[g]? = wr.heap[g]? := fun g hgl => (hg.block g (by simp; omega) fun e1 => by have := (h.row.lt g e1.symm).1; omega).trans (Below.heap_alloc wr o g (by omega))
  refine ⟨ranges_heap h.rg (hk M ?_) (hk r (by omega)), h.bs.keep fun g hg2 => hk g ?_, (World.cell?_of_block (w := wr) (hk bb (by omega))).trans h.bx, hrow, ?_, ?_, h.lt, hb, hr⟩
  · have := h.lt M (by simp [bids]); omega
  · rw [bids_fE] at hg2
    have := h.lt g hg2
    omega
  · exact ⟨hg.os.trans h.up.os, hg.tape.trans h.up.tape, hg.output.trans h.up.output, by have := hg.size; simp at this; omega, fun g hgl hgn => (hk g (by omega)).trans (h.up.block g hgl hgn), fun _ h => .inl h⟩
  · have := hg.size
    simp at this
    omega
theorem EJ.fin (h : EJ B Bk M bb r a b c nw E w wr fv left cnt ss) (hM : E.map (fE nw left) = E.map (cutE nw)) (hg : wr.grownBy w3 fv.ownBlock) : BS B Bk M a b c nw (E.map (cutE nw)) w3 ∧ Upd (bids Bk M E) (bids Bk M E) w w3 := by
  have hs := h.sz
  refine ⟨?_, h.up.grown hg fun j hj => .inl (by have := (h.row.lt j hj).1; omega)⟩
  rw [← hM]
  refine h.bs.keep fun g hg2 => ?_
  rw [bids_fE] at hg2
  have := h.lt g hg2
  exact hg.block g (by omega) fun e1 => by have := (h.row.lt g e1.symm).1; omega
theorem EP.step {nw : Int} {E E1 E2 : List Ent} {e : Ent} {left : Lit → Bool} {cnt cnt2 : Nat} {ss : List (List UInt8)} (h : EP nw E left cnt ss) (hpw : E.Pairwise fun x y => x.nm ≠ y.nm) (hE : E = E1 ++ e :: E2) (hlk : left (.string e.nm) = true) (hlt : cnt2 < cnt) : (frees nw e = false → EP nw E (fun z => left z && !z.sameKey (.string e.nm)) cnt2 ss) ∧ (frees nw e = true → EP nw E (fun z => left z && !z.sameKey (.string e.nm)) cnt2 (ss ++ [e.nm])) := by
  have hm := h.mem
  have hcn := h.cn
  subst hE
  refine ⟨fun hf => ⟨h.nd, mem_step hpw hlk hm ss (.inl ⟨rfl, hf⟩), by omega⟩, fun hf => ⟨nd_step hlk hm h.nd, mem_step hpw hlk hm _ (.inr ⟨rfl, hf⟩), ?_⟩⟩
  rw [List.length_append]
  simp only [List.length_cons, List.length_nil] at *
  omega
end
/-- Rising, as the book is. -/
def upE (E : List Ent) : Prop := E.Pairwise fun x y => x.nm ≤ y.nm
theorem sorted_free {nw : Int} {E : List Ent} (hpw : E.Pairwise (fun x y => x.nm ≠ y.nm)) (hup : upE E) {left : Lit → Bool} (hl : ∀ kl, left kl = false) {ss : List (List UInt8)} (hn : ss.Nodup) (hm : ∀ x, x ∈ ss ↔ ∃ e' ∈ E, e'.nm = x ∧ left (.string x) = false ∧ frees nw e' = true) : ss.mergeSort leB = (E.filter (frees nw)).map Ent.nm := by
  have hp : ss.Perm ((E.filter (frees nw)).map Ent.nm) := by
    refine (List.perm_ext_iff_of_nodup hn ?_).2 fun x => ?_
    · exact List.pairwise_map.2 (hpw.filter _)
    · rw [hm x, List.mem_map]
      constructor
      · rintro ⟨e, he, hx, _, hf⟩; exact ⟨e, List.mem_filter.2 ⟨he, hf⟩, hx⟩
      · rintro ⟨e, he, hx⟩; exact ⟨e, (List.mem_filter.1 he).1, hx, hl _, (List.mem_filter.1 he).2⟩
  rw [mergeSort_of_perm hp]
  exact List.mergeSort_of_pairwise (List.pairwise_map.2 ((hup.filter _).imp fun h => by simpa [leB] using h))
end Go.Proofs.Ytocahjnibdgmoaa
