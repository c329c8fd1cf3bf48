/- QueueFair in memory, while jobs come. -/
import Derived.Test.YtfddhdpnoliamaaQuFv
namespace Go.Proofs.Ytfddhdpnoliamaa
open Go.RowKit Go.Shelf

/-- All of it: came and got as the queue has them; cm and gm as they are told. -/
structure MS (P mn n : Nat) (C : List (List Int)) (nmv : Value) (w1 W : World) (D : Nat) (came got : List Nat) (left Gb Cb : Nat) (cm gm : List Nat) : Prop where
  ex : ∃ rv cs q nvs av na, QS w1.heap.size P rv cs W q ∧ MP q C n D came got left ∧ q.qm = mn ∧ nvs.length = n ∧ FM w1.heap.size W nmv nvs (NL C n n 0) av na ∧ (∀ g ∈ ids P rv cs, g ∉ fids nmv nvs av) ∧ (Gb ∉ ids P rv cs ∧ Cb ∉ ids P rv cs ∧ Gb ∉ fids nmv nvs av ∧ Cb ∉ fids nmv nvs av)
  b : Below w1.heap.size w1 W
  ne : Gb ≠ Cb
  lo : w1.heap.size ≤ Gb ∧ w1.heap.size ≤ Cb
  gb : W.heap[Gb]? = some (.cells (ns gm).toArray 3 (0, 0))
  cb : W.heap[Cb]? = some (.cells (ns cm).toArray 3 (0, 0))

section
variable {P mn n : Nat} {C : List (List Int)} {nmv : Value} {w1 W W' : World} {D left Gb Cb : Nat} {came got cm gm : List Nat}
theorem ns_made (n : Nat) : (madeCells #[Value.int .i64 0] n) = (ns (List.replicate n 0)).toArray := by
  apply Array.toList_inj.1
  rw [toList_madeCells_one]
  unfold ns
  simp
theorem MS.first {na : Nat} {av : Value} (h : BS P mn n C nmv w1 W n 0 D na av) (hW : Below W.heap.size W W') (hne : Gb ≠ Cb) (hg : W.heap.size ≤ Gb) (hc : W.heap.size ≤ Cb) (hgb : W'.heap[Gb]? = some (.cells (madeCells #[.int .i64 0] n) 3 (0, 0))) (hcb : W'.heap[Cb]? = some (.cells (madeCells #[.int .i64 0] n) 3 (0, 0))) :
    MS P mn n C nmv w1 W' D (List.replicate n 0) (List.replicate n 0) na Gb Cb (List.replicate n 0) (List.replicate n 0) := by
  obtain ⟨rv, cs, q, nvs, hq, hBP, hqm, hnv, hFM, hap, hbl⟩ := h
  have hlo := hbl.size
  rw [ns_made] at hgb hcb
  refine ⟨⟨rv, cs, q, nvs, av, na, hq.up hW, hBP.main, hqm, hnv, hFM.up hW, hap, fun e => ?_, fun e => ?_, fun e => ?_, fun e => ?_⟩, hbl.trans (hW.mono hlo), hne, ⟨by omega, by omega⟩, hgb, hcb⟩
  · have := (hq.lt _ e).2; omega
  · have := (hq.lt _ e).2; omega
  · have := (hFM.lt _ e).2; omega
  · have := (hFM.lt _ e).2; omega
theorem MS.up (h : MS P mn n C nmv w1 W D came got left Gb Cb cm gm) (hW : Below W.heap.size W W') : MS P mn n C nmv w1 W' D came got left Gb Cb cm gm := by
  obtain ⟨⟨rv, cs, q, nvs, av, na, hq, hMP, hqm, hnv, hFM, hap, hx⟩, hb, hne, hlo, hg, hc⟩ := h
  exact ⟨⟨rv, cs, q, nvs, av, na, hq.up hW, hMP, hqm, hnv, hFM.up hW, hap, hx⟩, hb.trans (hW.mono hb.size), hne, hlo, (hW.block Gb (Array.getElem?_eq_some_iff.1 hg).1).trans hg, (hW.block Cb (Array.getElem?_eq_some_iff.1 hc).1).trans hc⟩
theorem ns_set (l : List Nat) (i x : Nat) : (ns l).toArray.setIfInBounds i (.int .i64 (x : Int)) = (ns (l.set i x)).toArray := by
  apply Array.toList_inj.1
  rw [Array.toList_setIfInBounds]
  show (ns l).set i _ = ns (l.set i x)
  unfold ns
  rw [List.map_set]
theorem ns_get (l : List Nat) (i : Nat) (h : i < l.length) : (ns l).toArray[i]? = some (.int .i64 (l.getD i 0 : Int)) := by
  unfold ns
  simp [List.getD_eq_getElem?_getD, List.getElem?_eq_getElem h]
/-- A number of how many came is another one. -/
theorem MS.setC (h : MS P mn n C nmv w1 W D came got left Gb Cb cm gm) (i x : Nat) (hi : i < cm.length) : W.cell? ⟨Cb, i, none⟩ = some (.int .i64 (cm.getD i 0 : Int)) ∧ W.frozen? ⟨Cb, i, none⟩ = false ∧ MS P mn n C nmv w1 (W.setCell ⟨Cb, i, none⟩ (.int .i64 (x : Int))) D came got left Gb Cb (cm.set i x) gm := by
  obtain ⟨⟨rv, cs, q, nvs, av, na, hq, hMP, hqm, hnv, hFM, hap, h1, h2, h3, h4⟩, hb, hne, hlo, hg, hc⟩ := h
  have hk : ∀ g : Nat, g ≠ Cb → (W.setCell ⟨Cb, i, none⟩ (.int .i64 (x : Int))).heap[g]? = W.heap[g]? := fun g hg => Below.heap_setCell _ ⟨Cb, i, none⟩ _ g hg
  refine ⟨by rw [Lib.cell_of_heap hc]; exact ns_get cm i hi, Lib.frozen_of_heap hc i, ⟨rv, cs, q, nvs, av, na, hq.keep (fun g hg => hk g fun e => h2 (e ▸ hg)), hMP, hqm, hnv, hFM.keep (fun g hg => hk g fun e => h4 (e ▸ hg)), hap, h1, h2, h3, h4⟩, hb.setCell (p := ⟨Cb, i, none⟩) hlo.2 _, hne, hlo, (hk Gb hne).trans hg, ?_⟩
  rw [Go.Joins.block_setCell hc, ns_set]
theorem MS.setG (h : MS P mn n C nmv w1 W D came got left Gb Cb cm gm) (i x : Nat) (hi : i < gm.length) : W.cell? ⟨Gb, i, none⟩ = some (.int .i64 (gm.getD i 0 : Int)) ∧ W.frozen? ⟨Gb, i, none⟩ = false ∧ MS P mn n C nmv w1 (W.setCell ⟨Gb, i, none⟩ (.int .i64 (x : Int))) D came got left Gb Cb cm (gm.set i x) := by
  obtain ⟨⟨rv, cs, q, nvs, av, na, hq, hMP, hqm, hnv, hFM, hap, h1, h2, h3, h4⟩, hb, hne, hlo, hg, hc⟩ := h
  have hk : ∀ g : Nat, g ≠ Gb → (W.setCell ⟨Gb, i, none⟩ (.int .i64 (x : Int))).heap[g]? = W.heap[g]? := fun g hg => Below.heap_setCell _ ⟨Gb, i, none⟩ _ g hg
  refine ⟨by rw [Lib.cell_of_heap hg]; exact ns_get gm i hi, Lib.frozen_of_heap hg i, ⟨rv, cs, q, nvs, av, na, hq.keep (fun g hg => hk g fun e => h1 (e ▸ hg)), hMP, hqm, hnv, hFM.keep (fun g hg => hk g fun e => h3 (e ▸ hg)), hap, h1, h2, h3, h4⟩, hb.setCell (p := ⟨Gb, i, none⟩) hlo.1 _, hne, hlo, ?_, (hk Cb hne.symm).trans hc⟩
  rw [Go.Joins.block_setCell hg, ns_set]
/-- Where the names of a tenant's jobs are. -/
theorem MS.names (h : MS P mn n C nmv w1 W D came got left Gb Cb cm gm) (i : Nat) (hi : i < n) {Nb cap : Nat} (hv : nmv = .slice (some ⟨Nb, 0, none⟩) n cap) :
    ∃ a c, W.cell? ⟨Nb, i, none⟩ = some (.slice a (Lf C n 0 (i + 1)).length c) ∧ (0 < (Lf C n 0 (i + 1)).length → ∃ g, a = some ⟨g, 0, none⟩ ∧ ∀ x s, ((Lf C n 0 (i + 1)).map Jb.name)[x]? = some s → W.cell? ⟨g, x, none⟩ = some (.string s)) := by
  obtain ⟨⟨rv, cs, q, nvs, av, na, hq, hMP, hqm, hnv, hFM, hap, h1, h2, h3, h4⟩, hb, hne, hlo, hg, hc⟩ := h
  have hiv : i < nvs.length := by omega
  have hil : i < (NL C n n 0).length := by rw [NL_len]; exact hi
  have e1 : (NL C n n 0)[i] = (Lf C n 0 (i + 1)).map Jb.name := by rw [← NL_at C n n 0 i hi, List.getD_eq_getElem?_getD, List.getElem?_eq_getElem hil]; rfl
  have hrow := hFM.rows i hiv hil
  rw [e1, List.length_map] at hrow
  obtain ⟨g', cap', cur, hv', _, hblk, hcell, hfz, _, _⟩ := hFM.at_ hiv
  rw [hv] at hv'
  have hgg : Nb = g' := by injection hv' with a; injection a with a; injection a
  subst hgg
  obtain ⟨a, c, hs⟩ := row_shape hrow
  rw [hs] at hcell
  refine ⟨a, c, hcell, fun hpos => ?_⟩
  rcases hrow.2 with ⟨_, e0⟩ | ⟨g, cap2, cur2, hv2, b2, b3, b4, b5, b6, b7⟩
  · omega
  · rw [hs] at hv2
    have ha : a = some ⟨g, 0, none⟩ := by injection hv2
    refine ⟨g, ha, fun x s hx => ?_⟩
    have hxl : x < (Lf C n 0 (i + 1)).length := by
      have := (List.getElem?_eq_some_iff.1 hx).1
      rwa [List.length_map] at this
    rw [Lib.cell_of_heap b3, ← Array.getElem?_toList]
    have e : (cur2.toList.take ((Lf C n 0 (i + 1)).length * 1))[x]? = (ss ((Lf C n 0 (i + 1)).map Jb.name))[x]? := by rw [b7]
    rw [List.getElem?_take_of_lt (by omega)] at e
    rw [e]
    unfold ss
    rw [List.getElem?_map, hx]
    rfl
theorem MS.next (h : MS P mn n C nmv w1 W D came got left Gb Cb cm gm) (hl : 1 ≤ left) :
    Calls Try.prog 12 #[.pointer (some ⟨P, 0, none⟩)] W fun e w' => ∃ (i : Nat) (j : Jb), i < n ∧ j.ten = i + 1 ∧ came.getD i 0 < (Lf C n 0 (i + 1)).length ∧ ((Lf C n 0 (i + 1)).map Jb.name)[came.getD i 0]? = some j.name ∧ 1 ≤ j.cost ∧ j.cost ≤ 1000 ∧ e = .returned (.tuple #[jagg j, .bool true]) ∧
      MS P mn n C nmv w1 w' D (came.set i (came.getD i 0 + 1)) (got.set i (got.getD i 0 + j.cost)) (left - 1) Gb Cb cm gm := by
  obtain ⟨⟨rv, cs, q, nvs, av, na, hq, hMP, hqm, hnv, hFM, hap, h1, h2, h3, h4⟩, hb, hne, hlo, hg, hc⟩ := h
  have hr : q.ring ≠ [] := fun e => by
    have := hMP.sz
    rw [e] at this
    have : (0 : Nat) = left := this
    omega
  refine (Next_some hq hMP.qi hr).mono ?_
  rintro e w' ⟨p, t, s, j, js, a1, a2, a3, a4, a5, a6, rv', cs', hq', hu⟩
  obtain ⟨i, b1, b2, b3, _, b5, b6, b7, b8, _⟩ := hMP.next a1 hr a2 a3 a4 a5
  have hGl : Gb < W.heap.size := (Array.getElem?_eq_some_iff.1 hg).1
  have hCl : Cb < W.heap.size := (Array.getElem?_eq_some_iff.1 hc).1
  have hnew : ∀ x, x < W.heap.size → x ∉ ids P rv cs → x ∉ ids P rv' cs' := fun x hx hn e => by
    rcases hu.new x e with e | e
    · exact hn e
    · omega
  refine ⟨i, j, b1, b2, b3, b5, b6, b7, a6, ⟨rv', cs', p.gone, nvs, av, na, hq', b8, ?_, hnv, hFM.keep (fun g hg => hu.block g (hFM.lt g hg).2 fun e => hap g e hg), fun g hg hg2 => ?_, hnew Gb hGl h1, hnew Cb hCl h2, h3, h4⟩, hb.trans (hu.below (fun g hg => (hq.lt g hg).1) hb.size), hne, hlo, (hu.block Gb hGl h1).trans hg, (hu.block Cb hCl h2).trans hc⟩
  · have e1 : p.gone.qm = p.qm := by
      unfold Qu.gone
      rw [a3]
      simp only [a4]
      split <;> rfl
    rw [e1, a1.qm]
    exact hqm
  · rcases hu.new g hg with e | e
    · exact hap g e hg2
    · have := (hFM.lt g hg2).2; omega
theorem MS.none (h : MS P mn n C nmv w1 W D came got 0 Gb Cb cm gm) :
    Calls Try.prog 12 #[.pointer (some ⟨P, 0, none⟩)] W fun e w' => e = .returned (.tuple #[.agg #[.int .i64 0, .string ⟨#[]⟩, .int .i64 0], .bool false]) ∧ Below w1.heap.size w1 w' := by
  obtain ⟨⟨rv, cs, q, nvs, av, na, hq, hMP, hqm, hnv, hFM, hap, h1, h2, h3, h4⟩, hb, hne, hlo, hg, hc⟩ := h
  have hr : q.ring = [] := by
    cases e : q.ring with
    | nil => rfl
    | cons t s =>
      exfalso
      have h9 := len_size hMP.qi.ne
      rw [hMP.sz, e] at h9
      simp at h9
  refine (Next_none hq hMP.qi hr).mono ?_
  rintro e w' ⟨he, _, hb2⟩
  exact ⟨he, hb.trans (hb2.mono hb.size)⟩
theorem MS.facts (h : MS P mn n C nmv w1 W D came got left Gb Cb cm gm) : came.length = n ∧ got.length = n ∧ (∀ i, got.getD i 0 ≤ 1000 * came.getD i 0) ∧ (∀ i, came.getD i 0 ≤ 20) ∧ (∀ a b, came.getD a 0 < (Lf C n 0 (a + 1)).length → came.getD b 0 < (Lf C n 0 (b + 1)).length → got.getD a 0 ≤ got.getD b 0 + (mn + D)) ∧ D ≤ 1000 := by
  obtain ⟨⟨rv, cs, q, nvs, av, na, hq, hMP, hqm, hnv, hFM, hap, hx⟩, hb, hne, hlo, hg, hc⟩ := h
  refine ⟨hMP.cl, hMP.gl, hMP.big, hMP.cle, fun a b ha hb => ?_, hMP.dl⟩
  have := hMP.fair ha hb
  rw [hqm] at this
  exact this
end
end Go.Proofs.Ytfddhdpnoliamaa
