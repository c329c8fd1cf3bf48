/- Whose turn it is: it begins, it is over. -/
import Derived.Test.YtfddhdpnoliamaaQuM
namespace Go.Proofs.Ytfddhdpnoliamaa
open Go.RowKit Go.Shelf

theorem head_ptr {B P : Nat} {rv : Value} {c : Ce} {b : List Ce} {w : World} {q : Qu} (h : QS B P rv (c :: b) w q) : ∃ g cap, rv = .slice (some ⟨g, 0, none⟩) (b.length + 1) cap ∧ w.cell? ⟨g, 0, none⟩ = some (.pointer (some ⟨c.blk, 0, none⟩)) := by
  obtain ⟨g, cap, hv, hg1, hg2⟩ := h.row.form (by simp)
  have hr := h.row
  rw [hv] at hr
  exact ⟨g, cap, hv, (hr.cellAt 0 (by simp)).trans rfl⟩
theorem job_cell {B : Nat} {w : World} {c : Ce} (h : TenAt B w c) {j : Jb} {js : List Jb} (hj : c.t.jobs = j :: js) : ∃ g cap, c.jv = .slice (some ⟨g, 0, none⟩) (js.length + 1) cap ∧ w.cell? ⟨g, 0, none⟩ = some (.int .i64 j.ten) ∧ w.cell? ⟨g, 1, none⟩ = some (.string j.name) ∧ w.cell? ⟨g, 2, none⟩ = some (.int .i64 j.cost) := by
  obtain ⟨g, cap, hv, hg1, hg2⟩ := h.row.form (by rw [hj]; simp)
  have hr := h.row
  rw [hv, hj] at hr
  rw [hj] at hv
  exact ⟨g, cap, hv, (hr.cellAt 0 (by simp)).trans rfl, (hr.cellAt 1 (by simp; omega)).trans rfl, (hr.cellAt 2 (by simp; omega)).trans rfl⟩

set_option maxHeartbeats 4000000 in
set_option maxRecDepth 100000 in
theorem mayGo_yes {B P : Nat} {rv : Value} {c : Ce} {b : List Ce} {w : World} {q : Qu} (h : QS B P rv (c :: b) w q) (hbeg : q.beg = true) {j : Jb} {js : List Jb} (hj : c.t.jobs = j :: js) :
    Calls Try.prog 31 #[.pointer (some ⟨P, 0, none⟩)] w fun e w' => e = .returned (.bool (decide (j.cost ≤ c.t.cr))) ∧ ∃ n, w' = w.drewN n := by
  have c1 := h.c1
  have c2 := h.c2
  rw [hbeg] at c2
  have ht := h.tens c (by simp)
  obtain ⟨g, cap, rfl, k0⟩ := head_ptr h
  have t1 := ht.c1
  have t2 := ht.c2
  obtain ⟨gj, jcap, hjv, j0, j1, j2⟩ := job_cell ht hj
  rw [hjv] at t2
  clear h ht hbeg hj hjv
  go_enter Try.func31, Try.ntmps31
  go_wp2
  go_quiet (fail)
  go_wp2
  go_ret
  exact ⟨rfl, nq, rfl⟩

set_option maxHeartbeats 4000000 in
set_option maxRecDepth 100000 in
theorem mayGo_no {B P : Nat} {rv : Value} {c : Ce} {b : List Ce} {w : World} {q : Qu} (h : QS B P rv (c :: b) w q) (hbeg : q.beg = false) {j : Jb} {js : List Jb} (hj : c.t.jobs = j :: js) (hq : q.qm ≤ 1000000) (hc : c.t.cr ≤ 1000000) :
    Calls Try.prog 31 #[.pointer (some ⟨P, 0, none⟩)] w fun e w' => e = .returned (.bool (decide (j.cost ≤ c.t.cr + q.qm))) ∧
      QS B P rv (⟨c.blk, c.jv, { c.t with cr := c.t.cr + q.qm }⟩ :: b) w' { q with ring := { c.t with cr := c.t.cr + q.qm } :: b.map Ce.t, beg := true } ∧ Upd (ids P rv (c :: b)) (ids P rv (c :: b)) w w' := by
  have c0 := h.c0
  have c1 := h.c1
  have c2 := h.c2
  rw [hbeg] at c2
  have ht := h.tens c (by simp)
  obtain ⟨g, cap, hrv, k0⟩ := head_ptr h
  rw [hrv] at c1
  have t1 := ht.c1
  have t2 := ht.c2
  have f1 := ht.fz 1
  have f2 := h.fz 2
  obtain ⟨gj, jcap, hjv, j0, j1, j2⟩ := job_cell ht hj
  obtain ⟨x, hx⟩ : ∃ x, x = c.t.cr + q.qm := ⟨_, rfl⟩
  have h0 : QS B P rv ([] ++ c :: b) w q := h
  have hne := h0.c_ne
  have htl := ht.lt
  have hpl : P < w.heap.size := (h.lt P List.mem_cons_self).2
  -- behind both stores
  have HN : Hid (∀ n m : Nat, QS B P rv (⟨c.blk, c.jv, { c.t with cr := x }⟩ :: b) (((((w.drewN n).setCell ⟨c.blk, 1, none⟩ (.int .i64 (x : Int))).drewN m).setCell ⟨P, 2, none⟩ (.bool true))) { q with ring := { c.t with cr := x } :: b.map Ce.t, beg := true } ∧ Upd (ids P rv (c :: b)) (ids P rv (c :: b)) w (((((w.drewN n).setCell ⟨c.blk, 1, none⟩ (.int .i64 (x : Int))).drewN m).setCell ⟨P, 2, none⟩ (.bool true)))) := by
    intro n m
    have e1 : QS B P rv ([] ++ ⟨c.blk, c.jv, { c.t with cr := x }⟩ :: b) (((w.drewN n).setCell ⟨c.blk, 1, none⟩ (.int .i64 (x : Int))).drewN m) { q with ring := [].map Ce.t ++ { c.t with cr := x } :: b.map Ce.t } := by
      refine QS.setTen h0 { c.t with cr := x } rfl ?_ (fun g hg => Below.heap_setCell (w.drewN n) ⟨c.blk, 1, none⟩ _ g hg)
      show ((w.drewN n).setCell ⟨c.blk, 1, none⟩ _).heap[c.blk]? = _
      rw [Go.Joins.block_setCell (show (w.drewN n).heap[c.blk]? = _ from ht.blk)]
      rfl
    refine ⟨QS.setQ e1 true ?_ (fun g hg => Below.heap_setCell _ ⟨P, 2, none⟩ _ g hg), ?_⟩
    · rw [Go.Joins.block_setCell e1.blk]; rfl
    · have a1 : Upd (ids P rv (c :: b)) (ids P rv (c :: b)) w (w.drewN n) := (Upd.refl _ w).drewN n
      have a2 := (a1.trans (Upd.set (w.drewN n) ⟨c.blk, 1, none⟩ (.int .i64 (x : Int)) (mem_ids_c (c := c) (by simp) List.mem_cons_self))).drewN m
      exact a2.trans (Upd.set _ ⟨P, 2, none⟩ _ List.mem_cons_self)
  rw [← hx]
  have hxi : (c.t.cr : Int) + (q.qm : Int) = (x : Int) := by omega
  have hxw : IntKind.i64.wrap (x : Int) = (x : Int) := by rw [IntKind.wrap_i64]; omega
  have HR3 : Hid (∀ W : World, QS B P rv (⟨c.blk, c.jv, { c.t with cr := x }⟩ :: b) W { q with ring := { c.t with cr := x } :: b.map Ce.t, beg := true } → W.cell? ⟨c.blk, 1, none⟩ = some (.int .i64 (x : Int)) ∧ W.cell? ⟨c.blk, 2, none⟩ = some (.slice (some ⟨gj, 0, none⟩) (js.length + 1) jcap) ∧ W.cell? ⟨gj, 2, none⟩ = some (.int .i64 j.cost)) := by
    intro W hW
    have ht' := hW.tens _ (List.mem_cons_self)
    obtain ⟨gj', jcap', hjv', _, _, a2⟩ := job_cell ht' (j := j) (js := js) hj
    have := ht'.c2
    have e : (⟨c.blk, c.jv, { c.t with cr := x }⟩ : Ce).jv = c.jv := rfl
    rw [e, hjv] at hjv'
    cases hjv'
    refine ⟨ht'.c1, ?_, a2⟩
    rw [this]
    show some c.jv = _
    rw [hjv]
  rw [hjv] at t2
  have hne1 := hne.1
  clear h h0 ht hbeg hj hjv hx hne htl hpl hrv
  go_enter Try.func31, Try.ntmps31
  go_wp2
  go_region
  all_goals
    go_wp2
    have H2 : Hid (QS B P rv (⟨c.blk, c.jv, { c.t with cr := x }⟩ :: b) ((w.setCell ⟨c.blk, 1, none⟩ (.int .i64 (x : Int))).setCell ⟨P, 2, none⟩ (.bool true)).drew { q with ring := { c.t with cr := x } :: b.map Ce.t, beg := true } ∧ Upd (ids P rv (c :: b)) (ids P rv (c :: b)) w ((w.setCell ⟨c.blk, 1, none⟩ (.int .i64 (x : Int))).setCell ⟨P, 2, none⟩ (.bool true)).drew) := ⟨(HN.out 0 0).1.drewN 1, (HN.out 0 0).2.drewN 1⟩
    generalize ((w.setCell ⟨c.blk, 1, none⟩ (.int .i64 (x : Int))).setCell ⟨P, 2, none⟩ (.bool true)).drew = W2 at *
    obtain ⟨d1, d2, d3⟩ := HR3.out W2 H2.out.1
    go_quiet (fail)
    go_wp2
    go_ret
    exact ⟨rfl, H2.out.1.drewN nq, H2.out.2.drewN nq⟩

set_option maxHeartbeats 4000000 in
set_option maxRecDepth 100000 in
theorem turnOver_any {B P : Nat} {rv : Value} {c : Ce} {b : List Ce} {w : World} {q : Qu} (h : QS B P rv (c :: b) w q) (hn : b.length ≤ 1000000) :
    Calls Try.prog 32 #[.pointer (some ⟨P, 0, none⟩)] w fun e w' => e = .returned (.tuple #[]) ∧
      QS B P rv (b ++ [c]) w' { q with ring := b.map Ce.t ++ [c.t], beg := false } ∧ Upd (ids P rv (c :: b)) (ids P rv (b ++ [c])) w w' := by
  have c1 := h.c1
  have c2 := h.c2
  obtain ⟨g, cap, hrv, k0⟩ := head_ptr h
  subst hrv
  have hr := h.row
  rcases hr.2 with ⟨hh, _⟩ | ⟨g', cap', cur, hv, hB, hg, hle, hm, hs, ht⟩
  · cases hh
  cases hv
  have hsz : ((c :: b).map pc).length = b.length + 1 := by simp
  have hcl : cur.toList.length = cap := by rw [Array.length_toList, hs, Nat.mul_one]
  have hle' : b.length + 1 ≤ cap := by simpa using hle
  rw [Nat.mul_one] at ht
  have ht' : cur.toList.take (b.length + 1) = pc c :: b.map pc := by simpa using ht
  -- what is copied
  obtain ⟨A, hA, hsrc⟩ : ∃ A : Addr, (if cap = 1 then some (⟨g, 0, none⟩ : Addr) else some ⟨g, 1, none⟩) = some A ∧ ∀ j v, (b.map pc)[j]? = some v → w.drew.cell? (A.add j) = some v := by
    by_cases hc1 : cap = 1
    · refine ⟨⟨g, 0, none⟩, by simp [hc1], fun j v hj => ?_⟩
      have : b.length = 0 := by omega
      rw [List.length_eq_zero_iff.1 this] at hj
      simp at hj
    · refine ⟨⟨g, 1, none⟩, by simp [hc1], fun j v hj => ?_⟩
      rw [Addr.add_lit, Lib.cell_of_heap (w := w.drew) hg]
      have hjl := (List.getElem?_eq_some_iff.1 hj).1
      simp at hjl
      have e : cur.toList[1 + j]? = some v := by
        have : (cur.toList.take (b.length + 1))[1 + j]? = some v := by rw [ht', Nat.add_comm, List.getElem?_cons_succ]; exact hj
        rw [List.getElem?_take] at this
        split at this
        · exact this
        · cases this
      simpa using e
  obtain ⟨u1, hu1⟩ : ∃ u1 : Array Value, u1 = (cur.toList.take 0 ++ b.map pc ++ cur.toList.drop (0 + (b.map pc).length)).toArray := ⟨_, rfl⟩
  have hcp : ∀ ty, (Builtin.copy_ #[54, 54] ty #[.slice (some ⟨g, 0, none⟩) (b.length + 1) cap, .slice (some A) b.length (cap - 1)]).run Try.prog w.drew = .ok (goInt b.length) (w.drew.setRow g u1) := by
    intro ty
    have := run_copy_row (P := Try.prog) w.drew 54 54 ty 64 g 0 (b.length + 1) cap A b.length (cap - 1) cur 64 (b.map pc) Try.underlying54 (by kernel_rfl) hg (by rw [List.length_map]; exact (Nat.min_eq_left (by omega)).symm) hsrc (by rw [List.length_map, Array.length_toList.symm, hcl]; omega) (fun v hv => by obtain ⟨d, _, rfl⟩ := List.mem_map.1 hv; rfl)
    rw [this, hu1, List.length_map]
  have hu1s : u1.size = cap := by rw [hu1]; simp; omega
  have hg1 : (w.drew.setRow g u1).heap[g]? = some (.cells u1 64 (0, 0)) := setRow_heap w.drew g cur u1 _ _ hg
  have hPg : P ≠ g := h.p_ne.1 g rfl
  have hcg : c.blk ≠ g := fun e => h.r_ne g rfl c (by simp) (e ▸ List.mem_cons_self)
  have hP1 : (w.drew.setRow g u1).heap[P]? = w.heap[P]? := setRow_other w.drew g P u1 hPg
  have d1 : (w.drew.setRow g u1).cell? ⟨P, 1, none⟩ = some (.slice (some ⟨g, 0, none⟩) (b.length + 1) cap) := by rw [World.cell?_of_block (w := w) hP1]; exact c1
  have d2 : (w.drew.setRow g u1).cell? ⟨g, b.length, none⟩ = some u1[b.length] := by rw [Lib.cell_of_heap hg1, Array.getElem?_eq_getElem (by omega)]
  have d3 : (w.drew.setRow g u1).frozen? ⟨g, b.length, none⟩ = false := Lib.frozen_of_heap hg1 _
  have HE : Hid (QS B P (.slice (some ⟨g, 0, none⟩) (b.length + 1) cap) (b ++ [c]) (((w.drew.setRow g u1).setCell ⟨g, b.length, none⟩ (pc c)).drew.setCell ⟨P, 2, none⟩ (.bool false)) { q with ring := b.map Ce.t ++ [c.t], beg := false } ∧ Upd (ids P (.slice (some ⟨g, 0, none⟩) (b.length + 1) cap) (c :: b)) (ids P (.slice (some ⟨g, 0, none⟩) (b.length + 1) cap) (b ++ [c])) w (((w.drew.setRow g u1).setCell ⟨g, b.length, none⟩ (pc c)).drew.setCell ⟨P, 2, none⟩ (.bool false))) := by
    have e1 : ((w.drew.setRow g u1).setCell ⟨g, b.length, none⟩ (pc c)).drew.heap[g]? = some (.cells (u1.setIfInBounds b.length (pc c)) 64 (0, 0)) := Go.Joins.block_setCell hg1 (pc c)
    have e2 : ((w.drew.setRow g u1).setCell ⟨g, b.length, none⟩ (pc c)).drew.heap[P]? = w.heap[P]? := (Below.heap_setCell _ ⟨g, b.length, none⟩ _ P hPg).trans hP1
    refine ⟨?_, ?_⟩
    · have hr2 : (((w.drew.setRow g u1).setCell ⟨g, b.length, none⟩ (pc c)).drew.setCell ⟨P, 2, none⟩ (.bool false)).ownsRow B 64 1 (.slice (some ⟨g, 0, none⟩) (b.length + 1) cap) (b ++ [c]).length ((b ++ [c]).map pc) := by
        refine ⟨by simp, .inr ⟨g, cap, u1.setIfInBounds b.length (pc c), by simp, hB, (Below.heap_setCell _ ⟨P, 2, none⟩ _ g hPg.symm).trans e1, by simpa using hle', hm, by simp [hu1s], ?_⟩⟩
        have e3 : u1.toList = b.map pc ++ cur.toList.drop b.length := by rw [hu1]; simp
        rw [Array.toList_setIfInBounds, e3, List.set_append_right _ _ (by simp), List.length_map, Nat.sub_self, Nat.mul_one]
        have e4 : (cur.toList.drop b.length).set 0 (pc c) = pc c :: cur.toList.drop (b.length + 1) := by
          have : 0 < (cur.toList.drop b.length).length := by rw [List.length_drop]; omega
          rw [List.drop_eq_getElem_cons (by omega)]
          rfl
        rw [e4]
        have e5 : b.map pc ++ pc c :: cur.toList.drop (b.length + 1) = ((b ++ [c]).map pc) ++ cur.toList.drop (b.length + 1) := by simp
        rw [e5, List.take_append_of_le_length (by simp), List.take_of_length_le (by simp)]
      refine QS.setRing h (rv' := .slice (some ⟨g, 0, none⟩) (b.length + 1) cap) (cs' := b ++ [c]) false ?_ hr2 (fun d hd => by simpa [or_comm] using hd) (fun k hk1 hk2 _ => ?_) ((ids_swap P _ c b).nodup_iff.2 h.apart) |> fun z => by simpa using z
      · rw [Go.Joins.block_setCell (e2.trans h.blk)]; rfl
      · have hkg : k ≠ g := fun e => hk2 (mem_ob.2 (by rw [e]; rfl))
        exact (Below.heap_setCell _ ⟨P, 2, none⟩ _ k hk1).trans ((Below.heap_setCell _ ⟨g, b.length, none⟩ _ k hkg).trans (setRow_other w.drew g k u1 hkg))
    · have a0 : Upd (ids P (.slice (some ⟨g, 0, none⟩) (b.length + 1) cap) (c :: b)) (ids P (.slice (some ⟨g, 0, none⟩) (b.length + 1) cap) (c :: b)) w w.drew := (Upd.refl _ w).drewN 1
      have gi : g ∈ ids P (.slice (some ⟨g, 0, none⟩) (b.length + 1) cap) (c :: b) := mem_ids_r rfl
      have a1 : Upd (ids P (.slice (some ⟨g, 0, none⟩) (b.length + 1) cap) (c :: b)) (ids P (.slice (some ⟨g, 0, none⟩) (b.length + 1) cap) (c :: b)) w (w.drew.setRow g u1) := a0.trans ⟨rfl, rfl, rfl, by simp, fun k _ hk => setRow_other w.drew g k u1 (fun e => hk (e ▸ gi)), fun _ h => .inl h⟩
      have a2 := (a1.trans (Upd.set _ ⟨g, b.length, none⟩ (pc c) gi)).drewN 1
      have a3 := a2.trans (Upd.set _ ⟨P, 2, none⟩ (.bool false) List.mem_cons_self)
      exact ⟨a3.os, a3.tape, a3.output, a3.size, a3.block, fun k hk => .inl ((ids_swap P _ c b).mem_iff.1 hk)⟩
  have HP2 : Hid (((w.drew.setRow g u1).setCell ⟨g, b.length, none⟩ (pc c)).drew.cell? ⟨P, 2, none⟩ = some (.bool q.beg) ∧ ((w.drew.setRow g u1).setCell ⟨g, b.length, none⟩ (pc c)).drew.frozen? ⟨P, 2, none⟩ = false) := by
    have e2 : ((w.drew.setRow g u1).setCell ⟨g, b.length, none⟩ (pc c)).drew.heap[P]? = w.heap[P]? := (Below.heap_setCell _ ⟨g, b.length, none⟩ _ P hPg).trans hP1
    exact ⟨by rw [World.cell?_of_block (w := w) e2]; exact c2, by rw [World.frozen?_of_block (w := w) e2]; exact h.fz 2⟩
  have i1 : (1 : Int) ≤ (b.length : Int) + 1 := by omega
  have i2 : 1 ≤ cap := by omega
  have i3 : IntKind.i64.wrap (b.length : Int) = (b.length : Int) := by rw [IntKind.wrap_i64]; omega
  have hpc : pc c = .pointer (some ⟨c.blk, 0, none⟩) := rfl
  rw [hpc] at HE HP2
  generalize u1[b.length] = old at *
  have HH : Hid (QS B P (.slice (some ⟨g, 0, none⟩) (b.length + 1) cap) (c :: b) w q) := h
  clear h hr ht ht' hu1 hu1s hcl hs hm hB hg hg1 hP1 hsrc hpc hle hsz
  go_enter Try.func32, Try.ntmps32
  go_wp2
  go_region
  all_goals
    go_wp2
    go_region
    all_goals
      obtain ⟨x1, x2⟩ := HP2.out
      generalize ((w.drew.setRow g u1).setCell ⟨g, b.length, none⟩ (.pointer (some ⟨c.blk, 0, none⟩))).drew = W2 at *
      go_wp2
      go_end0
      exact ⟨rfl, HE.out⟩
end Go.Proofs.Ytfddhdpnoliamaa
