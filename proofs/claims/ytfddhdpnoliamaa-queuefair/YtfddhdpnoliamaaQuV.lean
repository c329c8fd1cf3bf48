/- Next. -/
import Derived.Test.YtfddhdpnoliamaaQuS
namespace Go.Proofs.Ytfddhdpnoliamaa
open Go.RowKit Go.Shelf

/-- The queue lies there, some way on: turns have gone on. -/
def Way (B P : Nat) (I : List Nat) (q : Qu) (w W : World) (r : Qu) : Prop := ∃ rv cs, QS B P rv cs W r ∧ QI r ∧ r.ring ≠ [] ∧ (∀ x, Spun r x → Spun q x) ∧ Upd I (ids P rv cs) w W

theorem ring_cons {B P : Nat} {rv : Value} {cs : List Ce} {w : World} {q : Qu} (h : QS B P rv cs w q) {t : Tn} {r : List Tn} (hr : q.ring = t :: r) : ∃ c b, cs = c :: b ∧ c.t = t ∧ b.map Ce.t = r := by
  have := h.ring
  rw [hr] at this
  obtain ⟨c, b, h1, h2, h3⟩ := List.map_eq_cons_iff.1 this
  exact ⟨c, b, h1, h2, h3⟩

/-- mayGo on the way: it begins, and tells. -/
theorem mayGo_way {B P : Nat} {I : List Nat} {q : Qu} {w W : World} {r : Qu} (h : Way B P I q w W r) :
    Calls Try.prog 31 #[.pointer (some ⟨P, 0, none⟩)] W fun e w' => ∃ rv cs t s j js, QS B P rv cs w' r.start ∧ QI r.start ∧ r.start.ring = t :: s ∧ t.jobs = j :: js ∧ e = .returned (.bool (decide (j.cost ≤ t.cr))) ∧ Upd I (ids P rv cs) w w' := by
  obtain ⟨rv, cs, hq, hi, hne, hs, hu⟩ := h
  cases hr : r.ring with
  | nil => exact absurd hr hne
  | cons t s =>
    obtain ⟨c, b, rfl, rfl, rfl⟩ := ring_cons hq hr
    have htm : c.t ∈ r.ring := by rw [hr]; exact List.mem_cons_self
    cases hj : c.t.jobs with
    | nil => exact absurd hj (hi.ne c.t htm)
    | cons j js =>
      cases hb : r.beg with
      | true =>
        refine (mayGo_yes hq hb hj).mono ?_
        rintro e w' ⟨rfl, n, rfl⟩
        rw [start_beg hb]
        exact ⟨rv, c :: b, c.t, b.map Ce.t, j, js, hq.drewN n, hi, hr, hj, rfl, hu.drewN n⟩
      | false =>
        have hst := hi.start
        rw [start_new hr hb] at hst ⊢
        refine (mayGo_no hq hb hj (by have := hi.b.q2; omega) (by have := hi.cr c.t htm; omega)).mono ?_
        rintro e w' ⟨rfl, hq', hu'⟩
        exact ⟨rv, _, { c.t with cr := c.t.cr + r.qm }, b.map Ce.t, j, js, hq', hst, rfl, hj, rfl, hu.trans hu'⟩

set_option maxHeartbeats 8000000 in
set_option maxRecDepth 100000 in
theorem Next_none {B P : Nat} {rv : Value} {cs : List Ce} {w : World} {q : Qu} (h : QS B P rv cs w q) (hi : QI q) (hr : q.ring = []) :
    Calls Try.prog 12 #[.pointer (some ⟨P, 0, none⟩)] w fun e w' => e = .returned (.tuple #[.agg #[.int .i64 0, .string ⟨#[]⟩, .int .i64 0], .bool false]) ∧ QS B P rv cs w' q ∧ Below w.heap.size w w' := by
  have hcs : cs = [] := by have := h.ring; rw [hr] at this; exact List.map_eq_nil_iff.1 this
  subst hcs
  have hb0 : Below w.heap.size w (w.alloc (.cells #[.int .i64 0, .string ⟨#[]⟩, .int .i64 0] 34)) := (Below.refl _ w).alloc (Nat.le_refl _) _
  have l0 := heap_alloc_new w (.cells #[.int .i64 0, .string ⟨#[]⟩, .int .i64 0] 34)
  have h1 := h.up hb0
  obtain ⟨ra, rcap, hrv⟩ := row_shape h.row
  have c1 := h1.c1
  rw [hrv] at c1
  have HN : Hid (Calls Try.prog 23 #[.pointer (some ⟨P, 0, none⟩)] (w.alloc (.cells #[.int .i64 0, .string ⟨#[]⟩, .int .i64 0] 34)) fun e w' => e = .returned (.bool false) ∧ w' = (w.alloc (.cells #[.int .i64 0, .string ⟨#[]⟩, .int .i64 0] 34))) := isNone_any h1 hi.b.q1
  have HQ : Hid (QS B P rv [] w q) := h
  have HW0 : Hid (Below w.heap.size w (w.alloc (.cells #[.int .i64 0, .string ⟨#[]⟩, .int .i64 0] 34))) := hb0
  have q0 : (w.alloc (.cells #[.int .i64 0, .string ⟨#[]⟩, .int .i64 0] 34)).cell? ⟨w.heap.size, 0, none⟩ = some (.int .i64 0) := by rw [Lib.cell_of_heap l0]; rfl
  have q1 : (w.alloc (.cells #[.int .i64 0, .string ⟨#[]⟩, .int .i64 0] 34)).cell? ⟨w.heap.size, 1, none⟩ = some (.string ⟨#[]⟩) := by rw [Lib.cell_of_heap l0]; rfl
  have q2 : (w.alloc (.cells #[.int .i64 0, .string ⟨#[]⟩, .int .i64 0] 34)).cell? ⟨w.heap.size, 2, none⟩ = some (.int .i64 0) := by rw [Lib.cell_of_heap l0]; rfl
  clear h h1 hb0 l0 hrv hi
  go_enter Try.func12, Try.ntmps12
  go_wp2_with (go_at_call 23; refine HN.out.mono ?_; rintro e w' ⟨rfl, rfl⟩)
  refine bodyPost_ret (v := .tuple #[.agg #[.int .i64 0, .string ⟨#[]⟩, .int .i64 0], .bool false]) (by simp [results, Try.results12, go_sem, q0, q1, q2]) rfl ?_
  exact ⟨rfl, HQ.out.up HW0.out, HW0.out⟩

/-- A job's cells, written one by one. -/
theorem three {w : World} {R : Nat} {a b c x y z : Value} {T : TypeId} (h : w.heap[R]? = some (.cells #[a, b, c] T (0, 0))) : (((w.setCell ⟨R, 0, none⟩ x).setCell ⟨R, 1, none⟩ y).setCell ⟨R, 2, none⟩ z).heap[R]? = some (.cells #[x, y, z] T (0, 0)) ∧ ∀ g : Nat, g ≠ R → (((w.setCell ⟨R, 0, none⟩ x).setCell ⟨R, 1, none⟩ y).setCell ⟨R, 2, none⟩ z).heap[g]? = w.heap[g]? := by
  have h1 : (w.setCell ⟨R, 0, none⟩ x).heap[R]? = some (.cells #[x, b, c] T (0, 0)) := by rw [Go.Joins.block_setCell h]; rfl
  have h2 : ((w.setCell ⟨R, 0, none⟩ x).setCell ⟨R, 1, none⟩ y).heap[R]? = some (.cells #[x, y, c] T (0, 0)) := by rw [Go.Joins.block_setCell h1]; rfl
  refine ⟨by rw [Go.Joins.block_setCell h2]; rfl, fun g hg => ?_⟩
  exact (Below.heap_setCell _ ⟨R, 2, none⟩ _ g hg).trans ((Below.heap_setCell _ ⟨R, 1, none⟩ _ g hg).trans (Below.heap_setCell _ ⟨R, 0, none⟩ _ g hg))

/-- The first job of the first one is removed. -/
theorem remove_first {B P : Nat} {rv : Value} {c : Ce} {b : List Ce} {w : World} {q : Qu} (h : QS B P rv (c :: b) w q) {j : Jb} {js : List Jb} (hj : c.t.jobs = j :: js) (hn : b.length ≤ 1000000) (hm : js.length + 1 ≤ 1000000) :
    Calls Try.prog 33 #[.pointer (some ⟨P, 0, none⟩), .int .i64 0, .int .i64 0] w fun e w' => e = .returned (.tuple #[]) ∧ ∃ rv' cs', QS B P rv' cs' w' (if js = [] then { q with ring := b.map Ce.t, beg := false } else { q with ring := { c.t with jobs := js } :: b.map Ce.t }) ∧ Upd (ids P rv (c :: b)) (ids P rv' cs') w w' := by
  by_cases hjs : js = []
  · rw [if_pos hjs]
    have := remove_gone (a := []) h (by rw [hj, hjs]; rfl) (by simpa using hn)
    refine Calls.mono this ?_
    rintro e w' ⟨he, rv', hq, hu⟩
    exact ⟨he, rv', b, hq, hu⟩
  · rw [if_neg hjs]
    have hl : 0 < js.length := List.length_pos_iff.2 hjs
    have := remove_keep (a := []) h 0 (by rw [hj]; simp) (by rw [hj]; simp; omega) (by rw [hj]; simpa using hm)
    refine Calls.mono this ?_
    rintro e w' ⟨he, jv', hq, hu⟩
    have e1 : cut1 c.t.jobs 0 = js := by rw [hj]; rfl
    rw [e1] at hq hu
    exact ⟨he, rv, _, hq, hu⟩

set_option maxHeartbeats 8000000 in
set_option maxRecDepth 100000 in
theorem Next_some {B P : Nat} {rv : Value} {cs : List Ce} {w : World} {q : Qu} (h : QS B P rv cs w q) (hi : QI q) (hr : q.ring ≠ []) :
    Calls Try.prog 12 #[.pointer (some ⟨P, 0, none⟩)] w fun e w' => ∃ r t s j js, Spun q r ∧ QI r ∧ r.ring = t :: s ∧ t.jobs = j :: js ∧ j.cost ≤ t.cr ∧ e = .returned (.tuple #[jagg j, .bool true]) ∧ ∃ rv' cs', QS B P rv' cs' w' r.gone ∧ Upd (ids P rv cs) (ids P rv' cs') w w' := by
  have hb0 : Below w.heap.size w (w.alloc (.cells #[.int .i64 0, .string ⟨#[]⟩, .int .i64 0] 34)) := (Below.refl _ w).alloc (Nat.le_refl _) _
  have l0 := heap_alloc_new w (.cells #[.int .i64 0, .string ⟨#[]⟩, .int .i64 0] 34)
  have hz0 : (w.alloc (.cells #[.int .i64 0, .string ⟨#[]⟩, .int .i64 0] 34)).heap.size = w.heap.size + 1 := World.size_alloc _ _
  have h1 := h.up hb0
  obtain ⟨ra, rcap, hrv⟩ := row_shape h.row
  have c1 := h1.c1
  rw [hrv] at c1
  have hpos : ¬ (cs.length : Int) = 0 := by
    have := ring_len h
    have : 0 < q.ring.length := List.length_pos_iff.2 hr
    omega
  have hpos2 : ((cs.length : Int) == 0) = false := by simpa using hpos
  have HN : Hid (Calls Try.prog 23 #[.pointer (some ⟨P, 0, none⟩)] (w.alloc (.cells #[.int .i64 0, .string ⟨#[]⟩, .int .i64 0] 34)) fun e w' => e = .returned (.bool false) ∧ w' = (w.alloc (.cells #[.int .i64 0, .string ⟨#[]⟩, .int .i64 0] 34))) := isNone_any h1 hi.b.q1
  have HW : Hid (Way B P (ids P rv cs) q (w.alloc (.cells #[.int .i64 0, .string ⟨#[]⟩, .int .i64 0] 34)) (w.alloc (.cells #[.int .i64 0, .string ⟨#[]⟩, .int .i64 0] 34)) q) := ⟨rv, cs, h1, hi, hr, fun _ h => h, Upd.refl _ _⟩
  have HR : Hid (w.heap.size ∉ ids P rv cs ∧ w.heap.size < (w.alloc (.cells #[.int .i64 0, .string ⟨#[]⟩, .int .i64 0] 34)).heap.size ∧ (w.alloc (.cells #[.int .i64 0, .string ⟨#[]⟩, .int .i64 0] 34)).heap[w.heap.size]? = some (.cells #[.int .i64 0, .string ⟨#[]⟩, .int .i64 0] 34 (0, 0)) ∧ Below w.heap.size w (w.alloc (.cells #[.int .i64 0, .string ⟨#[]⟩, .int .i64 0] 34))) := ⟨fun e => by have := (h.lt _ e).2; omega, by omega, l0, hb0⟩
  have hPl : P < w.heap.size := (h.lt P List.mem_cons_self).2
  clear h h1 hb0 l0 hrv hi hr hz0
  go_enter Try.func12, Try.ntmps12
  go_wp2_with (go_at_call 23; refine HN.out.mono ?_; rintro e w' ⟨rfl, rfl⟩)
  generalize w.alloc (.cells #[.int .i64 0, .string ⟨#[]⟩, .int .i64 0] 34) = w0 at *
  generalize hJn : w.heap.size = R at *
  generalize hI : ids P rv cs = I at *
  have HII : Hid (ids P rv cs = I) := hI
  clear hI
  clear HN c1 hpos hpos2
  go_loopg [] (mea q) (fun k wr => ∃ r, Hid (Way B P I q w0 wr r ∧ mea r ≤ k))
  case atStart => exact ⟨q, HW.out, Nat.le_refl _⟩
  case round =>
    obtain ⟨r, HI⟩ := hrel
    clear HW
    go_wp2_with fail
    refine (mayGo_way HI.out.1).mono ?_
    rintro e w1 ⟨rv1, cs1, t, s, j, js, hq1, hi1, hr1, hj1, rfl, hu1⟩
    obtain ⟨rvx, csx, hqx, hix, hnx, hsx, hux⟩ := HI.out.1
    by_cases hc : j.cost ≤ t.cr
    · -- the job may go
      have HSp : Hid (Spun q r.start) := hsx _ (Spun.stop ⟨t, s, j, js, hr1, hj1, hc⟩)
      obtain ⟨c, b, rfl, rfl, rfl⟩ := ring_cons hq1 hr1
      have ht := hq1.tens c List.mem_cons_self
      obtain ⟨g, cap, hrv1, k0⟩ := head_ptr hq1
      have d1 := hq1.c1
      rw [hrv1] at d1
      have t1 := ht.c1
      have t2 := ht.c2
      have tf := ht.fz 1
      obtain ⟨gj, jcap, hjv, j0, j1, j2⟩ := job_cell ht hj1
      rw [hjv] at t2
      have bt := ht.lt
      obtain ⟨x, hx⟩ : ∃ x, x = c.t.cr - j.cost := ⟨_, rfl⟩
      have hcI : (c.t.cr : Int) - (j.cost : Int) = (x : Int) := by omega
      have hcr := hi1.cr c.t (by rw [hr1]; exact List.mem_cons_self)
      have hxw : IntKind.i64.wrap (x : Int) = (x : Int) := by rw [IntKind.wrap_i64]; omega
      -- behind the new block and the store
      have hbA : Below w1.heap.size w1 (w1.alloc (.cells #[.int .i64 j.ten, .string j.name, .int .i64 j.cost] 34)) := (Below.refl _ w1).alloc (Nat.le_refl _) _
      have hqA := hq1.up hbA
      have lA := heap_alloc_new w1 (.cells #[.int .i64 j.ten, .string j.name, .int .i64 j.cost] 34)
      have hzA : (w1.alloc (.cells #[.int .i64 j.ten, .string j.name, .int .i64 j.cost] 34)).heap.size = w1.heap.size + 1 := World.size_alloc _ _
      have a1 : (w1.alloc (.cells #[.int .i64 j.ten, .string j.name, .int .i64 j.cost] 34)).cell? ⟨c.blk, 1, none⟩ = some (.int .i64 c.t.cr) := (hqA.tens c List.mem_cons_self).c1
      have a2 : (w1.alloc (.cells #[.int .i64 j.ten, .string j.name, .int .i64 j.cost] 34)).frozen? ⟨c.blk, 1, none⟩ = false := (hqA.tens c List.mem_cons_self).fz 1
      have a3 : (w1.alloc (.cells #[.int .i64 j.ten, .string j.name, .int .i64 j.cost] 34)).cell? ⟨w1.heap.size, 2, none⟩ = some (.int .i64 j.cost) := by rw [Lib.cell_of_heap lA]; rfl
      have hne : ¬ w1.heap.size = c.blk := by omega
      have hne2 : ¬ c.blk = w1.heap.size := by omega
      have hqC : QS B P rv1 ([] ++ ⟨c.blk, c.jv, { c.t with cr := x }⟩ :: b) ((w1.alloc (.cells #[.int .i64 j.ten, .string j.name, .int .i64 j.cost] 34)).setCell ⟨c.blk, 1, none⟩ (.int .i64 (x : Int))).drew { r.start with ring := [].map Ce.t ++ { c.t with cr := x } :: b.map Ce.t } := by
        refine QS.setTen (a := []) hqA { c.t with cr := x } rfl ?_ (fun g hg => Below.heap_setCell _ ⟨c.blk, 1, none⟩ _ g hg)
        show ((w1.alloc _).setCell ⟨c.blk, 1, none⟩ _).heap[c.blk]? = _
        rw [Go.Joins.block_setCell (hqA.tens c List.mem_cons_self).blk]
        rfl
      have hRm := remove_first hqC (j := j) (js := js) hj1 (by have := hi1.b.len; rw [hr1] at this; simp at this; omega) (by have := size_mem (show c.t ∈ r.start.ring by rw [hr1]; exact List.mem_cons_self); have := hi1.b.jobs; rw [hj1] at *; simp at *; omega)
      have hgone : r.start.gone = (if js = [] then { r.start with ring := b.map Ce.t, beg := false } else { r.start with ring := { c.t with cr := x, jobs := js } :: b.map Ce.t }) := by
        unfold Qu.gone
        rw [hr1]
        simp only [hj1, hx]
      have uC : Upd I (ids P rv1 (c :: b)) w0 ((w1.alloc (.cells #[.int .i64 j.ten, .string j.name, .int .i64 j.cost] 34)).setCell ⟨c.blk, 1, none⟩ (.int .i64 (x : Int))).drew := ((hu1.trans (Upd.of_below hbA)).trans (Upd.set _ ⟨c.blk, 1, none⟩ _ (mem_ids_c (c := c) List.mem_cons_self List.mem_cons_self))).drewN 1
      have lC : (((w1.alloc (.cells #[.int .i64 j.ten, .string j.name, .int .i64 j.cost] 34)).setCell ⟨c.blk, 1, none⟩ (.int .i64 (x : Int))).drew).heap[w1.heap.size]? = some (.cells #[.int .i64 j.ten, .string j.name, .int .i64 j.cost] 34 (0, 0)) := (Below.heap_setCell _ ⟨c.blk, 1, none⟩ _ _ hne).trans lA
      have zC : w1.heap.size < (((w1.alloc (.cells #[.int .i64 j.ten, .string j.name, .int .i64 j.cost] 34)).setCell ⟨c.blk, 1, none⟩ (.int .i64 (x : Int))).drew).heap.size := (Array.getElem?_eq_some_iff.1 lC).1
      have nC : w1.heap.size ∉ ids P rv1 (c :: b) := fun e => by have := (hq1.lt _ e).2; omega
      have HRm : Hid (Calls Try.prog 33 #[.pointer (some ⟨P, 0, none⟩), .int .i64 0, .int .i64 0] ((w1.alloc (.cells #[.int .i64 j.ten, .string j.name, .int .i64 j.cost] 34)).setCell ⟨c.blk, 1, none⟩ (.int .i64 (x : Int))).drew fun e w' => e = .returned (.tuple #[]) ∧ (∃ rv' cs', QS B P rv' cs' w' r.start.gone ∧ Upd I (ids P rv' cs') w0 w') ∧ w'.heap[w1.heap.size]? = some (.cells #[.int .i64 j.ten, .string j.name, .int .i64 j.cost] 34 (0, 0))) := by
        refine Calls.mono hRm ?_
        rintro e w' ⟨he, rv', cs', hq', hu'⟩
        refine ⟨he, ⟨rv', cs', ?_, uC.trans hu'⟩, (hu'.block _ zC nC).trans lC⟩
        rw [hgone]
        exact hq'
      rw [World.setCell_alloc_past (w := w1) _ _ _ _ bt] at HRm
      have HF : Hid (Spun q r.start ∧ QI r.start ∧ r.start.ring = c.t :: b.map Ce.t ∧ c.t.jobs = j :: js ∧ j.cost ≤ c.t.cr) := ⟨HSp.out, hi1, hr1, hj1, hc⟩
      clear hq1 hi1 hr1 hqx hix hnx hsx hux hu1 HI ht hrv1 hjv hqA hqC hRm hgone uC lC zC nC lA hbA hj1 hx HSp hcr hzA
      have HRR : Hid (∀ (W : World) rv' cs', QS B P rv' cs' W r.start.gone → Upd I (ids P rv' cs') w0 W → W.heap[R]? = some (.cells #[.int .i64 0, .string ⟨#[]⟩, .int .i64 0] 34 (0, 0)) ∧ R ∉ ids P rv' cs') := fun W rv' cs' _ hu => ⟨(hu.block R HR.out.2.1 HR.out.1).trans HR.out.2.2.1, fun e => by
        rcases hu.new R e with e | e
        · exact HR.out.1 e
        · have := HR.out.2.1; omega⟩
      go_wp2
      go_region
      all_goals
        generalize hW3 : ((w1.setCell ⟨c.blk, 1, none⟩ (.int .i64 (x : Int))).alloc (.cells #[.int .i64 j.ten, .string j.name, .int .i64 j.cost] 34)).drew = W3 at *
        clear hW3 a1 a2 a3
        generalize w1.heap.size = JB at *
        go_wp2_with fail
        refine HRm.out.mono ?_
        rintro e W4 ⟨rfl, ⟨rv', cs', hq4, hu4⟩, hl4⟩
        obtain ⟨hR4, hnR⟩ := HRR.out W4 rv' cs' hq4 hu4
        have e0 : W4.cell? ⟨JB, 0, none⟩ = some (.int .i64 j.ten) := by rw [Lib.cell_of_heap hl4]; rfl
        have e1 : W4.cell? ⟨JB, 1, none⟩ = some (.string j.name) := by rw [Lib.cell_of_heap hl4]; rfl
        have e2 : W4.cell? ⟨JB, 2, none⟩ = some (.int .i64 j.cost) := by rw [Lib.cell_of_heap hl4]; rfl
        have r0 : W4.cell? ⟨R, 0, none⟩ = some (.int .i64 0) := by rw [Lib.cell_of_heap hR4]; rfl
        have r1 : W4.cell? ⟨R, 1, none⟩ = some (.string ⟨#[]⟩) := by rw [Lib.cell_of_heap hR4]; rfl
        have r2 : W4.cell? ⟨R, 2, none⟩ = some (.int .i64 0) := by rw [Lib.cell_of_heap hR4]; rfl
        have f0 : W4.frozen? ⟨R, 0, none⟩ = false := Lib.frozen_of_heap hR4 0
        have f1 : W4.frozen? ⟨R, 1, none⟩ = false := Lib.frozen_of_heap hR4 1
        have f2 : W4.frozen? ⟨R, 2, none⟩ = false := Lib.frozen_of_heap hR4 2
        obtain ⟨hR5, ho5⟩ := three (x := .int .i64 j.ten) (y := .string j.name) (z := .int .i64 j.cost) hR4
        have g0 : (((W4.setCell ⟨R, 0, none⟩ (.int .i64 j.ten)).setCell ⟨R, 1, none⟩ (.string j.name)).setCell ⟨R, 2, none⟩ (.int .i64 j.cost)).cell? ⟨R, 0, none⟩ = some (.int .i64 j.ten) := by rw [Lib.cell_of_heap hR5]; rfl
        have g1 : (((W4.setCell ⟨R, 0, none⟩ (.int .i64 j.ten)).setCell ⟨R, 1, none⟩ (.string j.name)).setCell ⟨R, 2, none⟩ (.int .i64 j.cost)).cell? ⟨R, 1, none⟩ = some (.string j.name) := by rw [Lib.cell_of_heap hR5]; rfl
        have g2 : (((W4.setCell ⟨R, 0, none⟩ (.int .i64 j.ten)).setCell ⟨R, 1, none⟩ (.string j.name)).setCell ⟨R, 2, none⟩ (.int .i64 j.cost)).cell? ⟨R, 2, none⟩ = some (.int .i64 j.cost) := by rw [Lib.cell_of_heap hR5]; rfl
        have H5 : Hid (∃ rv' cs', QS B P rv' cs' (((W4.setCell ⟨R, 0, none⟩ (.int .i64 j.ten)).setCell ⟨R, 1, none⟩ (.string j.name)).setCell ⟨R, 2, none⟩ (.int .i64 j.cost)) r.start.gone ∧ Upd I (ids P rv' cs') w (((W4.setCell ⟨R, 0, none⟩ (.int .i64 j.ten)).setCell ⟨R, 1, none⟩ (.string j.name)).setCell ⟨R, 2, none⟩ (.int .i64 j.cost))) := by
          refine ⟨rv', cs', hq4.keep fun g hg => ho5 g (fun e => hnR (e ▸ hg)), ?_⟩
          have u0 : Upd I (ids P rv' cs') w W4 := (Upd.of_below (I := I) (w := w) (w' := w0) (by rw [hJn]; exact HR.out.2.2.2)).trans hu4
          refine ⟨u0.os, u0.tape, u0.output, ?_, fun g x1 x2 => (ho5 g (by omega)).trans (u0.block g x1 x2), u0.new⟩
          have := u0.size
          simpa [World.setCell] using this
        clear hq4 hu4 hl4 hR4 hnR hR5 ho5 HRm HRR
        go_wp2
        refine bodyPost_ret (v := .tuple #[.agg #[.int .i64 j.ten, .string j.name, .int .i64 j.cost], .bool true]) (by simp [results, Try.results12, go_sem, g0, g1, g2]) rfl ?_
        have h5 := H5.out
        rw [← HII.out] at h5
        exact ⟨r.start, c.t, b.map Ce.t, j, js, HF.out.1, HF.out.2.1, HF.out.2.2.1, HF.out.2.2.2.1, HF.out.2.2.2.2, rfl, h5⟩
    · have hcI : ¬ j.cost ≤ t.cr := hc
      have hct := (hi1.cost t (by rw [hr1]; exact List.mem_cons_self) j (by rw [hj1]; exact List.mem_cons_self)).2
      obtain ⟨c, b, rfl, rfl, rfl⟩ := ring_cons hq1 hr1
      have HT : Hid (Calls Try.prog 32 #[.pointer (some ⟨P, 0, none⟩)] w1 fun e w' => e = .returned (.tuple #[]) ∧ Way B P I q w0 w' r.start.over) := by
        refine (turnOver_any hq1 (by have := hi1.b.len; rw [hr1] at this; simp at this; omega)).mono ?_
        rintro e w' ⟨he, hq', hu'⟩
        refine ⟨he, rv1, b ++ [c], ?_, hi1.over hr1 (by omega), ?_, fun z hz => hsx z (Spun.go ?_ hz), hu1.trans hu'⟩
        · rw [over_eq hr1]; exact hq'
        · rw [over_eq hr1]; simp
        · rintro ⟨t', r', j', js', y1, y2, y3⟩
          rw [hr1] at y1
          cases y1
          rw [hj1] at y2
          cases y2
          exact hc y3
      have HM : Hid (mea r.start.over < gk) := by
        have := mea_turn hix hr1 hj1 hc
        have := HI.out.2
        show _ < _
        omega
      clear hq1 hi1 hr1 hj1 hqx hix hnx hsx hux hu1 HI hct hc
      go_wp2_with fail
      refine HT.out.mono ?_
      rintro e W4 ⟨rfl, hw4⟩
      have H4 : Hid (Way B P I q w0 W4 r.start.over) := hw4
      clear hw4 HT
      go_wp2
      go_roundg (mea r.start.over)
      case measure => exact HM.out
      case rel => exact ⟨r.start.over, H4.out, Nat.le_refl _⟩
end Go.Proofs.Ytfddhdpnoliamaa
