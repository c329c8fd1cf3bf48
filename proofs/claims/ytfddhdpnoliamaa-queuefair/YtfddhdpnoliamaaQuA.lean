/- A job is added. -/
import Derived.Test.YtfddhdpnoliamaaQuX
namespace Go.Proofs.Ytfddhdpnoliamaa
open Go.RowKit Go.Shelf

theorem info_p {i : Option TypeInfo} {z : Value} {s b : Nat} (h : i.map (fun i => (i.zero, i.size, i.bytes)) = some (some z, s, b)) : ∃ i0, i = some i0 ∧ i0.zero = some z ∧ i0.size = s ∧ i0.bytes = b := by
  match i, h with
  | some i0, h =>
    simp at h
    exact ⟨i0, rfl, h.1, h.2.1, h.2.2⟩
theorem infJ : (Try.prog.info? 34).map (fun i => (i.zero, i.size, i.bytes)) = some (some (.agg #[.int .i64 0, .string ⟨#[]⟩, .int .i64 0]), 3, 32) := by kernel_rfl
theorem infP : (Try.prog.info? 64).map (fun i => (i.zero, i.size, i.bytes)) = some (some (.pointer none), 1, 8) := by kernel_rfl
theorem al_at (W : World) (b : Nat) (cs : Array Value) (ty : TypeId) (k : Nat) (v : Value) (hb : b = W.heap.size) (hv : cs[k]? = some v) : (W.alloc (.cells cs ty)).cell? ⟨b, k, none⟩ = some v := by
  subst hb
  rw [Lib.cell_of_heap (heap_alloc_new W _)]
  exact hv
theorem add0 (g j : Nat) : (⟨g, 0, none⟩ : Addr).add j = ⟨g, j, none⟩ := by
  unfold Addr.add
  split <;> simp_all
theorem new_job (W : World) (j : Jb) : ∀ (k : Nat) (u : Value), (jc j)[k]? = some u → (W.alloc (.cells #[.int .i64 j.ten, .string j.name, .int .i64 j.cost] 34)).cell? ((⟨W.heap.size, 0, none⟩ : Addr).add k) = some u := by
  intro k u hk
  rw [add0]
  have h3 : k < 3 := (List.getElem?_eq_some_iff.1 hk).1
  refine al_at W _ _ _ k u rfl ?_
  match k, h3, hk with
  | 0, _, hk => exact hk
  | 1, _, hk => exact hk
  | 2, _, hk => exact hk
theorem heap_al (w : World) (o : Obj) (g : Nat) (hg : g < w.heap.size) : (w.alloc o).heap[g]? = w.heap[g]? := ((Below.refl w.heap.size w).alloc (Nat.le_refl _) o).block g hg

/-- Appending, shut: the walk is not to look into it. -/
def appS (ats : Array TypeId) (ty : TypeId) (args : Array Value) : Sem Value := Builtin.append_ ats ty args
theorem appS_eq (ats : Array TypeId) (ty : TypeId) (args : Array Value) : Builtin.append_ ats ty args = appS ats ty args := rfl
attribute [local go_sem ↓] appS_eq

/-- What is known when a job comes to a tenant's row: W is the world ahead of the region in which it does. -/
theorem put_facts {B P : Nat} {rv : Value} {a b : List Ce} {c : Ce} {W : World} {q : Qu} (h : QS B P rv (a ++ c :: b) W q) (j : Jb) :
    ((W.alloc (.cells #[.int .i64 j.ten, .string j.name, .int .i64 j.cost] 34)).drew).ownsRow B 34 3 c.jv c.t.jobs.length (jcs c.t.jobs) ∧
    B ≤ ((W.alloc (.cells #[.int .i64 j.ten, .string j.name, .int .i64 j.cost] 34)).drew).heap.size ∧
    ((W.alloc (.cells #[.int .i64 j.ten, .string j.name, .int .i64 j.cost] 34)).drew).heap.size = W.heap.size + 1 ∧
    ∀ {w1 : World} {g1 cap1 : Nat}, w1.ownsRow B 34 3 (.slice (some ⟨g1, 0, none⟩) (c.t.jobs.length + 1) cap1) (c.t.jobs.length + 1) (jcs c.t.jobs ++ jc j) → ((W.alloc (.cells #[.int .i64 j.ten, .string j.name, .int .i64 j.cost] 34)).drew).grownBy w1 c.jv.ownBlock → (c.jv.ownBlock = some g1 ∨ g1 = W.heap.size + 1) →
      w1.cell? ⟨c.blk, 2, none⟩ = some c.jv ∧ w1.frozen? ⟨c.blk, 2, none⟩ = false ∧
      QS B P rv (a ++ ⟨c.blk, .slice (some ⟨g1, 0, none⟩) (c.t.jobs.length + 1) cap1, { c.t with jobs := c.t.jobs ++ [j] }⟩ :: b) (w1.setCell ⟨c.blk, 2, none⟩ (.slice (some ⟨g1, 0, none⟩) (c.t.jobs.length + 1) cap1)) { q with ring := a.map Ce.t ++ { c.t with jobs := c.t.jobs ++ [j] } :: b.map Ce.t } ∧
      Upd (ids P rv (a ++ c :: b)) (ids P rv (a ++ ⟨c.blk, .slice (some ⟨g1, 0, none⟩) (c.t.jobs.length + 1) cap1, { c.t with jobs := c.t.jobs ++ [j] }⟩ :: b)) W (w1.setCell ⟨c.blk, 2, none⟩ (.slice (some ⟨g1, 0, none⟩) (c.t.jobs.length + 1) cap1)) := by
  have ht := h.tens c (by simp)
  have hBl : B ≤ W.heap.size := by have := h.lo; have := (h.lt P List.mem_cons_self).2; omega
  have q4 : ((W.alloc (.cells #[.int .i64 j.ten, .string j.name, .int .i64 j.cost] 34)).drew).heap.size = W.heap.size + 1 := by show (W.alloc _).heap.size = _; rw [World.size_alloc]
  refine ⟨ht.row.alloc _, by rw [q4]; omega, q4, ?_⟩
  intro w1 g1 cap1 a1 a2 a3
  have hne := h.c_ne
  have hbk : ∀ g : Nat, g < W.heap.size → g ∉ ob c.jv → w1.heap[g]? = W.heap[g]? := fun g hg hn => (a2.block g (by rw [q4]; omega) (fun e => hn (mem_ob.2 e.symm))).trans (heap_al W _ g hg)
  have e1 : w1.heap[c.blk]? = W.heap[c.blk]? := hbk c.blk ht.lt hne.2.1
  have hg1ne : g1 ≠ c.blk := fun e => by
    rcases a3 with a3 | a3
    · exact hne.2.1 (mem_ob.2 (by rw [a3, e]))
    · have := ht.lt; omega
  have e2 : (w1.setCell ⟨c.blk, 2, none⟩ (.slice (some ⟨g1, 0, none⟩) (c.t.jobs.length + 1) cap1)).heap[c.blk]? = some (.cells #[.int .i64 c.t.num, .int .i64 c.t.cr, .slice (some ⟨g1, 0, none⟩) (c.t.jobs.length + 1) cap1] 66 (0, 0)) := by rw [Go.Joins.block_setCell (e1.trans ht.blk)]; rfl
  refine ⟨by rw [World.cell?_of_block (w := W) e1]; exact ht.c2, by rw [World.frozen?_of_block (w := W) e1]; exact ht.fz 2, ?_, ?_⟩
  · refine h.setJobs { c.t with jobs := c.t.jobs ++ [j] } e2 ?_ (fun g hg => ?_) (fun g x1 x2 x3 => (Below.heap_setCell _ ⟨c.blk, 2, none⟩ _ g x1).trans (hbk g x3 x2))
    · have e3 : jcs (c.t.jobs ++ [j]) = jcs c.t.jobs ++ jc j := by rw [jcs_app]; simp [jcs]
      show (w1.setCell _ _).ownsRow B _ 3 _ (c.t.jobs ++ [j]).length (jcs (c.t.jobs ++ [j]))
      rw [e3, List.length_append]
      exact own_heap a1 fun g hg => Below.heap_setCell _ ⟨c.blk, 2, none⟩ _ g fun e => hg1ne (by simp [Value.ownBlock] at hg; rw [hg]; exact e)
    · simp [Value.ownBlock] at hg
      subst hg
      rcases a3 with a3 | a3
      · exact .inl a3
      · exact .inr (by omega)
  · refine ⟨a2.os, a2.tape, a2.output, ?_, fun g x1 x2 => ?_, fun g hg => ?_⟩
    · have := a2.size
      show W.heap.size ≤ (w1.setCell _ _).heap.size
      have e : (w1.setCell ⟨c.blk, 2, none⟩ (.slice (some ⟨g1, 0, none⟩) (c.t.jobs.length + 1) cap1)).heap.size = w1.heap.size := by simp [World.setCell]
      omega
    · have y1 : g ≠ c.blk := fun e => x2 (by rw [e]; exact mem_ids_c (c := c) (by simp) List.mem_cons_self)
      have y2 : g ∉ ob c.jv := fun e => x2 (mem_ids_c (c := c) (by simp) (List.mem_cons_of_mem _ e))
      exact (Below.heap_setCell _ ⟨c.blk, 2, none⟩ _ g y1).trans (hbk g x1 y2)
    · rcases List.mem_append.1 ((ids_perm P rv a b _).mem_iff.1 hg) with hp | hp
      · rcases List.mem_cons.1 hp with hp | hp
        · exact .inl (by rw [hp]; exact mem_ids_c (c := c) (by simp) List.mem_cons_self)
        · have hp2 := mem_ob.1 hp
          simp [Value.ownBlock] at hp2
          subst hp2
          rcases a3 with a3 | a3
          · exact .inl (mem_ids_c (c := c) (by simp) (List.mem_cons_of_mem _ (mem_ob.2 a3)))
          · exact .inr (by omega)
      · exact .inl ((ids_perm P rv a b c).mem_iff.2 (List.mem_append_right _ hp))

set_option maxHeartbeats 8000000 in
set_option maxRecDepth 100000 in
theorem add_old {B P : Nat} {rv : Value} {a b : List Ce} {c : Ce} {w : World} {q : Qu} (h : QS B P rv (a ++ c :: b) w q) (j : Jb) (hp : plc j.ten q.ring = a.length) (hn : a.length + b.length ≤ 100000) (hm : c.t.jobs.length ≤ 100000) :
    Calls Try.prog 27 #[.pointer (some ⟨P, 0, none⟩), .agg #[.int .i64 j.ten, .string j.name, .int .i64 j.cost]] w fun e w' => e = .returned (.tuple #[]) ∧ ∃ jv',
      QS B P rv (a ++ ⟨c.blk, jv', { c.t with jobs := c.t.jobs ++ [j] }⟩ :: b) w' { q with ring := a.map Ce.t ++ { c.t with jobs := c.t.jobs ++ [j] } :: b.map Ce.t } ∧ Upd (ids P rv (a ++ c :: b)) (ids P rv (a ++ ⟨c.blk, jv', { c.t with jobs := c.t.jobs ++ [j] }⟩ :: b)) w w' := by
  obtain ⟨i0, hi, hz0, hz1, hz2⟩ := info_p infJ
  have hb0 : Below w.heap.size w (w.alloc (.cells #[.int .i64 j.ten, .string j.name, .int .i64 j.cost] 34)) := (Below.refl _ w).alloc (Nat.le_refl _) _
  have h1 := h.up hb0
  have l0 := heap_alloc_new w (.cells #[.int .i64 j.ten, .string j.name, .int .i64 j.cost] 34)
  have hz3 : w.heap.size < (w.alloc (.cells #[.int .i64 j.ten, .string j.name, .int .i64 j.cost] 34)).heap.size := by rw [World.size_alloc]; omega
  have HPl : Hid (Calls Try.prog 35 #[.pointer (some ⟨P, 0, none⟩), .int .i64 j.ten] (w.alloc (.cells #[.int .i64 j.ten, .string j.name, .int .i64 j.cost] 34)) fun e w' => e = .returned (.int .i64 (a.length : Int)) ∧ Below (w.alloc (.cells #[.int .i64 j.ten, .string j.name, .int .i64 j.cost] 34)).heap.size (w.alloc (.cells #[.int .i64 j.ten, .string j.name, .int .i64 j.cost] 34)) w') := by
    have := placeOf_any h1 (by simp; omega) j.ten
    rw [hp] at this
    exact this
  have HH : Hid (QS B P rv (a ++ c :: b) w q) := h
  have H0 : Hid (QS B P rv (a ++ c :: b) (w.alloc (.cells #[.int .i64 j.ten, .string j.name, .int .i64 j.cost] 34)) q ∧ Below w.heap.size w (w.alloc (.cells #[.int .i64 j.ten, .string j.name, .int .i64 j.cost] 34)) ∧ (w.alloc (.cells #[.int .i64 j.ten, .string j.name, .int .i64 j.cost] 34)).heap[w.heap.size]? = some (.cells #[.int .i64 j.ten, .string j.name, .int .i64 j.cost] 34 (0, 0)) ∧ w.heap.size < (w.alloc (.cells #[.int .i64 j.ten, .string j.name, .int .i64 j.cost] 34)).heap.size) := ⟨h1, hb0, l0, hz3⟩
  have ha0 : ¬ (a.length : Int) < 0 := by omega
  have k1 : (a.length : Int) < (a.length : Int) + ((b.length : Int) + 1) := by omega
  have hone := jc_one j
  have hnl : (jc j).length = 1 * 3 := rfl
  have q1 : c.t.jobs.length + 1 ≤ maxLen := by unfold maxLen; omega
  have q2 : (c.t.jobs.length + 1) * 32 ≤ 140737488355328 := by omega
  have e0 : (w.alloc (.cells #[.int .i64 j.ten, .string j.name, .int .i64 j.cost] 34)).cell? ⟨w.heap.size, 0, none⟩ = some (.int .i64 j.ten) := by rw [Lib.cell_of_heap l0]; rfl
  clear h h1 hb0 l0 hz3 hp hn hm
  go_enter Try.func27, Try.ntmps27
  go_wp2_with fail
  generalize hJ : w.heap.size = J at *
  generalize w.alloc (.cells #[.int .i64 j.ten, .string j.name, .int .i64 j.cost] 34) = w0 at *
  refine HPl.out.mono ?_
  rintro e W ⟨rfl, hbW⟩
  have hW := H0.out.1.up hbW
  have hl := (hbW.block J H0.out.2.2.2).trans H0.out.2.2.1
  have j0 : W.cell? ⟨J, 0, none⟩ = some (.int .i64 j.ten) := by rw [Lib.cell_of_heap hl]; rfl
  have j1 : W.cell? ⟨J, 1, none⟩ = some (.string j.name) := by rw [Lib.cell_of_heap hl]; rfl
  have j2 : W.cell? ⟨J, 2, none⟩ = some (.int .i64 j.cost) := by rw [Lib.cell_of_heap hl]; rfl
  have c1 := hW.c1
  have ht := hW.tens c (by simp)
  have t2 := ht.c2
  obtain ⟨g, cap, hrv, k0⟩ := mid_ptr hW
  rw [hrv] at c1
  obtain ⟨p1, p2, p3, p4⟩ := put_facts hW j
  have HF : Hid (∀ {w1 : World} {g1 cap1 : Nat}, w1.ownsRow B 34 3 (.slice (some ⟨g1, 0, none⟩) (c.t.jobs.length + 1) cap1) (c.t.jobs.length + 1) (jcs c.t.jobs ++ jc j) → ((W.alloc (.cells #[.int .i64 j.ten, .string j.name, .int .i64 j.cost] 34)).drew).grownBy w1 c.jv.ownBlock → (c.jv.ownBlock = some g1 ∨ g1 = W.heap.size + 1) →
      w1.cell? ⟨c.blk, 2, none⟩ = some c.jv ∧ w1.frozen? ⟨c.blk, 2, none⟩ = false ∧
      QS B P rv (a ++ ⟨c.blk, .slice (some ⟨g1, 0, none⟩) (c.t.jobs.length + 1) cap1, { c.t with jobs := c.t.jobs ++ [j] }⟩ :: b) (w1.setCell ⟨c.blk, 2, none⟩ (.slice (some ⟨g1, 0, none⟩) (c.t.jobs.length + 1) cap1)) { q with ring := a.map Ce.t ++ { c.t with jobs := c.t.jobs ++ [j] } :: b.map Ce.t } ∧
      Upd (ids P rv (a ++ c :: b)) (ids P rv (a ++ ⟨c.blk, .slice (some ⟨g1, 0, none⟩) (c.t.jobs.length + 1) cap1, { c.t with jobs := c.t.jobs ++ [j] }⟩ :: b)) w (w1.setCell ⟨c.blk, 2, none⟩ (.slice (some ⟨g1, 0, none⟩) (c.t.jobs.length + 1) cap1))) := by
    intro w1 g1 cap1 a1 a2 a3
    obtain ⟨r1, r2, r3, r4⟩ := p4 a1 a2 a3
    refine ⟨r1, r2, r3, ?_⟩
    have u0 : Upd (ids P rv (a ++ c :: b)) (ids P rv (a ++ c :: b)) w w0 := Upd.of_below (by rw [hJ]; exact H0.out.2.1)
    exact (u0.trans (Upd.of_below hbW)).trans r4
  have HOW : Hid (((W.alloc (.cells #[.int .i64 j.ten, .string j.name, .int .i64 j.cost] 34)).drew).ownsRow B 34 3 c.jv c.t.jobs.length (jcs c.t.jobs)) := p1
  have HNW : Hid (∀ (k : Nat) (u : Value), (jc j)[k]? = some u → ((W.alloc (.cells #[.int .i64 j.ten, .string j.name, .int .i64 j.cost] 34)).drew).cell? ((⟨W.heap.size, 0, none⟩ : Addr).add k) = some u) := new_job W j
  have b1 : P < W.heap.size := (hW.lt P List.mem_cons_self).2
  have b2 : c.blk < W.heap.size := ht.lt
  have b3 : g < W.heap.size := World.block_lt_of_cell? W _ k0
  have b4 : J < W.heap.size := World.block_lt_of_cell? W _ j0
  have HK : Hid (∀ {w1 : World}, ((W.alloc (.cells #[.int .i64 j.ten, .string j.name, .int .i64 j.cost] 34)).drew).grownBy w1 c.jv.ownBlock → (w1.cell? ⟨P, 1, none⟩ = some (.slice (some ⟨g, 0, none⟩) (a.length + (b.length + 1)) cap) ∧ w1.cell? ⟨g, a.length, none⟩ = some (.pointer (some ⟨c.blk, 0, none⟩)) ∧ w1.cell? ⟨c.blk, 2, none⟩ = some c.jv ∧ w1.cell? ⟨J, 0, none⟩ = some (.int .i64 j.ten) ∧ w1.cell? ⟨J, 1, none⟩ = some (.string j.name) ∧ w1.cell? ⟨J, 2, none⟩ = some (.int .i64 j.cost)) ∧ w1.frozen? ⟨c.blk, 2, none⟩ = false) := by
    intro w1 a2
    have hbk : ∀ k : Nat, k < W.heap.size → k ∉ ob c.jv → w1.heap[k]? = W.heap[k]? := fun k hk hn => (a2.block k (by rw [p3]; omega) (fun e => hn (mem_ob.2 e.symm))).trans (heap_al W _ k hk)
    have nP : P ∉ ob c.jv := fun e => hW.p_ne.2 c (by simp) (List.mem_cons_of_mem _ e)
    have ng : g ∉ ob c.jv := fun e => hW.r_ne g (by rw [hrv]; rfl) c (by simp) (List.mem_cons_of_mem _ e)
    have nJ : J ∉ ob c.jv := fun e => by
      have := (HH.out.lt J (mem_ids_c (c := c) (by simp) (List.mem_cons_of_mem _ e))).2
      rw [hJ] at this
      omega
    have x1 := hbk P b1 nP
    have x2 := hbk g b3 ng
    have x3 := hbk c.blk b2 hW.c_ne.2.1
    have x4 := hbk J b4 nJ
    exact ⟨⟨by rw [World.cell?_of_block (w := W) x1]; exact c1, by rw [World.cell?_of_block (w := W) x2]; exact k0, by rw [World.cell?_of_block (w := W) x3]; exact t2, by rw [World.cell?_of_block (w := W) x4]; exact j0, by rw [World.cell?_of_block (w := W) x4]; exact j1, by rw [World.cell?_of_block (w := W) x4]; exact j2⟩, by rw [World.frozen?_of_block (w := W) x3]; exact ht.fz 2⟩
  have m1 : ¬ P = W.heap.size := by omega
  have m2 : ¬ c.blk = W.heap.size := by omega
  have m3 : ¬ g = W.heap.size := by omega
  have m4 : ¬ J = W.heap.size := by omega
  obtain ⟨g', cap', w1, hrun, hown1, hgrow, hat, hltg⟩ := run_append_lies (P := Try.prog) ((W.alloc (.cells #[.int .i64 j.ten, .string j.name, .int .i64 j.cost] 34)).drew) 30 30 B 34 i0 (.agg #[.int .i64 0, .string ⟨#[]⟩, .int .i64 0]) 3 32 Try.underlying30 hi hz0 hz1 hz2 rfl (by decide) c.jv c.t.jobs.length (jcs c.t.jobs) p1 ⟨W.heap.size, 0, none⟩ 1 1 (jc j) hnl (new_job W j) hone (by decide) q1 q2 p2 (W.heap.size + 1) p3
  have hap : (appS #[30, 30] 30 #[c.jv, .slice (some ⟨W.heap.size, 0, none⟩) 1 1]).run Try.prog ((W.alloc (.cells #[.int .i64 j.ten, .string j.name, .int .i64 j.cost] 34)).drew) = .ok (.slice (some ⟨g', 0, none⟩) (c.t.jobs.length + 1) cap') w1 := hrun
  obtain ⟨⟨d1, d2, d3, d4, d5, d6⟩, f2⟩ := HK.out hgrow
  obtain ⟨r1, r2, r3, r4⟩ := HF.out hown1 hgrow hat
  clear hW hbW hl ht hrv p1 p4 HPl H0 hJ HH
  clear hown1 hgrow hat hltg hrun HF HK
  go_wp2
  go_region
  all_goals
    go_wp2
    go_end0
    exact ⟨rfl, _, r3, r4⟩
end Go.Proofs.Ytfddhdpnoliamaa
