/- The document's ring: a job is put to a tenant that is there. -/
import Derived.Test.YtfddhdpnoliamaaQuRe
namespace Go.Proofs.Ytfddhdpnoliamaa
open Go.RowKit Go.Shelf
attribute [local go_sem ↓] appS_eq

theorem nd_last {A : List Nat} {v v' : Value} {N : Nat} (h : (A ++ ob v).Nodup) (hA : ∀ g ∈ A, g < N) (hn : ∀ g, v'.ownBlock = some g → v.ownBlock = some g ∨ N ≤ g) : (A ++ ob v').Nodup := by
  rw [List.nodup_append] at h ⊢
  refine ⟨h.1, ?_, fun a ha b hb => ?_⟩
  · unfold ob
    cases v'.ownBlock <;> simp
  · rcases hn b (mem_ob.1 hb) with e | e
    · exact h.2.2 a ha b (mem_ob.2 e)
    · have := hA a ha
      omega
theorem rids_last (P : Nat) (tv cv jv : Value) : rids P tv cv jv = (P :: (ob tv ++ ob cv)) ++ ob jv := by simp [rids]

/-- Other jobs are laid into a ring. -/
theorem RS.jobsTo {B P : Nat} {tv cv jv jv' : Value} {W W' : World} {r : Rg} {l' : List Jb} (h : RS B P tv cv jv W r)
    (hP : W'.heap[P]? = some (.cells #[.int .i64 r.qm, tv, cv, .bool r.turn, jv'] 32 (0, 0)))
    (hk : ∀ g ∈ ob tv ++ ob cv, W'.heap[g]? = W.heap[g]?) (hr : RowL W' B 34 3 jv' l'.length (jcs l')) (hnew : ∀ g, jv'.ownBlock = some g → jv.ownBlock = some g ∨ W.heap.size ≤ g) :
    RS B P tv cv jv' W' { r with jobs := l' } := by
  refine ⟨hP, h.lo, h.tens.keep fun g hg => hk g (List.mem_append_left _ (mem_ob.2 hg)), h.creds.keep fun g hg => hk g (List.mem_append_right _ (mem_ob.2 hg)), hr, ?_⟩
  have h0 := h.nd
  rw [rids_last] at h0 ⊢
  refine nd_last h0 (fun g hg => (h.lt g ?_).2) hnew
  rw [rids_last]
  exact List.mem_append_left _ hg

/-- A job comes behind the others. -/
theorem RS.jobsApp {B P : Nat} {tv cv jv : Value} {W w1 : World} {r : Rg} (h : RS B P tv cv jv W r) (j : Jb) (o : Obj) {g1 cap1 : Nat}
    (a1 : w1.ownsRow B 34 3 (.slice (some ⟨g1, 0, none⟩) (r.jobs.length + 1) cap1) (r.jobs.length + 1) (jcs r.jobs ++ jc j)) (a2 : ((W.alloc o).drew).grownBy w1 jv.ownBlock) (a3 : jv.ownBlock = some g1 ∨ g1 = W.heap.size + 1) :
    w1.cell? ⟨P, 4, none⟩ = some jv ∧ w1.frozen? ⟨P, 4, none⟩ = false ∧
    RS B P tv cv (.slice (some ⟨g1, 0, none⟩) (r.jobs.length + 1) cap1) (w1.setCell ⟨P, 4, none⟩ (.slice (some ⟨g1, 0, none⟩) (r.jobs.length + 1) cap1)) { r with jobs := r.jobs ++ [j] } ∧
    Upd (rids P tv cv jv) (rids P tv cv (.slice (some ⟨g1, 0, none⟩) (r.jobs.length + 1) cap1)) W (w1.setCell ⟨P, 4, none⟩ (.slice (some ⟨g1, 0, none⟩) (r.jobs.length + 1) cap1)) := by
  have q4 : ((W.alloc o).drew).heap.size = W.heap.size + 1 := by show (W.alloc o).heap.size = _; rw [World.size_alloc]
  have hnd := h.nd
  rw [rids_last] at hnd
  have hdj := (List.nodup_append.1 hnd).2.2
  have hPl := (h.lt P List.mem_cons_self).2
  have hbk : ∀ g : Nat, g < W.heap.size → g ∉ ob jv → w1.heap[g]? = W.heap[g]? := fun g hg hn => (a2.block g (by rw [q4]; omega) (fun e => hn (mem_ob.2 e.symm))).trans (heap_al W _ g hg)
  have hPn : P ∉ ob jv := fun e => hdj P List.mem_cons_self P e rfl
  have eP : w1.heap[P]? = W.heap[P]? := hbk P hPl hPn
  have hg1P : g1 ≠ P := fun e => by
    rcases a3 with a3 | a3
    · exact hPn (mem_ob.2 (by rw [a3, e]))
    · omega
  have hnP : ∀ g ∈ ob tv ++ ob cv, g ≠ P := fun g hg e => by
    have h1 := (List.nodup_append.1 hnd).1
    rw [List.nodup_cons] at h1
    exact h1.1 (by rw [← e]; exact hg)
  have hlt : ∀ g ∈ ob tv ++ ob cv, g < W.heap.size := fun g hg => (h.lt g (by rw [rids_last]; exact List.mem_append_left _ (List.mem_cons_of_mem _ hg))).2
  have hnw : ∀ g, (Value.slice (some ⟨g1, 0, none⟩) (r.jobs.length + 1) cap1).ownBlock = some g → jv.ownBlock = some g ∨ W.heap.size ≤ g := fun g hg => by
    simp [Value.ownBlock] at hg
    subst hg
    rcases a3 with a3 | a3
    · exact .inl a3
    · exact .inr (by omega)
  refine ⟨by rw [World.cell?_of_block (w := W) eP]; exact h.c 4 jv rfl, by rw [World.frozen?_of_block (w := W) eP]; exact Lib.frozen_of_heap h.blk 4, ?_, ?_⟩
  · refine h.jobsTo ?_ (fun g hg => (Below.heap_setCell _ ⟨P, 4, none⟩ _ g (hnP g hg)).trans (hbk g (hlt g hg) fun e => hdj g (List.mem_cons_of_mem _ hg) g e rfl)) ?_ hnw
    · rw [Go.Joins.block_setCell (eP.trans h.blk)]
      rfl
    · have e3 : jcs (r.jobs ++ [j]) = jcs r.jobs ++ jc j := by rw [jcs_app]; simp [jcs]
      rw [e3, List.length_append]
      exact .inl (own_heap a1 fun g hg => Below.heap_setCell _ ⟨P, 4, none⟩ _ g fun e => hg1P (by simp [Value.ownBlock] at hg; rw [hg]; exact e))
  · refine ⟨a2.os, a2.tape, a2.output, ?_, fun g x1 x2 => ?_, fun g hg => ?_⟩
    · have := a2.size
      have e : (w1.setCell ⟨P, 4, none⟩ (.slice (some ⟨g1, 0, none⟩) (r.jobs.length + 1) cap1)).heap.size = w1.heap.size := by simp [World.setCell]
      omega
    · have y1 : g ≠ P := fun e => x2 (by rw [e]; exact List.mem_cons_self)
      have y2 : g ∉ ob jv := fun e => x2 (by rw [rids_last]; exact List.mem_append_right _ e)
      exact (Below.heap_setCell _ ⟨P, 4, none⟩ _ g y1).trans (hbk g x1 y2)
    · rw [rids_last] at hg ⊢
      rcases List.mem_append.1 hg with hg | hg
      · exact .inl (List.mem_append_left _ hg)
      · rcases hnw g (mem_ob.1 hg) with e | e
        · exact .inl (List.mem_append_right _ (mem_ob.2 e))
        · exact .inr e

set_option maxHeartbeats 8000000 in
set_option maxRecDepth 100000 in
theorem rPut_old {B P : Nat} {tv cv jv : Value} {w : World} {r : Rg} (h : RS B P tv cv jv w r) (j : Jb) (hs : j.name.size ≤ maxLen) (hn : r.jobs.length < 200)
    (y1 : ¬ (j.ten : Int) < 1) (y2 : ¬ 20 < (j.ten : Int)) (y3 : ¬ (j.cost : Int) < 1) (y4 : ¬ 1000 < (j.cost : Int)) (y5 : nameOk j.name = true) (y6 : jat r.jobs (fun x => eqN x.name j.name) = -1) (y7 : 0 ≤ jat r.jobs (fun x => decide ((x.ten : Int) = (j.ten : Int)))) :
    Calls Try.prog 11 #[.pointer (some ⟨P, 0, none⟩), .agg #[.int .i64 j.ten, .string j.name, .int .i64 j.cost]] w fun e w' => e = .returned (.int .i64 0) ∧ ∃ jv', RS B P tv cv jv' w' { r with jobs := r.jobs ++ [j] } ∧ Upd (rids P tv cv jv) (rids P tv cv jv') w w' := by
  have l0 := heap_alloc_new w (.cells #[.int .i64 j.ten, .string j.name, .int .i64 j.cost] 34)
  have hz0 : (w.alloc (.cells #[.int .i64 j.ten, .string j.name, .int .i64 j.cost] 34)).heap.size = w.heap.size + 1 := World.size_alloc _ _
  have hb0 : Below w.heap.size w (w.alloc (.cells #[.int .i64 j.ten, .string j.name, .int .i64 j.cost] 34)) := (Below.refl _ w).alloc (Nat.le_refl _) _
  have h1 := h.up hb0
  have e0 : (w.alloc (.cells #[.int .i64 j.ten, .string j.name, .int .i64 j.cost] 34)).cell? ⟨w.heap.size, 0, none⟩ = some (.int .i64 j.ten) := by rw [Lib.cell_of_heap l0]; rfl
  have e1 : (w.alloc (.cells #[.int .i64 j.ten, .string j.name, .int .i64 j.cost] 34)).cell? ⟨w.heap.size, 1, none⟩ = some (.string j.name) := by rw [Lib.cell_of_heap l0]; rfl
  have e2 : (w.alloc (.cells #[.int .i64 j.ten, .string j.name, .int .i64 j.cost] 34)).cell? ⟨w.heap.size, 2, none⟩ = some (.int .i64 j.cost) := by rw [Lib.cell_of_heap l0]; rfl
  have hP := (h1.lt P List.mem_cons_self).2
  have HNm : Hid (∀ W, Calls Try.prog 28 #[.string j.name] W fun e w' => e = .returned (.bool true) ∧ w' = W) := fun W => by
    have := RIsName_any j.name W hs
    rwa [y5] at this
  obtain ⟨ao, cap, hjv⟩ := h1.jobs.shape
  have c4 := h1.c 4 jv rfl
  have HJ : Hid (∀ n, Calls Try.prog 29 #[.pointer (some ⟨P, 0, none⟩), .string j.name] ((w.alloc (.cells #[.int .i64 j.ten, .string j.name, .int .i64 j.cost] 34)).drewN n) fun e w' => e = .returned (.int .i64 (-1)) ∧ ∃ m, w' = (w.alloc (.cells #[.int .i64 j.ten, .string j.name, .int .i64 j.cost] 34)).drewN m) := fun n => by
    have := JobAt_any P j.name jv r.jobs ((w.alloc (.cells #[.int .i64 j.ten, .string j.name, .int .i64 j.cost] 34)).drewN n) (by exact c4) (h1.jobs.readJ.drewN n) (by omega)
    rw [y6] at this
    exact this.mono fun e w' ⟨a, m, b⟩ => ⟨a, n + m, by rw [b]; simp⟩
  have HF : Hid (∀ n, Calls Try.prog 30 #[.pointer (some ⟨P, 0, none⟩), .int .i64 j.ten] ((w.alloc (.cells #[.int .i64 j.ten, .string j.name, .int .i64 j.cost] 34)).drewN n) fun e w' => e = .returned (.int .i64 (jat r.jobs (fun x => decide ((x.ten : Int) = (j.ten : Int))))) ∧ ∃ m, w' = (w.alloc (.cells #[.int .i64 j.ten, .string j.name, .int .i64 j.cost] 34)).drewN m) := fun n => by
    have := First_any P j.ten jv r.jobs ((w.alloc (.cells #[.int .i64 j.ten, .string j.name, .int .i64 j.cost] 34)).drewN n) (by exact c4) (h1.jobs.readJ.drewN n) (by omega)
    exact this.mono fun e w' ⟨a, m, b⟩ => ⟨a, n + m, by rw [b]; simp⟩
  have c1 := h1.c 1 tv rfl
  have c2 := h1.c 2 cv rfl
  rw [hjv] at c4
  have hl4 : ¬ (r.jobs.length : Int) = 200 := by omega
  have H1 : Hid (RS B P tv cv jv (w.alloc (.cells #[.int .i64 j.ten, .string j.name, .int .i64 j.cost] 34)) r ∧ Below w.heap.size w (w.alloc (.cells #[.int .i64 j.ten, .string j.name, .int .i64 j.cost] 34)) ∧ P < w.heap.size) := ⟨h1, hb0, (h.lt P List.mem_cons_self).2⟩
  generalize jat r.jobs (fun x => decide ((x.ten : Int) = (j.ten : Int))) = z at *
  have y8 : ¬ z < 0 := by omega
  clear h h1 hb0 l0 y5 y6 y7 hP
  go_enter Try.func11, Try.ntmps11
  go_wp2_with fail
  refine (HNm.out _).mono ?_
  rintro e w1 ⟨rfl, rfl⟩
  generalize hw0 : w.alloc (.cells #[.int .i64 j.ten, .string j.name, .int .i64 j.cost] 34) = w0 at *
  generalize hJ0 : w.heap.size = J at *
  go_wp2_with fail
  refine (HJ.out 0).mono ?_
  rintro e w1 ⟨rfl, m1, rfl⟩
  go_wp2_with fail
  refine (HF.out m1).mono ?_
  rintro e w1 ⟨rfl, m2, rfl⟩
  have hW : RS B P tv cv jv (w0.drewN m2) r := H1.out.1.keep fun _ _ => rfl
  have hUp : Upd (rids P tv cv jv) (rids P tv cv jv) w (w0.drewN m2) := (Upd.of_below (by rw [hJ0]; exact H1.out.2.1)).drewN m2
  have j0 : (w0.drewN m2).cell? ⟨J, 0, none⟩ = some (.int .i64 j.ten) := e0
  have j1 : (w0.drewN m2).cell? ⟨J, 1, none⟩ = some (.string j.name) := e1
  have j2 : (w0.drewN m2).cell? ⟨J, 2, none⟩ = some (.int .i64 j.cost) := e2
  clear e0 e1 e2 c1 c2 c4 HJ HF HNm H1 hz0
  generalize w0.drewN m2 = W at *
  have c4 := hW.c 4 jv rfl
  have b1 : P < W.heap.size := (hW.lt P List.mem_cons_self).2
  have b4 : J < W.heap.size := World.block_lt_of_cell? W _ j0
  have n1 : ¬ P = W.heap.size := by omega
  have n4 : ¬ J = W.heap.size := by omega
  have hRow : RowL ((W.alloc (.cells #[.int .i64 j.ten, .string j.name, .int .i64 j.cost] 34)).drew) B 34 3 jv r.jobs.length (jcs r.jobs) := hW.jobs.keep fun g hg => heap_al W _ g (hW.jobs.lt g hg).2
  have q4 : ((W.alloc (.cells #[.int .i64 j.ten, .string j.name, .int .i64 j.cost] 34)).drew).heap.size = W.heap.size + 1 := by show (W.alloc _).heap.size = _; rw [World.size_alloc]
  have hBl : B ≤ ((W.alloc (.cells #[.int .i64 j.ten, .string j.name, .int .i64 j.cost] 34)).drew).heap.size := by have := hW.lo; omega
  obtain ⟨i0, hi, hz0, hz1, hz2⟩ := info_p infJ
  obtain ⟨g', cap', w1, hrun, hown1, hgrow, hat⟩ := hRow.app (P := Try.prog) 30 30 i0 (.agg #[.int .i64 0, .string ⟨#[]⟩, .int .i64 0]) 32 Try.underlying30 hi hz0 hz1 hz2 rfl (by decide) ⟨W.heap.size, 0, none⟩ 1 1 (jc j) rfl (new_job W j) (jc_one j) (by decide) (by unfold maxLen; omega) (by omega) hBl
  obtain ⟨r1, r2, r3, r4⟩ := hW.jobsApp j _ hown1 hgrow (by rw [q4] at hat; exact hat)
  have hap : (appS #[30, 30] 30 #[jv, .slice (some ⟨W.heap.size, 0, none⟩) 1 1]).run Try.prog ((W.alloc (.cells #[.int .i64 j.ten, .string j.name, .int .i64 j.cost] 34)).drew) = .ok (.slice (some ⟨g', 0, none⟩) (r.jobs.length + 1) cap') w1 := hrun
  have HE : Hid (RS B P tv cv (.slice (some ⟨g', 0, none⟩) (r.jobs.length + 1) cap') (w1.setCell ⟨P, 4, none⟩ (.slice (some ⟨g', 0, none⟩) (r.jobs.length + 1) cap')) { r with jobs := r.jobs ++ [j] } ∧ Upd (rids P tv cv jv) (rids P tv cv (.slice (some ⟨g', 0, none⟩) (r.jobs.length + 1) cap')) w (w1.setCell ⟨P, 4, none⟩ (.slice (some ⟨g', 0, none⟩) (r.jobs.length + 1) cap'))) := ⟨r3, hUp.trans r4⟩
  have c5 : (W.alloc (.cells #[.int .i64 j.ten, .string j.name, .int .i64 j.cost] 34)).cell? ⟨P, 4, none⟩ = some jv := (World.cell?_alloc_past _ _ _ b1).trans c4
  rw [hjv] at c4 hap r1 c5
  clear hW hUp hRow q4 hBl hi hz0 hz1 hz2 hrun hown1 hgrow hat r3 r4 b1 b4 hw0 hJ0 hjv hs
  go_wp2
  go_region
  all_goals
    go_wp2
    go_ret
    exact ⟨rfl, _, HE.out⟩
end Go.Proofs.Ytfddhdpnoliamaa
