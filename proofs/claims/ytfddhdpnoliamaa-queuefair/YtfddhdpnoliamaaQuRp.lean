/- The document's ring: a job is put to a tenant that is not there, walked. -/
import Derived.Test.YtfddhdpnoliamaaQuRn
namespace Go.Proofs.Ytfddhdpnoliamaa
open Go.RowKit Go.Shelf
attribute [local go_sem ↓] appS_eq

set_option maxHeartbeats 8000000 in
set_option maxRecDepth 100000 in
theorem rPut_new {B P : Nat} {tv cv jv : Value} {w : World} {r : Rg} (h : RS B P tv cv jv w r) (j : Jb) (hs : j.name.size ≤ maxLen) (hn : r.jobs.length < 200) (ht : r.tens.length ≤ 1000) (hc : r.creds.length = r.tens.length)
    (y1 : ¬ (j.ten : Int) < 1) (y2 : ¬ 20 < (j.ten : Int)) (y3 : ¬ (j.cost : Int) < 1) (y4 : ¬ 1000 < (j.cost : Int)) (y5 : nameOk j.name = true) (y6 : jat r.jobs (fun x => eqN x.name j.name) = -1) (y7 : jat r.jobs (fun x => decide ((x.ten : Int) = (j.ten : Int))) = -1) :
    Calls Try.prog 11 #[.pointer (some ⟨P, 0, none⟩), .agg #[.int .i64 j.ten, .string j.name, .int .i64 j.cost]] w fun e w' => e = .returned (.int .i64 0) ∧ ∃ tv' cv' jv', RS B P tv' cv' jv' w' { r with tens := r.tens ++ [j.ten], creds := r.creds ++ [0], jobs := r.jobs ++ [j] } ∧ Upd (rids P tv cv jv) (rids P tv' cv' jv') w w' := by
  have l0 := heap_alloc_new w (.cells #[.int .i64 j.ten, .string j.name, .int .i64 j.cost] 34)
  have hz0 : (w.alloc (.cells #[.int .i64 j.ten, .string j.name, .int .i64 j.cost] 34)).heap.size = w.heap.size + 1 := World.size_alloc _ _
  have hb0 : Below w.heap.size w (w.alloc (.cells #[.int .i64 j.ten, .string j.name, .int .i64 j.cost] 34)) := (Below.refl _ w).alloc (Nat.le_refl _) _
  have h1 := h.up hb0
  have e0 : (w.alloc (.cells #[.int .i64 j.ten, .string j.name, .int .i64 j.cost] 34)).cell? ⟨w.heap.size, 0, none⟩ = some (.int .i64 j.ten) := by rw [Lib.cell_of_heap l0]; rfl
  have e1 : (w.alloc (.cells #[.int .i64 j.ten, .string j.name, .int .i64 j.cost] 34)).cell? ⟨w.heap.size, 1, none⟩ = some (.string j.name) := by rw [Lib.cell_of_heap l0]; rfl
  have e2 : (w.alloc (.cells #[.int .i64 j.ten, .string j.name, .int .i64 j.cost] 34)).cell? ⟨w.heap.size, 2, none⟩ = some (.int .i64 j.cost) := by rw [Lib.cell_of_heap l0]; rfl
  have hP := (h1.lt P List.mem_cons_self).2
  have HNm : Hid (∀ W, Calls Try.prog 28 #[.string j.name] W fun e w' => e = .returned (.bool true) ∧ w' = W) := fun W => by
    have := RIsName_any j.name W hs
    rwa [y5] at this
  obtain ⟨ao, cap, hjv⟩ := h1.jobs.shape
  have c4 := h1.c 4 jv rfl
  have HJ : Hid (∀ n, Calls Try.prog 29 #[.pointer (some ⟨P, 0, none⟩), .string j.name] ((w.alloc (.cells #[.int .i64 j.ten, .string j.name, .int .i64 j.cost] 34)).drewN n) fun e w' => e = .returned (.int .i64 (-1)) ∧ ∃ m, w' = (w.alloc (.cells #[.int .i64 j.ten, .string j.name, .int .i64 j.cost] 34)).drewN m) := fun n => by
    have := JobAt_any P j.name jv r.jobs ((w.alloc (.cells #[.int .i64 j.ten, .string j.name, .int .i64 j.cost] 34)).drewN n) (by exact c4) (h1.jobs.readJ.drewN n) (by omega)
    rw [y6] at this
    exact this.mono fun e w' ⟨a, m, b⟩ => ⟨a, n + m, by rw [b]; simp⟩
  have HF : Hid (∀ n, Calls Try.prog 30 #[.pointer (some ⟨P, 0, none⟩), .int .i64 j.ten] ((w.alloc (.cells #[.int .i64 j.ten, .string j.name, .int .i64 j.cost] 34)).drewN n) fun e w' => e = .returned (.int .i64 (-1)) ∧ ∃ m, w' = (w.alloc (.cells #[.int .i64 j.ten, .string j.name, .int .i64 j.cost] 34)).drewN m) := fun n => by
    have := First_any P j.ten jv r.jobs ((w.alloc (.cells #[.int .i64 j.ten, .string j.name, .int .i64 j.cost] 34)).drewN n) (by exact c4) (h1.jobs.readJ.drewN n) (by omega)
    rw [y7] at this
    exact this.mono fun e w' ⟨a, m, b⟩ => ⟨a, n + m, by rw [b]; simp⟩
  have c1 := h1.c 1 tv rfl
  have c2 := h1.c 2 cv rfl
  rw [hjv] at c4
  have hl4 : ¬ (r.jobs.length : Int) = 200 := by omega
  have HJb : Hid ((w.alloc (.cells #[.int .i64 j.ten, .string j.name, .int .i64 j.cost] 34)).heap[w.heap.size]? = some (.cells #[.int .i64 j.ten, .string j.name, .int .i64 j.cost] 34 (0, 0))) := l0
  have HJn : Hid (¬ w.heap.size ∈ rids P tv cv jv) := fun e => by have := (h.lt _ e).2; omega
  have H1 : Hid (RS B P tv cv jv (w.alloc (.cells #[.int .i64 j.ten, .string j.name, .int .i64 j.cost] 34)) r ∧ Below w.heap.size w (w.alloc (.cells #[.int .i64 j.ten, .string j.name, .int .i64 j.cost] 34)) ∧ P < w.heap.size) := ⟨h1, hb0, (h.lt P List.mem_cons_self).2⟩
  clear h h1 hb0 l0 y5 y6 y7 hP
  go_enter Try.func11, Try.ntmps11
  go_wp2_with fail
  refine (HNm.out _).mono ?_
  rintro e w1 ⟨rfl, rfl⟩
  generalize hw0 : w.alloc (.cells #[.int .i64 j.ten, .string j.name, .int .i64 j.cost] 34) = w0 at *
  generalize hJ0 : w.heap.size = J at *
  go_wp2_with fail
  refine (HJ.out 0).mono ?_
  rintro e w1 ⟨rfl, m1, rfl⟩
  go_wp2_with fail
  refine (HF.out m1).mono ?_
  rintro e w1 ⟨rfl, m2, rfl⟩
  have hW : RS B P tv cv jv (w0.drewN m2) r := H1.out.1.keep fun _ _ => rfl
  have hUp : Upd (rids P tv cv jv) (rids P tv cv jv) w (w0.drewN m2) := (Upd.of_below (by rw [hJ0]; exact H1.out.2.1)).drewN m2
  have j0 : (w0.drewN m2).cell? ⟨J, 0, none⟩ = some (.int .i64 j.ten) := e0
  have HJw : Hid (J < (w0.drewN m2).heap.size ∧ (w0.drewN m2).heap[J]? = some (.cells #[.int .i64 j.ten, .string j.name, .int .i64 j.cost] 34 (0, 0)) ∧ ¬ J ∈ rids P tv cv jv) := ⟨World.block_lt_of_cell? _ _ j0, HJb.out, HJn.out⟩
  clear e0 e1 e2 c1 c2 c4 HJ HF HNm H1 hz0
  generalize w0.drewN m2 = W at *
  have c1 := hW.c 1 tv rfl
  have c2 := hW.c 2 cv rfl
  have b1 : P < W.heap.size := (hW.lt P List.mem_cons_self).2
  have b4 : J < W.heap.size := World.block_lt_of_cell? W _ j0
  have z1 : (W.alloc (.cells #[.int .i64 (j.ten : Int)] 3)).heap.size = W.heap.size + 1 := World.size_alloc _ _
  have z2 : (W.alloc (.cells #[.int .i64 0] 3)).heap.size = W.heap.size + 1 := World.size_alloc _ _
  have z12 : ((W.alloc (.cells #[.int .i64 (j.ten : Int)] 3)).alloc (.cells #[.int .i64 0] 3)).heap.size = W.heap.size + 2 := by rw [World.size_alloc, z1]
  have z21 : ((W.alloc (.cells #[.int .i64 0] 3)).alloc (.cells #[.int .i64 (j.ten : Int)] 3)).heap.size = W.heap.size + 2 := by rw [World.size_alloc, z2]
  have k1 : Below W.heap.size W (W.alloc (.cells #[.int .i64 (j.ten : Int)] 3)) := (Below.refl _ W).alloc (Nat.le_refl _) _
  have k2 : Below W.heap.size W (W.alloc (.cells #[.int .i64 0] 3)) := (Below.refl _ W).alloc (Nat.le_refl _) _
  have k12 : Below W.heap.size W ((W.alloc (.cells #[.int .i64 (j.ten : Int)] 3)).alloc (.cells #[.int .i64 0] 3)) := k1.alloc (by omega) _
  have k21 : Below W.heap.size W ((W.alloc (.cells #[.int .i64 0] 3)).alloc (.cells #[.int .i64 (j.ten : Int)] 3)) := k2.alloc (by omega) _
  have p11 := (k1.cell (p := ⟨P, 1, none⟩) b1).trans c1
  have p12 := (k2.cell (p := ⟨P, 1, none⟩) b1).trans c1
  have p13 := (k12.cell (p := ⟨P, 1, none⟩) b1).trans c1
  have p14 := (k21.cell (p := ⟨P, 1, none⟩) b1).trans c1
  have p21 := (k1.cell (p := ⟨P, 2, none⟩) b1).trans c2
  have p22 := (k2.cell (p := ⟨P, 2, none⟩) b1).trans c2
  have p23 := (k12.cell (p := ⟨P, 2, none⟩) b1).trans c2
  have p24 := (k21.cell (p := ⟨P, 2, none⟩) b1).trans c2
  have q01 := (k2.cell (p := ⟨J, 0, none⟩) b4).trans j0
  obtain ⟨ga, ca, wa, ra, sa, ta, _, fa⟩ := hW.two ht (by omega) j.ten (X := (W.alloc (.cells #[.int .i64 (j.ten : Int)] 3)).drew) k1.drew ⟨W.heap.size, 0, none⟩ (by rw [add0]; exact al_at W _ _ _ 0 _ rfl rfl)
  obtain ⟨gb, cb, wb, rb, sb, tb, ub, fb⟩ := hW.two ht (by omega) j.ten (X := ((W.alloc (.cells #[.int .i64 (j.ten : Int)] 3)).alloc (.cells #[.int .i64 0] 3)).drew) k12.drew ⟨W.heap.size, 0, none⟩ (by rw [add0]; exact (((Below.refl (W.alloc (.cells #[.int .i64 (j.ten : Int)] 3)).heap.size (W.alloc (.cells #[.int .i64 (j.ten : Int)] 3))).alloc (Nat.le_refl _) _).cell (p := ⟨W.heap.size, 0, none⟩) (by show W.heap.size < _; omega)).trans (al_at W _ _ _ 0 _ rfl rfl))
  obtain ⟨gc, cc, wc, rc, sc, tc', uc, fc⟩ := hW.two ht (by omega) j.ten (X := ((W.alloc (.cells #[.int .i64 0] 3)).alloc (.cells #[.int .i64 (j.ten : Int)] 3)).drew) k21.drew ⟨W.heap.size + 1, 0, none⟩ (by rw [add0]; exact al_at _ _ _ _ 0 _ z2.symm rfl)
  have za : (wa.alloc (.cells #[.int .i64 0] 3)).heap.size = wa.heap.size + 1 := World.size_alloc _ _
  have sa2 : (wa.alloc (.cells #[.int .i64 0] 3)).cell? ⟨P, 2, none⟩ = some cv := (World.cell?_alloc_past _ _ _ ta).trans sa
  obtain ⟨ga2, ca2, xa, ra2, oa1, oa2, oa3, oa4, oa5, oa6⟩ := fa (Y := wa.alloc (.cells #[.int .i64 0] 3)) ((Below.refl _ wa).alloc (Nat.le_refl _) _) ⟨wa.heap.size, 0, none⟩ (by rw [add0]; exact al_at wa _ _ _ 0 _ rfl rfl)
  obtain ⟨gb2, cb2, xb, rb2, ob1, ob2, ob3, ob4, ob5, ob6⟩ := fb (Y := wb) (Below.refl _ wb) ⟨W.heap.size + 1, 0, none⟩ (by rw [add0, ub ⟨W.heap.size + 1, 0, none⟩ (by show W.heap.size + 1 < ((W.alloc (.cells #[.int .i64 (j.ten : Int)] 3)).alloc (.cells #[.int .i64 0] 3)).heap.size; omega) (by show W.heap.size ≤ W.heap.size + 1; omega)]; exact al_at _ _ _ _ 0 _ z1.symm rfl)
  obtain ⟨gc2, cc2, xc, rc2, oc1, oc2, oc3, oc4, oc5, oc6⟩ := fc (Y := wc) (Below.refl _ wc) ⟨W.heap.size, 0, none⟩ (by rw [add0, uc ⟨W.heap.size, 0, none⟩ (by show W.heap.size < ((W.alloc (.cells #[.int .i64 0] 3)).alloc (.cells #[.int .i64 (j.ten : Int)] 3)).heap.size; omega) (by show W.heap.size ≤ W.heap.size; omega)]; exact (((Below.refl (W.alloc (.cells #[.int .i64 0] 3)).heap.size (W.alloc (.cells #[.int .i64 0] 3))).alloc (Nat.le_refl _) _).cell (p := ⟨W.heap.size, 0, none⟩) (by show W.heap.size < _; omega)).trans (al_at W _ _ _ 0 _ rfl rfl))
  obtain ⟨aot, capt, htv⟩ := hW.tens.shape
  obtain ⟨aoc, capc, hcv⟩ := hW.creds.shape
  rw [htv] at ra rb rc
  rw [hcv] at ra2 rb2 rc2
  have HA : Hid (_ ∧ _) := ⟨oa5, oa6⟩
  have HB : Hid (_ ∧ _) := ⟨ob5, ob6⟩
  have HC : Hid (_ ∧ _) := ⟨oc5, oc6⟩
  have HW : Hid (RS B P tv cv jv W r ∧ Upd (rids P tv cv jv) (rids P tv cv jv) w W) := ⟨hW, hUp⟩
  clear hc fa fb fc ub uc oa5 oa6 ob5 ob6 oc5 oc6 hW hUp k1 k2 k12 k21 b1 b4 ta tb tc' hw0 hJ0 hs z12 z21
  go_wp2
  go_region
  · obtain ⟨hR, hU⟩ := HA.out
    have hJw := (hU.block J HJw.out.1 HJw.out.2.2).trans HJw.out.2.1
    have hUw := HW.out.2.trans hU
    clear hU HJw HW HA HB HC
    generalize ((xa.setCell ⟨P, 1, none⟩ (Value.slice (some ⟨ga, 0, none⟩) (r.tens.length + 1) ca)).setCell ⟨P, 2, none⟩ (Value.slice (some ⟨ga2, 0, none⟩) (r.creds.length + 1) ca2)) = W2 at *
    generalize (Value.slice (some ⟨ga, 0, none⟩) (r.tens.length + 1) ca) = tv2 at *
    generalize (Value.slice (some ⟨ga2, 0, none⟩) (r.creds.length + 1) ca2) = cv2 at *
    have j0 : W2.cell? ⟨J, 0, none⟩ = some (.int .i64 j.ten) := by rw [Lib.cell_of_heap hJw]; rfl
    have j1 : W2.cell? ⟨J, 1, none⟩ = some (.string j.name) := by rw [Lib.cell_of_heap hJw]; rfl
    have j2 : W2.cell? ⟨J, 2, none⟩ = some (.int .i64 j.cost) := by rw [Lib.cell_of_heap hJw]; rfl
    have c4 : W2.cell? ⟨P, 4, none⟩ = some jv := hR.c 4 jv rfl
    have b1 : P < W2.heap.size := (hR.lt P List.mem_cons_self).2
    have b4 : J < W2.heap.size := World.block_lt_of_cell? W2 _ j0
    have n1 : ¬ P = W2.heap.size := by omega
    have n4 : ¬ J = W2.heap.size := by omega
    have hRow : RowL ((W2.alloc (.cells #[.int .i64 j.ten, .string j.name, .int .i64 j.cost] 34)).drew) B 34 3 jv r.jobs.length (jcs r.jobs) := hR.jobs.keep fun g hg => heap_al W2 _ g (hR.jobs.lt g hg).2
    have q4 : ((W2.alloc (.cells #[.int .i64 j.ten, .string j.name, .int .i64 j.cost] 34)).drew).heap.size = W2.heap.size + 1 := by show (W2.alloc _).heap.size = _; rw [World.size_alloc]
    have hBl : B ≤ ((W2.alloc (.cells #[.int .i64 j.ten, .string j.name, .int .i64 j.cost] 34)).drew).heap.size := by have := hR.lo; omega
    obtain ⟨i0, hi, hz0, hz1, hz2⟩ := info_p infJ
    obtain ⟨g', cap', w1, hrun, hown1, hgrow, hat⟩ := hRow.app (P := Try.prog) 30 30 i0 (.agg #[.int .i64 0, .string ⟨#[]⟩, .int .i64 0]) 32 Try.underlying30 hi hz0 hz1 hz2 rfl (by decide) ⟨W2.heap.size, 0, none⟩ 1 1 (jc j) rfl (new_job W2 j) (jc_one j) (by decide) (by unfold maxLen; omega) (by omega) hBl
    obtain ⟨r1, r2, r3, r4⟩ := hR.jobsApp j _ hown1 hgrow (by rw [q4] at hat; exact hat)
    have hap : (appS #[30, 30] 30 #[jv, .slice (some ⟨W2.heap.size, 0, none⟩) 1 1]).run Try.prog ((W2.alloc (.cells #[.int .i64 j.ten, .string j.name, .int .i64 j.cost] 34)).drew) = .ok (.slice (some ⟨g', 0, none⟩) (r.jobs.length + 1) cap') w1 := hrun
    have HE : Hid (RS B P tv2 cv2 (.slice (some ⟨g', 0, none⟩) (r.jobs.length + 1) cap') (w1.setCell ⟨P, 4, none⟩ (.slice (some ⟨g', 0, none⟩) (r.jobs.length + 1) cap')) { r with tens := r.tens ++ [j.ten], creds := r.creds ++ [0], jobs := r.jobs ++ [j] } ∧ Upd (rids P tv cv jv) (rids P tv2 cv2 (.slice (some ⟨g', 0, none⟩) (r.jobs.length + 1) cap')) w (w1.setCell ⟨P, 4, none⟩ (.slice (some ⟨g', 0, none⟩) (r.jobs.length + 1) cap'))) := ⟨r3, hUw.trans r4⟩
    have c5 : (W2.alloc (.cells #[.int .i64 j.ten, .string j.name, .int .i64 j.cost] 34)).cell? ⟨P, 4, none⟩ = some jv := (World.cell?_alloc_past _ _ _ b1).trans c4
    have r1' : w1.cell? ⟨P, 4, none⟩ = some jv := r1
    have r2' : w1.frozen? ⟨P, 4, none⟩ = false := r2
    rw [hjv] at c4 hap r1' c5
    clear hR hUw hRow q4 hBl hi hz0 hz1 hz2 hrun hown1 hgrow hat r1 r2 r3 r4 b1 b4 hjv hJw
    go_wp2
    go_region
    all_goals
      go_wp2
      go_ret
      exact ⟨rfl, _, _, _, HE.out⟩
  · obtain ⟨hR, hU⟩ := HB.out
    have hJw := (hU.block J HJw.out.1 HJw.out.2.2).trans HJw.out.2.1
    have hUw := HW.out.2.trans hU
    clear hU HJw HW HA HB HC
    generalize ((xb.setCell ⟨P, 1, none⟩ (Value.slice (some ⟨gb, 0, none⟩) (r.tens.length + 1) cb)).setCell ⟨P, 2, none⟩ (Value.slice (some ⟨gb2, 0, none⟩) (r.creds.length + 1) cb2)) = W2 at *
    generalize (Value.slice (some ⟨gb, 0, none⟩) (r.tens.length + 1) cb) = tv2 at *
    generalize (Value.slice (some ⟨gb2, 0, none⟩) (r.creds.length + 1) cb2) = cv2 at *
    have j0 : W2.cell? ⟨J, 0, none⟩ = some (.int .i64 j.ten) := by rw [Lib.cell_of_heap hJw]; rfl
    have j1 : W2.cell? ⟨J, 1, none⟩ = some (.string j.name) := by rw [Lib.cell_of_heap hJw]; rfl
    have j2 : W2.cell? ⟨J, 2, none⟩ = some (.int .i64 j.cost) := by rw [Lib.cell_of_heap hJw]; rfl
    have c4 : W2.cell? ⟨P, 4, none⟩ = some jv := hR.c 4 jv rfl
    have b1 : P < W2.heap.size := (hR.lt P List.mem_cons_self).2
    have b4 : J < W2.heap.size := World.block_lt_of_cell? W2 _ j0
    have n1 : ¬ P = W2.heap.size := by omega
    have n4 : ¬ J = W2.heap.size := by omega
    have hRow : RowL ((W2.alloc (.cells #[.int .i64 j.ten, .string j.name, .int .i64 j.cost] 34)).drew) B 34 3 jv r.jobs.length (jcs r.jobs) := hR.jobs.keep fun g hg => heap_al W2 _ g (hR.jobs.lt g hg).2
    have q4 : ((W2.alloc (.cells #[.int .i64 j.ten, .string j.name, .int .i64 j.cost] 34)).drew).heap.size = W2.heap.size + 1 := by show (W2.alloc _).heap.size = _; rw [World.size_alloc]
    have hBl : B ≤ ((W2.alloc (.cells #[.int .i64 j.ten, .string j.name, .int .i64 j.cost] 34)).drew).heap.size := by have := hR.lo; omega
    obtain ⟨i0, hi, hz0, hz1, hz2⟩ := info_p infJ
    obtain ⟨g', cap', w1, hrun, hown1, hgrow, hat⟩ := hRow.app (P := Try.prog) 30 30 i0 (.agg #[.int .i64 0, .string ⟨#[]⟩, .int .i64 0]) 32 Try.underlying30 hi hz0 hz1 hz2 rfl (by decide) ⟨W2.heap.size, 0, none⟩ 1 1 (jc j) rfl (new_job W2 j) (jc_one j) (by decide) (by unfold maxLen; omega) (by omega) hBl
    obtain ⟨r1, r2, r3, r4⟩ := hR.jobsApp j _ hown1 hgrow (by rw [q4] at hat; exact hat)
    have hap : (appS #[30, 30] 30 #[jv, .slice (some ⟨W2.heap.size, 0, none⟩) 1 1]).run Try.prog ((W2.alloc (.cells #[.int .i64 j.ten, .string j.name, .int .i64 j.cost] 34)).drew) = .ok (.slice (some ⟨g', 0, none⟩) (r.jobs.length + 1) cap') w1 := hrun
    have HE : Hid (RS B P tv2 cv2 (.slice (some ⟨g', 0, none⟩) (r.jobs.length + 1) cap') (w1.setCell ⟨P, 4, none⟩ (.slice (some ⟨g', 0, none⟩) (r.jobs.length + 1) cap')) { r with tens := r.tens ++ [j.ten], creds := r.creds ++ [0], jobs := r.jobs ++ [j] } ∧ Upd (rids P tv cv jv) (rids P tv2 cv2 (.slice (some ⟨g', 0, none⟩) (r.jobs.length + 1) cap')) w (w1.setCell ⟨P, 4, none⟩ (.slice (some ⟨g', 0, none⟩) (r.jobs.length + 1) cap'))) := ⟨r3, hUw.trans r4⟩
    have c5 : (W2.alloc (.cells #[.int .i64 j.ten, .string j.name, .int .i64 j.cost] 34)).cell? ⟨P, 4, none⟩ = some jv := (World.cell?_alloc_past _ _ _ b1).trans c4
    have r1' : w1.cell? ⟨P, 4, none⟩ = some jv := r1
    have r2' : w1.frozen? ⟨P, 4, none⟩ = false := r2
    rw [hjv] at c4 hap r1' c5
    clear hR hUw hRow q4 hBl hi hz0 hz1 hz2 hrun hown1 hgrow hat r1 r2 r3 r4 b1 b4 hjv hJw
    go_wp2
    go_region
    all_goals
      go_wp2
      go_ret
      exact ⟨rfl, _, _, _, HE.out⟩
  · obtain ⟨hR, hU⟩ := HC.out
    have hJw := (hU.block J HJw.out.1 HJw.out.2.2).trans HJw.out.2.1
    have hUw := HW.out.2.trans hU
    clear hU HJw HW HA HB HC
    generalize ((xc.setCell ⟨P, 1, none⟩ (Value.slice (some ⟨gc, 0, none⟩) (r.tens.length + 1) cc)).setCell ⟨P, 2, none⟩ (Value.slice (some ⟨gc2, 0, none⟩) (r.creds.length + 1) cc2)) = W2 at *
    generalize (Value.slice (some ⟨gc, 0, none⟩) (r.tens.length + 1) cc) = tv2 at *
    generalize (Value.slice (some ⟨gc2, 0, none⟩) (r.creds.length + 1) cc2) = cv2 at *
    have j0 : W2.cell? ⟨J, 0, none⟩ = some (.int .i64 j.ten) := by rw [Lib.cell_of_heap hJw]; rfl
    have j1 : W2.cell? ⟨J, 1, none⟩ = some (.string j.name) := by rw [Lib.cell_of_heap hJw]; rfl
    have j2 : W2.cell? ⟨J, 2, none⟩ = some (.int .i64 j.cost) := by rw [Lib.cell_of_heap hJw]; rfl
    have c4 : W2.cell? ⟨P, 4, none⟩ = some jv := hR.c 4 jv rfl
    have b1 : P < W2.heap.size := (hR.lt P List.mem_cons_self).2
    have b4 : J < W2.heap.size := World.block_lt_of_cell? W2 _ j0
    have n1 : ¬ P = W2.heap.size := by omega
    have n4 : ¬ J = W2.heap.size := by omega
    have hRow : RowL ((W2.alloc (.cells #[.int .i64 j.ten, .string j.name, .int .i64 j.cost] 34)).drew) B 34 3 jv r.jobs.length (jcs r.jobs) := hR.jobs.keep fun g hg => heap_al W2 _ g (hR.jobs.lt g hg).2
    have q4 : ((W2.alloc (.cells #[.int .i64 j.ten, .string j.name, .int .i64 j.cost] 34)).drew).heap.size = W2.heap.size + 1 := by show (W2.alloc _).heap.size = _; rw [World.size_alloc]
    have hBl : B ≤ ((W2.alloc (.cells #[.int .i64 j.ten, .string j.name, .int .i64 j.cost] 34)).drew).heap.size := by have := hR.lo; omega
    obtain ⟨i0, hi, hz0, hz1, hz2⟩ := info_p infJ
    obtain ⟨g', cap', w1, hrun, hown1, hgrow, hat⟩ := hRow.app (P := Try.prog) 30 30 i0 (.agg #[.int .i64 0, .string ⟨#[]⟩, .int .i64 0]) 32 Try.underlying30 hi hz0 hz1 hz2 rfl (by decide) ⟨W2.heap.size, 0, none⟩ 1 1 (jc j) rfl (new_job W2 j) (jc_one j) (by decide) (by unfold maxLen; omega) (by omega) hBl
    obtain ⟨r1, r2, r3, r4⟩ := hR.jobsApp j _ hown1 hgrow (by rw [q4] at hat; exact hat)
    have hap : (appS #[30, 30] 30 #[jv, .slice (some ⟨W2.heap.size, 0, none⟩) 1 1]).run Try.prog ((W2.alloc (.cells #[.int .i64 j.ten, .string j.name, .int .i64 j.cost] 34)).drew) = .ok (.slice (some ⟨g', 0, none⟩) (r.jobs.length + 1) cap') w1 := hrun
    have HE : Hid (RS B P tv2 cv2 (.slice (some ⟨g', 0, none⟩) (r.jobs.length + 1) cap') (w1.setCell ⟨P, 4, none⟩ (.slice (some ⟨g', 0, none⟩) (r.jobs.length + 1) cap')) { r with tens := r.tens ++ [j.ten], creds := r.creds ++ [0], jobs := r.jobs ++ [j] } ∧ Upd (rids P tv cv jv) (rids P tv2 cv2 (.slice (some ⟨g', 0, none⟩) (r.jobs.length + 1) cap')) w (w1.setCell ⟨P, 4, none⟩ (.slice (some ⟨g', 0, none⟩) (r.jobs.length + 1) cap'))) := ⟨r3, hUw.trans r4⟩
    have c5 : (W2.alloc (.cells #[.int .i64 j.ten, .string j.name, .int .i64 j.cost] 34)).cell? ⟨P, 4, none⟩ = some jv := (World.cell?_alloc_past _ _ _ b1).trans c4
    have r1' : w1.cell? ⟨P, 4, none⟩ = some jv := r1
    have r2' : w1.frozen? ⟨P, 4, none⟩ = false := r2
    rw [hjv] at c4 hap r1' c5
    clear hR hUw hRow q4 hBl hi hz0 hz1 hz2 hrun hown1 hgrow hat r1 r2 r3 r4 b1 b4 hjv hJw
    go_wp2
    go_region
    all_goals
      go_wp2
      go_ret
      exact ⟨rfl, _, _, _, HE.out⟩
end Go.Proofs.Ytfddhdpnoliamaa
