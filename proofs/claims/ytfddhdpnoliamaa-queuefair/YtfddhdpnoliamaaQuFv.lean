/- QueueFair in memory, while jobs are put. -/
import Derived.Test.YtfddhdpnoliamaaQuFq
import Derived.Deep.OwnRows
namespace Go.Proofs.Ytfddhdpnoliamaa
open Go.RowKit Go.Shelf

theorem infN : (Try.prog.info? 43).map (fun i => (i.zero, i.size, i.bytes)) = some (some (.slice none 0 0), 1, 24) := by kernel_rfl

/-- All of it, while jobs are put. -/
def BS (P mn n : Nat) (C : List (List Int)) (nmv : Value) (w1 W : World) (t k D na : Nat) (av : Value) : Prop := ∃ rv cs q nvs, QS w1.heap.size P rv cs W q ∧ BP q C t k D na ∧ q.qm = mn ∧ nvs.length = n ∧ FM w1.heap.size W nmv nvs (NL C n t k) av na ∧ (∀ g ∈ ids P rv cs, g ∉ fids nmv nvs av) ∧ Below w1.heap.size w1 W

theorem BS.first {P mn n : Nat} {C : List (List Int)} {w1 w2 : World} (hq : QS w1.heap.size P (.slice none 0 0) [] w2 ⟨mn, [], false⟩) (hb : Below w1.heap.size w1 w2) (hB : BP ⟨mn, [], false⟩ C 0 0 0 0) (hn : n ≤ 5) : BS P mn n C (.slice (some ⟨w2.heap.size, 0, none⟩) n n) w1 (w2.alloc (.cells (madeCells #[.slice none 0 0] n) 43)) 0 0 0 0 (.slice none 0 0) := by
  have hba : Below w2.heap.size w2 (w2.alloc (.cells (madeCells #[.slice none 0 0] n) 43)) := (Below.refl _ w2).alloc (Nat.le_refl _) _
  have hlo := hb.size
  have hrep : ∀ t (h : t < (List.replicate n (Value.slice none 0 0)).length), (List.replicate n (Value.slice none 0 0))[t] = .slice none 0 0 := fun t h => List.getElem_replicate h
  have hob : (List.replicate n (Value.slice none 0 0)).flatMap ob = [] := by
    rw [List.flatMap_eq_nil_iff]
    intro v hv
    rw [(List.mem_replicate.1 hv).2]
    rfl
  refine ⟨_, _, _, List.replicate n (.slice none 0 0), hq.up hba, hB, rfl, by simp, ⟨?_, by rw [NL_len]; simp, ?_, ⟨[], World.ownsRow_nil _ _ _ _⟩, ?_⟩, ?_, hb.trans (hba.mono hlo)⟩
  · refine ⟨by simp, .inr ⟨w2.heap.size, n, madeCells #[.slice none 0 0] n, by simp, hlo, heap_alloc_new w2 _, by simp, by unfold maxLen; omega, by rw [size_madeCells, Nat.mul_one], ?_⟩⟩
    rw [toList_madeCells_one]
    simp
  · intro t h1 h2
    rw [hrep t h1]
    have e : (NL C n 0 0)[t] = [] := by
      rw [NL_len] at h2
      have := NL_at C n 0 0 t h2
      rw [List.getD_eq_getElem?_getD, List.getElem?_eq_getElem (by rw [NL_len]; exact h2)] at this
      have e3 : Lf C 0 0 (t + 1) = [] := by
        show (if t < 0 then fjs C t (Kt C t) else if t = 0 then fjs C 0 0 else []) = []
        rw [if_neg (by omega)]
        split
        · rfl
        · rfl
      rw [e3] at this
      exact this
    rw [e]
    exact World.ownsRow_nil _ _ _ _
  · unfold fids
    rw [hob]
    simp [ob, Value.ownBlock]
  · intro g hg hf
    unfold fids at hf
    rw [hob] at hf
    have e : g = w2.heap.size := by simpa [ob, Value.ownBlock] using hf
    have := (hq.lt g hg).2
    omega

/-- A job is put: the queue has it, the lists do not yet. -/
structure BQ (P mn n : Nat) (C : List (List Int)) (nmv : Value) (w1 W : World) (t k D na : Nat) (av : Value) (J : Nat) (j : Jb) (kn : Nat) (m : Nat) : Prop where
  ex : ∃ rv cs q nvs, QS w1.heap.size P rv cs W q ∧ BP q C t (k + 1) (max D j.cost) (na + 1) ∧ q.qm = mn ∧ nvs.length = n ∧ FM w1.heap.size W nmv nvs (NL C n t kn) av m ∧ (∀ g ∈ ids P rv cs, g ∉ fids nmv nvs av) ∧ Below w1.heap.size w1 W ∧ J ∉ ids P rv cs ∧ J ∉ fids nmv nvs av
  jb : W.heap[J]? = some (.cells #[.int .i64 j.ten, .string j.name, .int .i64 j.cost] 34 (0, 0))

section
variable {P mn n : Nat} {C : List (List Int)} {nmv av : Value} {w1 wr wc W : World} {t k D na J : Nat} {j : Jb}
theorem BS.put (h : BS P mn n C nmv w1 wr t k D na av) (hj : JobIn wr wc J j) (hf : fj C t k = j) (h1 : 1 ≤ j.ten) (h2 : j.ten ≤ 20) (h3 : 1 ≤ j.cost) (h4 : j.cost ≤ 1000) (hn : nameOk j.name = true) (ht : t < 5) (hk : k < 20) :
    Calls Try.prog 10 #[.pointer (some ⟨P, 0, none⟩), .agg #[.int .i64 j.ten, .string j.name, .int .i64 j.cost]] wc fun e w' => e = .returned (.int .i64 0) ∧ BQ P mn n C nmv w1 w' t k D na av J j k na := by
  obtain ⟨rv, cs, q, nvs, hq, hBP, hqm, hnv, hFM, hap, hbl⟩ := h
  have hle := hBP.le
  have hsz := hBP.sz
  have hJw : J < wc.heap.size := (Array.getElem?_eq_some_iff.1 hj.hj).1
  have hJl := hj.lo
  have hJi : J ∉ ids P rv cs := fun e => by have := (hq.lt J e).2; omega
  have hJf : J ∉ fids nmv nvs av := fun e => by have := (hFM.lt J e).2; omega
  have hwc := hj.b.size
  refine (Put_ok (hq.up hj.b) hBP.qi j h1 h2 h3 h4 hn (by rw [← hf]; exact hBP.has ht hk) (by omega)).mono ?_
  rintro e w' ⟨he, rv', cs', hq', _, hu⟩
  have hFc := hFM.up hj.b
  refine ⟨he, ⟨rv', cs', _, nvs, hq', ?_, hqm, hnv, hFc.keep (fun g hg => hu.block g (hFc.lt g hg).2 fun e => hap g e hg), fun g hg hg2 => ?_, ?_, fun e => ?_, hJf⟩, (hu.block J hJw hJi).trans hj.hj⟩
  · have := hBP.put ht hk
    rw [hf] at this
    exact this
  · rcases hu.new g hg with e | e
    · exact hap g e hg2
    · have := (hFc.lt g hg2).2; omega
  · have hlo := hbl.size
    exact (hbl.trans (hj.b.mono hlo)).trans (hu.below (fun g hg => (hq.lt g hg).1) (by omega))
  · rcases hu.new J e with e | e
    · exact hJi e
    · omega

/-- Its name is told. -/
theorem BQ.name (h : BQ P mn n C nmv w1 W t k D na av J j k na) (hf : fj C t k = j) (htn : t < n) (hk : k < 20) {Nb cap : Nat} (hv : nmv = .slice (some ⟨Nb, 0, none⟩) n cap) :
    ∃ v v' w8, (∃ a c, v = .slice a k c) ∧ (∃ a c, v' = .slice a (k + 1) c) ∧ W.cell? ⟨Nb, t, none⟩ = some v ∧ (W.alloc (.cells #[.string j.name] 9)).cell? ⟨Nb, t, none⟩ = some v ∧
      (appS #[43, 43] 43 #[v, .slice (some ⟨W.heap.size, 0, none⟩) 1 1]).run Try.prog (W.alloc (.cells #[.string j.name] 9)).drew = .ok v' w8 ∧ w8.cell? ⟨Nb, t, none⟩ = some v ∧ w8.frozen? ⟨Nb, t, none⟩ = false ∧
      ¬ Nb = W.heap.size ∧ ¬ J = W.heap.size ∧ BQ P mn n C nmv w1 (w8.setCell ⟨Nb, t, none⟩ v') t k D na av J j (k + 1) na := by
  obtain ⟨⟨rv, cs, q, nvs, hq, hBP, hqm, hnv, hFM, hap, hbl, hJi, hJf⟩, hjb⟩ := h
  have htv : t < nvs.length := by omega
  have htl : t < (NL C n t k).length := by rw [NL_len]; exact htn
  have hNL : (NL C n t k).getD t [] = (fjs C t k).map Jb.name := by rw [NL_at C n t k t htn, Lf_self]
  have e1 : (NL C n t k)[t] = (fjs C t k).map Jb.name := by rw [← hNL, List.getD_eq_getElem?_getD, List.getElem?_eq_getElem htl]; rfl
  have e2 : nvs.getD t (.slice none 0 0) = nvs[t] := by rw [List.getD_eq_getElem?_getD, List.getElem?_eq_getElem htv]; rfl
  have hkl : ((fjs C t k).map Jb.name).length = k := by rw [List.length_map, fjs_len]
  have hrow := hFM.rows t htv htl
  rw [e1, hkl] at hrow
  obtain ⟨g', cap', cur, hv', _, hblk, hcell, hfz, _, _⟩ := hFM.at_ htv
  rw [hv] at hv'
  have hgg : Nb = g' := by injection hv' with a; injection a with a; injection a
  subst hgg
  have hNl : Nb < W.heap.size := (Array.getElem?_eq_some_iff.1 hblk).1
  have hJl : J < W.heap.size := (Array.getElem?_eq_some_iff.1 hjb).1
  have hBs : w1.heap.size ≤ W.heap.size := hbl.size
  obtain ⟨i0, hi0, hz0, hz1, hz2⟩ := info_p infS
  have hzA : (W.alloc (.cells #[.string j.name] 9)).drew.heap.size = W.heap.size + 1 := by show (W.alloc _).heap.size = _; rw [World.size_alloc]
  have hrowA : (W.alloc (.cells #[.string j.name] 9)).drew.ownsRow w1.heap.size 9 1 nvs[t] k (ss ((fjs C t k).map Jb.name)) := own_heap hrow fun g hg => heap_al W _ g (hrow.lt g hg).2
  obtain ⟨g8, cap8, w8, hrun, hown, hgrow, hat, _⟩ := run_append_lies (P := Try.prog) (W.alloc (.cells #[.string j.name] 9)).drew 43 43 w1.heap.size 9 i0 (.string ⟨#[]⟩) 1 16 Try.underlying43 hi0 hz0 hz1 hz2 rfl (by decide) nvs[t] k (ss ((fjs C t k).map Jb.name)) hrowA ⟨W.heap.size, 0, none⟩ 1 1 [.string j.name] rfl (fun i u hu => by
      have hi : i = 0 := by
        have := (List.getElem?_eq_some_iff.1 hu).1
        simp at this
        exact this
      subst hi
      rw [add0]
      show (W.alloc (.cells #[.string j.name] 9)).cell? _ = _
      rw [al_at W W.heap.size #[.string j.name] 9 0 (.string j.name) rfl rfl, ← hu]
      rfl) (fun u hu => by simp at hu; subst hu; rfl) (by decide) (by unfold maxLen; omega) (by omega) (by omega) (W.heap.size + 1) hzA
  have hW8 : ∀ x : Nat, x < W.heap.size → x ∉ ob (nvs.getD t (.slice none 0 0)) → w8.heap[x]? = W.heap[x]? := fun x hx hn => by
    rw [e2] at hn
    exact (hgrow.block x (by omega) (fun e => hn (mem_ob.2 e.symm))).trans (heap_al W _ x hx)
  obtain ⟨m1, m2, m3, m4, m5⟩ := hFM.name htv j.name (v' := .slice (some ⟨g8, 0, none⟩) (k + 1) cap8) (w1 := w8) (g := Nb) (cap := cap) (by rw [hnv]; exact hv) (by rw [hNL, hkl]; exact hown) hW8 (fun x hx => by
    rw [e2]
    simp [Value.ownBlock] at hx
    subst hx
    rcases hat with a | a
    · exact .inl a
    · exact .inr (by omega))
  have hNL2 : (NL C n t k).set t ((NL C n t k).getD t [] ++ [j.name]) = NL C n t (k + 1) := by rw [← hf]; exact NL_step C n t k htn
  rw [hNL2] at m1
  refine ⟨nvs[t], .slice (some ⟨g8, 0, none⟩) (k + 1) cap8, w8, row_shape hrow, ⟨_, _, rfl⟩, hcell, (World.cell?_alloc_past _ _ _ hNl).trans hcell, hrun, m4, m5, by omega, by omega, ⟨rv, cs, q, nvs.set t (.slice (some ⟨g8, 0, none⟩) (k + 1) cap8), hq.keep (fun g hg => m2 g (hq.lt g hg).2 (hap g hg)), hBP, hqm, by rw [List.length_set]; exact hnv, m1, fun g hg hg2 => ?_, ?_, hJi, fun e => ?_⟩, (m2 J hJl hJf).trans hjb⟩
  · rcases m3 g hg2 with e | e
    · exact hap g hg e
    · have := (hq.lt g hg).2; omega
  · refine ⟨hgrow.os.trans hbl.os, hgrow.tape.trans hbl.tape, hgrow.output.trans hbl.output, ?_, fun x hx => (m2 x (by omega) (fun e => by have := (hFM.lt x e).1; omega)).trans (hbl.block x hx)⟩
    have e : (w8.setCell ⟨Nb, t, none⟩ (.slice (some ⟨g8, 0, none⟩) (k + 1) cap8)).heap.size = w8.heap.size := by simp [World.setCell]
    have := hgrow.size
    omega
  · rcases m3 J e with e | e
    · exact hJf e
    · omega

/-- And it comes behind all others. -/
theorem BQ.more (h : BQ P mn n C nmv w1 W t k D na av J j (k + 1) na) (hna : na ≤ 1000) :
    ∃ v' w9, (∃ a c, v' = .slice a (na + 1) c) ∧ (appS #[30, 30] 30 #[av, .slice (some ⟨W.heap.size, 0, none⟩) 1 1]).run Try.prog (W.alloc (.cells #[.int .i64 j.ten, .string j.name, .int .i64 j.cost] 34)) = .ok v' w9 ∧ BS P mn n C nmv w1 w9 t (k + 1) (max D j.cost) (na + 1) v' := by
  obtain ⟨⟨rv, cs, q, nvs, hq, hBP, hqm, hnv, hFM, hap, hbl, hJi, hJf⟩, hjb⟩ := h
  obtain ⟨xs, hx⟩ := hFM.all
  have hBs : w1.heap.size ≤ W.heap.size := hbl.size
  obtain ⟨i0, hi0, hz0, hz1, hz2⟩ := info_p infJ
  have hzA : (W.alloc (.cells #[.int .i64 j.ten, .string j.name, .int .i64 j.cost] 34)).heap.size = W.heap.size + 1 := World.size_alloc _ _
  obtain ⟨g9, cap9, w9, hrun, hown, hgrow, hat, _⟩ := run_append_lies (P := Try.prog) (W.alloc (.cells #[.int .i64 j.ten, .string j.name, .int .i64 j.cost] 34)) 30 30 w1.heap.size 34 i0 (.agg #[.int .i64 0, .string ⟨#[]⟩, .int .i64 0]) 3 32 Try.underlying30 hi0 hz0 hz1 hz2 rfl (by decide) av na xs (hx.alloc _) ⟨W.heap.size, 0, none⟩ 1 1 (jc j) rfl (new_job W j) (jc_one j) (by decide) (by unfold maxLen; omega) (by omega) (by omega) (W.heap.size + 1) hzA
  obtain ⟨m1, m2, m3⟩ := hFM.more hown (fun x hx hn => (hgrow.block x (by omega) (fun e => hn (mem_ob.2 e.symm))).trans (heap_al W _ x hx)) (fun x hx => by
    simp [Value.ownBlock] at hx
    subst hx
    rcases hat with a | a
    · exact .inl a
    · exact .inr (by omega))
  refine ⟨_, w9, ⟨_, _, rfl⟩, hrun, rv, cs, q, nvs, hq.keep (fun g hg => m2 g (hq.lt g hg).2 (hap g hg)), hBP, hqm, hnv, m1, fun g hg hg2 => ?_, ?_⟩
  · rcases m3 g hg2 with e | e
    · exact hap g hg e
    · have := (hq.lt g hg).2; omega
  · refine ⟨hgrow.os.trans hbl.os, hgrow.tape.trans hbl.tape, hgrow.output.trans hbl.output, ?_, fun x hx => (m2 x (by omega) (fun e => by have := (hFM.lt x e).1; omega)).trans (hbl.block x hx)⟩
    have := hgrow.size
    omega
theorem BS.shape (h : BS P mn n C nmv w1 W t k D na av) : ∃ a c, av = .slice a na c := by
  obtain ⟨rv, cs, q, nvs, hq, hBP, hqm, hnv, hFM, hap, hbl⟩ := h
  obtain ⟨xs, hx⟩ := hFM.all
  exact row_shape hx
theorem BS.few (h : BS P mn n C nmv w1 W t k D na av) : na ≤ 20 * t + k := by
  obtain ⟨rv, cs, q, nvs, hq, hBP, hqm, hnv, hFM, hap, hbl⟩ := h
  exact hBP.le
end
end Go.Proofs.Ytfddhdpnoliamaa
