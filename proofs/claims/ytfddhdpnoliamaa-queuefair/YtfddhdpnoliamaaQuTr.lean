/- The document's ring in memory: the first one of its tenants, or its credits, goes to the end. -/
import Derived.Test.YtfddhdpnoliamaaQuTs
namespace Go.Proofs.Ytfddhdpnoliamaa
open Go.RowKit Go.Shelf

section
variable {B P g cap n : Nat} {tv cv jv : Value} {X : World} {r : Rg}
theorem rot_run {l : List Nat} {t0 : Nat} {ts : List Nat} (h : RowL X B 3 1 (.slice (some ⟨g, 0, none⟩) n cap) n (ns l)) (hn : n = l.length) (hl : l = t0 :: ts) (hb : n ≤ 1000) (hB : B ≤ X.heap.size) :
    ∃ v1 w1, (appS #[29, 29] 29 #[.slice (if n = 1 then some (⟨g, 0, none⟩ : Addr) else some ⟨g, 1, none⟩) (n - 1) (n - 1), .slice (some ⟨X.heap.size, 0, none⟩) 1 1]).run Try.prog (X.alloc (.cells #[.int .i64 (t0 : Int)] 3)).drew = .ok v1 w1 ∧ (∃ a c, v1 = .slice a n c) ∧
      RowL w1 B 3 1 v1 (ts ++ [t0]).length (ns (ts ++ [t0])) ∧ Below X.heap.size X w1 ∧ ∀ k, v1.ownBlock = some k → X.heap.size ≤ k := by
  obtain ⟨i0, hi0, hz0, hz1, hz2⟩ := info_p infI
  have hlen : l.length = ts.length + 1 := by rw [hl]; rfl
  obtain ⟨g', cap', hv, _, hcell⟩ := h.form (by omega)
  cases hv
  have hz : (X.alloc (.cells #[.int .i64 (t0 : Int)] 3)).drew.heap.size = X.heap.size + 1 := by show (X.alloc _).heap.size = _; rw [World.size_alloc]
  have hb0 : Below X.heap.size X (X.alloc (.cells #[.int .i64 (t0 : Int)] 3)) := (Below.refl _ X).alloc (Nat.le_refl _) _
  have hg : g < X.heap.size := (h.lt g rfl).2
  obtain ⟨ad, had⟩ : ∃ ad : Addr, (if n = 1 then some (⟨g, 0, none⟩ : Addr) else some ⟨g, 1, none⟩) = some ad := by
    split
    · exact ⟨_, rfl⟩
    · exact ⟨_, rfl⟩
  have had2 : n ≠ 1 → ad = ⟨g, 1, none⟩ := fun e => by
    rw [if_neg e] at had
    exact (Option.some.inj had).symm
  obtain ⟨c2, w1, a1, a2, a3⟩ := append_full (P := Try.prog) (X.alloc (.cells #[.int .i64 (t0 : Int)] 3)).drew B 29 29 3 i0 (.int .i64 0) 1 8 Try.underlying29 hi0 hz0 hz1 hz2 rfl ad (n - 1) (n - 1) (ns ts) (by rw [ns_len]; omega) (fun j u hu => by
      have hj : j < ts.length := by
        have := (List.getElem?_eq_some_iff.1 hu).1
        rw [ns_len] at this
        omega
      rw [had2 (by omega), addO]
      have e1 : (X.alloc (.cells #[.int .i64 (t0 : Int)] 3)).drew.cell? ⟨g, 1 + j, none⟩ = X.cell? ⟨g, 1 + j, none⟩ := World.cell?_of_block (hb0.block g hg)
      rw [e1, hcell (1 + j) (by omega), ← hu, hl]
      show (ns (t0 :: ts))[1 + j]? = _
      rw [Nat.add_comm]
      rfl) ⟨X.heap.size, 0, none⟩ 1 1 [.int .i64 (t0 : Int)] rfl (fun j u hu => by
      have hj : j = 0 := by
        have := (List.getElem?_eq_some_iff.1 hu).1
        simp at this
        exact this
      subst hj
      rw [add0]
      show (X.alloc (.cells #[.int .i64 (t0 : Int)] 3)).cell? _ = _
      rw [al_at X X.heap.size #[.int .i64 (t0 : Int)] 3 0 (.int .i64 (t0 : Int)) rfl rfl, ← hu]
      rfl) (by omega) (by unfold maxLen; omega) (by omega) (by omega)
  have e2 : n - 1 + 1 = n := by omega
  rw [e2] at a1 a2
  have e3 : (ts ++ [t0]).length = n := by rw [List.length_append]; simp; omega
  refine ⟨_, w1, by rw [had]; exact a1, ⟨_, _, rfl⟩, ?_, ⟨a3.os, a3.tape, a3.output, ?_, fun k hk => (a3.block k (by omega) (by simp)).trans (hb0.block k hk)⟩, fun k hk => ?_⟩
  · rw [e3]
    have e4 : ns (ts ++ [t0]) = ns ts ++ [.int .i64 (t0 : Int)] := by unfold ns; rw [List.map_append]; rfl
    rw [e4]
    exact .inl a2
  · have := a3.size
    omega
  · simp [Value.ownBlock] at hk
    omega

theorem RS.tens_rot {t0 : Nat} {ts : List Nat} (h : RS B P (.slice (some ⟨g, 0, none⟩) n cap) cv jv X r) (hn : n = r.tens.length) (hl : r.tens = t0 :: ts) (hb : n ≤ 1000) :
    ∃ v1 w1, (appS #[29, 29] 29 #[.slice (if n = 1 then some (⟨g, 0, none⟩ : Addr) else some ⟨g, 1, none⟩) (n - 1) (n - 1), .slice (some ⟨X.heap.size, 0, none⟩) 1 1]).run Try.prog (X.alloc (.cells #[.int .i64 (t0 : Int)] 3)).drew = .ok v1 w1 ∧ (∃ a c, v1 = .slice a n c) ∧
      w1.cell? ⟨P, 1, none⟩ = some (.slice (some ⟨g, 0, none⟩) n cap) ∧ w1.frozen? ⟨P, 1, none⟩ = false ∧ RS B P v1 cv jv (w1.setCell ⟨P, 1, none⟩ v1) { r with tens := ts ++ [t0] } ∧
      Upd (rids P (.slice (some ⟨g, 0, none⟩) n cap) cv jv) (rids P v1 cv jv) X (w1.setCell ⟨P, 1, none⟩ v1) := by
  have hr := h.tens
  rw [← hn] at hr
  obtain ⟨v1, w1, a1, a2, a3, a4, a5⟩ := rot_run hr hn hl hb (by have := h.lo; have := (h.lt P List.mem_cons_self).2; omega)
  obtain ⟨s1, s2, s3, s4⟩ := h.tensTo a4 a3 (fun k hk => .inr (a5 k hk))
  exact ⟨v1, w1, a1, a2, s1, s2, s3, s4⟩
theorem RS.creds_rot {t0 : Nat} {ts : List Nat} (h : RS B P tv (.slice (some ⟨g, 0, none⟩) n cap) jv X r) (hn : n = r.creds.length) (hl : r.creds = t0 :: ts) (hb : n ≤ 1000) :
    ∃ v1 w1, (appS #[29, 29] 29 #[.slice (if n = 1 then some (⟨g, 0, none⟩ : Addr) else some ⟨g, 1, none⟩) (n - 1) (n - 1), .slice (some ⟨X.heap.size, 0, none⟩) 1 1]).run Try.prog (X.alloc (.cells #[.int .i64 (t0 : Int)] 3)).drew = .ok v1 w1 ∧ (∃ a c, v1 = .slice a n c) ∧
      w1.cell? ⟨P, 2, none⟩ = some (.slice (some ⟨g, 0, none⟩) n cap) ∧ w1.frozen? ⟨P, 2, none⟩ = false ∧ RS B P tv v1 jv (w1.setCell ⟨P, 2, none⟩ v1) { r with creds := ts ++ [t0] } ∧
      Upd (rids P tv (.slice (some ⟨g, 0, none⟩) n cap) jv) (rids P tv v1 jv) X (w1.setCell ⟨P, 2, none⟩ v1) := by
  have hr := h.creds
  rw [← hn] at hr
  obtain ⟨v1, w1, a1, a2, a3, a4, a5⟩ := rot_run hr hn hl hb (by have := h.lo; have := (h.lt P List.mem_cons_self).2; omega)
  obtain ⟨s1, s2, s3, s4⟩ := h.credsTo a4 a3 (fun k hk => .inr (a5 k hk))
  exact ⟨v1, w1, a1, a2, s1, s2, s3, s4⟩
end

/-- What lies in a ring whose first tenant is told. -/
theorem RS.heads {B P : Nat} {tv cv jv : Value} {W : World} {r : Rg} {q : Qu} (h : RS B P tv cv jv W r) (hs : Sim q r) {t : Tn} {s : List Tn} (hr : q.ring = t :: s) :
    ∃ gt capT gc capC, tv = .slice (some ⟨gt, 0, none⟩) (s.length + 1) capT ∧ cv = .slice (some ⟨gc, 0, none⟩) (s.length + 1) capC ∧ s.length + 1 ≤ capT ∧ s.length + 1 ≤ capC ∧ W.cell? ⟨gt, 0, none⟩ = some (.int .i64 (t.num : Int)) ∧ W.cell? ⟨gc, 0, none⟩ = some (.int .i64 (t.cr : Int)) ∧
      r.tens = t.num :: s.map Tn.num ∧ r.creds = t.cr :: s.map Tn.cr ∧ r.tens.length = s.length + 1 ∧ r.creds.length = s.length + 1 := by
  have e1 : r.tens = t.num :: s.map Tn.num := by rw [hs.tens, hr]; rfl
  have e2 : r.creds = t.cr :: s.map Tn.cr := by rw [hs.creds, hr]; rfl
  have l1 : r.tens.length = s.length + 1 := by rw [e1]; simp
  have l2 : r.creds.length = s.length + 1 := by rw [e2]; simp
  obtain ⟨gt, capT, h1, h2, h3⟩ := h.tens.form (by omega)
  obtain ⟨gc, capC, k1, k2, k3⟩ := h.creds.form (by omega)
  refine ⟨gt, capT, gc, capC, by rw [← l1]; exact h1, by rw [← l2]; exact k1, by omega, by omega, ?_, ?_, e1, e2, l1, l2⟩
  · rw [h3 0 (by omega), e1]; rfl
  · rw [k3 0 (by omega), e2]; rfl
/-- The first tenant's first job. -/
theorem RS.headJ {B P : Nat} {tv cv jv : Value} {W : World} {r : Rg} {q : Qu} (h : RS B P tv cv jv W r) (hs : Sim q r) {t : Tn} {s : List Tn} (hr : q.ring = t :: s) {j : Jb} {js : List Jb} (hj : t.jobs = j :: js) :
    ∃ (i : Nat) (hi : i < r.jobs.length), jat r.jobs (fun x => decide ((x.ten : Int) = (t.num : Int))) = (i : Int) ∧ r.jobs[i] = j ∧ ∃ gj capJ, jv = .slice (some ⟨gj, 0, none⟩) r.jobs.length capJ ∧ W.cell? ⟨gj, i * 3 + 2, none⟩ = some (.int .i64 (j.cost : Int)) := by
  have ht : t ∈ q.ring := by rw [hr]; exact List.mem_cons_self
  have hf := hs.jobs t ht
  rw [hj] at hf
  rcases jat_cases r.jobs (fun x => decide ((x.ten : Int) = (t.num : Int))) with ⟨_, e⟩ | ⟨i, hi, e1, e2, e3⟩
  · exfalso
    have hm : j ∈ r.jobs.filter (ofT t.num) := by rw [hf]; exact List.mem_cons_self
    have h1 := List.mem_filter.1 hm
    have h2 := e j h1.1
    have h3 : j.ten = t.num := by simpa [ofT] using h1.2
    rw [h3] at h2
    simp at h2
  · have hsp : r.jobs = r.jobs.take i ++ r.jobs[i] :: r.jobs.drop (i + 1) := by rw [← List.drop_eq_getElem_cons hi, List.take_append_drop]
    have hn : (r.jobs.take i).filter (ofT t.num) = [] := by
      rw [List.filter_eq_nil_iff]
      intro x hx hx2
      obtain ⟨m, hm, rfl⟩ := List.getElem_of_mem hx
      rw [List.length_take] at hm
      rw [List.getElem_take] at hx2
      have h3 : (r.jobs[m]).ten = t.num := by simpa [ofT] using hx2
      exact e3 m (by omega) (by omega) (decide_eq_true (by omega))
    have hten : ofT t.num r.jobs[i] = true := by
      have : ((r.jobs[i]).ten : Int) = (t.num : Int) := of_decide_eq_true e2
      simp [ofT]; omega
    have heq : r.jobs[i] = j := by
      have h9 : r.jobs.filter (ofT t.num) = r.jobs[i] :: (r.jobs.drop (i + 1)).filter (ofT t.num) := by
        conv => lhs; rw [hsp]
        rw [List.filter_append, hn, List.nil_append, List.filter_cons_of_pos hten]
      rw [hf] at h9
      injection h9 with a _
      exact a.symm
    obtain ⟨gj, capJ, k1, _, k3⟩ := h.jobs.form (by omega)
    refine ⟨i, hi, e1, heq, gj, capJ, k1, ?_⟩
    rw [k3 (i * 3 + 2) (by omega), jcs_at r.jobs i hi 2 (by omega), heq]
    rfl
end Go.Proofs.Ytfddhdpnoliamaa
