/- The document's ring: a job is taken, whatever it is; Drop. -/
import Derived.Test.YtfddhdpnoliamaaQuTg
namespace Go.Proofs.Ytfddhdpnoliamaa
open Go.RowKit Go.Shelf

/-- A queue without one of a tenant's jobs. -/
def remQ (q : Qu) (a : List Tn) (t : Tn) (b : List Tn) (k : Nat) : Qu := if t.jobs.length = 1 then { q with ring := a ++ b, beg := if a.length = 0 then false else q.beg } else { q with ring := a ++ { t with jobs := cut1 t.jobs k } :: b }

theorem Sim.jobAt {q : Qu} {r : Rg} (h : Sim q r) {t : Tn} (ht : t ∈ q.ring) {k : Nat} (hk : k < t.jobs.length) {i : Nat} (hi : i < r.jobs.length) (he : (r.jobs[i]).name = (t.jobs[k]).name) : r.jobs[i] = t.jobs[k] :=
  name_inj h.names (List.getElem_mem hi) ((h.mem _).2 ⟨t, ht, List.getElem_mem hk⟩) he
theorem Sim.tenOf {q : Qu} {r : Rg} (h : Sim q r) {t : Tn} (ht : t ∈ q.ring) {j : Jb} (hj : j ∈ t.jobs) : j.ten = t.num := by
  rw [← h.jobs t ht] at hj
  simpa [ofT] using (List.mem_filter.1 hj).2

theorem nd_at {l : List Nat} (h : l.Nodup) {m n : Nat} (hm : m < l.length) (hn : n < l.length) (e : l[m] = l[n]) : m = n := by
  rw [List.Nodup, List.pairwise_iff_getElem] at h
  rcases Nat.lt_trichotomy m n with x | x | x
  · exact absurd e (h m n hm hn x)
  · exact x
  · exact absurd e.symm (h n m hn hm x)

theorem take_sim {B P : Nat} {tv cv jv : Value} {w : World} {q : Qu} {r : Rg} (h : RS B P tv cv jv w r) (hs : Sim q r) {a b : List Tn} {t : Tn} (hr : q.ring = a ++ t :: b) (hl : q.ring.length ≤ 1000) (k : Nat) (hk : k < t.jobs.length) (i : Nat) (hi : i < r.jobs.length) (he : (r.jobs[i]).name = (t.jobs[k]).name) :
    Calls Try.prog 34 #[.pointer (some ⟨P, 0, none⟩), .int .i64 i] w fun e w' => e = .returned (jagg t.jobs[k]) ∧ ∃ tv' cv' jv' r', RS B P tv' cv' jv' w' r' ∧ Sim (remQ q a t b k) r' ∧ Upd (rids P tv cv jv) (rids P tv' cv' jv') w w' := by
  have ht : t ∈ q.ring := by rw [hr]; simp
  have hj := hs.jobAt ht hk hi he
  have htn : (t.jobs[k]).ten = t.num := hs.tenOf ht (List.getElem_mem hk)
  have hle : r.jobs.length ≤ 200 := by rw [hs.len]; exact hs.le
  obtain ⟨c1, _⟩ := hs.cutJ ht k hk i hi he
  have hcl := cut1_len hk
  by_cases h1 : t.jobs.length = 1
  · have hk0 : k = 0 := by omega
    subst hk0
    have hf : jat (cut1 r.jobs i) (fun x => decide ((x.ten : Int) = (r.jobs[i].ten : Int))) < 0 := by
      rcases jat_cases (cut1 r.jobs i) (fun x => decide ((x.ten : Int) = (r.jobs[i].ten : Int))) with ⟨e, _⟩ | ⟨m, hm, _, e2, _⟩
      · rw [e]; decide
      · exfalso
        have e3 : ((cut1 r.jobs i)[m].ten : Int) = (r.jobs[i].ten : Int) := of_decide_eq_true e2
        rw [hj, htn] at e3
        have hmem : (cut1 r.jobs i)[m] ∈ (cut1 r.jobs i).filter (ofT t.num) := List.mem_filter.2 ⟨List.getElem_mem hm, by simp [ofT]; omega⟩
        rw [c1, List.length_eq_zero_iff.1 (show (cut1 t.jobs 0).length = 0 by omega)] at hmem
        cases hmem
    have hnd := hs.nd
    have htl : r.tens = a.map Tn.num ++ t.num :: b.map Tn.num := by rw [hs.tens, hr]; simp
    have hp : a.length < r.tens.length := by rw [htl]; simp
    have hpt : r.tens[a.length] = (r.jobs[i]).ten := by
      have : r.tens[a.length]? = some t.num := by rw [htl, List.getElem?_append_right (by simp)]; simp
      rw [hj, htn]
      exact (List.getElem?_eq_some_iff.1 this).2
    have hpo : ∀ m (hm : m < r.tens.length), m ≠ a.length → r.tens[m] ≠ (r.jobs[i]).ten := fun m hm hne e => by
      rw [← hpt] at e
      rw [← hs.tens] at hnd
      exact hne (nd_at hnd hm hp e)
    have hc : r.creds.length = r.tens.length := by rw [hs.creds, hs.tens]; simp
    refine (take_gone h i hi hle hf a.length hp hpt hpo hc (by rw [hs.tens]; simpa using hl)).mono ?_
    rintro e w' ⟨rfl, tv', cv', jv', hS, hU⟩
    refine ⟨by rw [hj]; rfl, tv', cv', jv', _, hS, ?_, hU⟩
    unfold remQ
    rw [if_pos h1]
    exact hs.goes hr h1 i hi he
  · have hf : 0 ≤ jat (cut1 r.jobs i) (fun x => decide ((x.ten : Int) = (r.jobs[i].ten : Int))) := by
      rcases jat_cases (cut1 r.jobs i) (fun x => decide ((x.ten : Int) = (r.jobs[i].ten : Int))) with ⟨_, e⟩ | ⟨m, hm, e1, _, _⟩
      · exfalso
        have hne : (cut1 r.jobs i).filter (ofT t.num) ≠ [] := by
          rw [c1]
          intro e2
          rw [e2] at hcl
          simp at hcl
          omega
        refine hne (List.filter_eq_nil_iff.2 fun x hx e3 => ?_)
        have e4 : x.ten = t.num := by simpa [ofT] using e3
        have e5 := e x hx
        rw [hj, htn] at e5
        simp at e5
        omega
      · rw [e1]; omega
    refine (take_keep h i hi hle hf).mono ?_
    rintro e w' ⟨rfl, jv', hS, hU⟩
    refine ⟨by rw [hj]; rfl, tv, cv, jv', _, hS, ?_, hU⟩
    unfold remQ
    rw [if_neg h1]
    exact hs.keep hr k hk i hi he

set_option maxHeartbeats 4000000 in
set_option maxRecDepth 100000 in
theorem rDrop_no {B P : Nat} {tv cv jv : Value} {w : World} {r : Rg} (h : RS B P tv cv jv w r) (hn : r.jobs.length ≤ 200) (s : ByteArray) (hs : jat r.jobs (fun j => eqN j.name s) < 0) :
    Calls Try.prog 15 #[.pointer (some ⟨P, 0, none⟩), .string s] w fun e w' => e = .returned (.bool false) ∧ RS B P tv cv jv w' r ∧ Upd (rids P tv cv jv) (rids P tv cv jv) w w' := by
  have c4 := h.c 4 jv rfl
  have HJ : Hid (Calls Try.prog 29 #[.pointer (some ⟨P, 0, none⟩), .string s] w fun e w' => e = .returned (.int .i64 (jat r.jobs (fun j => eqN j.name s))) ∧ ∃ m, w' = w.drewN m) := JobAt_any P s jv r.jobs w c4 h.jobs.readJ (by omega)
  have HH : Hid (RS B P tv cv jv w r) := h
  clear h c4
  generalize jat r.jobs (fun j => eqN j.name s) = z at *
  have hz : ¬ 0 ≤ z := by omega
  go_enter Try.func15, Try.ntmps15
  go_wp2_with fail
  refine HJ.out.mono ?_
  rintro e w1 ⟨rfl, m, rfl⟩
  go_wp2
  go_ret
  refine ⟨?_, HH.out.keep fun _ _ => rfl, (Upd.refl _ _).drewN m⟩
  show Ending.returned (.bool (decide (0 ≤ z))) = _
  rw [decide_eq_false (show ¬ 0 ≤ z by omega)]

set_option maxHeartbeats 4000000 in
set_option maxRecDepth 100000 in
theorem rDrop_yes {B P : Nat} {tv cv jv : Value} {w : World} {q : Qu} {r : Rg} (h : RS B P tv cv jv w r) (hs : Sim q r) {a b : List Tn} {t : Tn} (hr : q.ring = a ++ t :: b) (hl : q.ring.length ≤ 1000) (k : Nat) (hk : k < t.jobs.length) (s : ByteArray) (he : (t.jobs[k]).name = s) :
    Calls Try.prog 15 #[.pointer (some ⟨P, 0, none⟩), .string s] w fun e w' => e = .returned (.bool true) ∧ ∃ tv' cv' jv' r', RS B P tv' cv' jv' w' r' ∧ Sim (remQ q a t b k) r' ∧ Upd (rids P tv cv jv) (rids P tv' cv' jv') w w' := by
  have c4 := h.c 4 jv rfl
  have ht : t ∈ q.ring := by rw [hr]; simp
  have hm : t.jobs[k] ∈ r.jobs := (hs.mem _).2 ⟨t, ht, List.getElem_mem hk⟩
  have HJ : Hid (Calls Try.prog 29 #[.pointer (some ⟨P, 0, none⟩), .string s] w fun e w' => e = .returned (.int .i64 (jat r.jobs (fun j => eqN j.name s))) ∧ ∃ m, w' = w.drewN m) := JobAt_any P s jv r.jobs w c4 h.jobs.readJ (by rw [hs.len]; have := hs.le; omega)
  obtain ⟨i, hi, hje, hnm⟩ : ∃ (i : Nat) (hi : i < r.jobs.length), jat r.jobs (fun j => eqN j.name s) = (i : Int) ∧ (r.jobs[i]).name = (t.jobs[k]).name := by
    rcases jat_cases r.jobs (fun j => eqN j.name s) with ⟨_, e⟩ | ⟨i, hi, e1, e2, _⟩
    · have := e _ hm
      rw [(eqN_iff _ _).2 he] at this
      cases this
    · exact ⟨i, hi, e1, by rw [he]; exact (eqN_iff _ _).1 e2⟩
  have HT : Hid (∀ m, Calls Try.prog 34 #[.pointer (some ⟨P, 0, none⟩), .int .i64 i] (w.drewN m) fun e w' => e = .returned (jagg t.jobs[k]) ∧ ∃ tv' cv' jv' r', RS B P tv' cv' jv' w' r' ∧ Sim (remQ q a t b k) r' ∧ Upd (rids P tv cv jv) (rids P tv' cv' jv') w w') := fun m => by
    refine (take_sim (w := w.drewN m) (h.keep fun _ _ => rfl) hs hr hl k hk i hi hnm).mono ?_
    rintro e w' ⟨he, tv', cv', jv', r', x1, x2, x3⟩
    exact ⟨he, tv', cv', jv', r', x1, x2, ((Upd.refl _ w).drewN m).trans x3⟩
  rw [hje] at HJ
  clear hje h c4 hm ht hs hr hl he hnm hi
  have hz : 0 ≤ (i : Int) := by omega
  go_enter Try.func15, Try.ntmps15
  go_wp2_with fail
  refine HJ.out.mono ?_
  rintro e w1 ⟨rfl, m, rfl⟩
  go_wp2_with fail
  refine (HT.out m).mono ?_
  rintro e w2 ⟨rfl, HX⟩
  have HX2 : Hid (∃ tv' cv' jv' r', RS B P tv' cv' jv' w2 r' ∧ Sim (remQ q a t b k) r' ∧ Upd (rids P tv cv jv) (rids P tv' cv' jv') w w2) := HX
  clear HX HT HJ
  go_wp2
  go_ret
  refine ⟨?_, HX2.out⟩
  show Ending.returned (.bool (decide (0 ≤ (i : Int)))) = _
  rw [decide_eq_true hz]
end Go.Proofs.Ytfddhdpnoliamaa
