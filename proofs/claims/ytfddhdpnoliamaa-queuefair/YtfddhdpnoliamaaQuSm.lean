/- The queue and the document's ring tell the same, plain. -/
import Derived.Test.YtfddhdpnoliamaaQuRq
import Derived.Test.YtfddhdpnoliamaaQuDp
namespace Go.Proofs.Ytfddhdpnoliamaa
open Go.RowKit Go.Shelf

def ofT (n : Nat) (j : Jb) : Bool := j.ten == n
structure Sim (q : Qu) (r : Rg) : Prop where
  qm : r.qm = q.qm
  tens : r.tens = q.ring.map Tn.num
  creds : r.creds = q.ring.map Tn.cr
  turn : r.turn = q.beg
  jobs : ∀ t ∈ q.ring, r.jobs.filter (ofT t.num) = t.jobs
  own : ∀ j ∈ r.jobs, ∃ t ∈ q.ring, t.num = j.ten
  nd : (q.ring.map Tn.num).Nodup
  names : (r.jobs.map Jb.name).Nodup
  len : r.jobs.length = sizeL q.ring
  le : sizeL q.ring ≤ 200

theorem jat_cases (l : List Jb) (p : Jb → Bool) : (jat l p = -1 ∧ ∀ x ∈ l, p x = false) ∨ ∃ (i : Nat) (h : i < l.length), jat l p = (i : Int) ∧ p l[i] = true ∧ ∀ j (_ : j < i) (h2 : j < l.length), ¬ p l[j] = true := by
  unfold jat
  cases e : l.findIdx? p with
  | none => exact .inl ⟨rfl, fun x hx => by have := List.findIdx?_eq_none_iff.1 e x hx; simpa using this⟩
  | some i =>
    obtain ⟨h, h1, h2⟩ := List.findIdx?_eq_some_iff_getElem.1 e
    exact .inr ⟨i, h, rfl, h1, fun j hj h3 => by have := h2 j hj; simpa using this⟩

theorem Sim.mem {q : Qu} {r : Rg} (h : Sim q r) (j : Jb) : j ∈ r.jobs ↔ ∃ t ∈ q.ring, j ∈ t.jobs := by
  constructor
  · intro hj
    obtain ⟨t, ht, e⟩ := h.own j hj
    refine ⟨t, ht, ?_⟩
    rw [← h.jobs t ht]
    exact List.mem_filter.2 ⟨hj, by simp [ofT, e]⟩
  · rintro ⟨t, ht, hj⟩
    rw [← h.jobs t ht] at hj
    exact (List.mem_filter.1 hj).1
theorem Sim.has {q : Qu} {r : Rg} (h : Sim q r) (s : ByteArray) : hasN q.ring s = true ↔ 0 ≤ jat r.jobs (fun j => eqN j.name s) := by
  have e : hasN q.ring s = true ↔ ∃ j ∈ r.jobs, eqN j.name s = true := by
    unfold hasN
    rw [List.any_eq_true]
    constructor
    · rintro ⟨t, ht, hj⟩
      obtain ⟨j, hj, hs⟩ := List.any_eq_true.1 hj
      exact ⟨j, (h.mem j).2 ⟨t, ht, hj⟩, hs⟩
    · rintro ⟨j, hj, hs⟩
      obtain ⟨t, ht, hj⟩ := (h.mem j).1 hj
      exact ⟨t, ht, List.any_eq_true.2 ⟨j, hj, hs⟩⟩
  rw [e]
  rcases jat_cases r.jobs (fun j => eqN j.name s) with ⟨h1, h2⟩ | ⟨i, hi, h1, h2, h3⟩
  · rw [h1]
    constructor
    · rintro ⟨j, hj, hs⟩
      rw [h2 j hj] at hs
      cases hs
    · intro h; exact absurd h (by decide)
  · rw [h1]
    exact ⟨fun _ => by omega, fun _ => ⟨_, List.getElem_mem hi, h2⟩⟩

theorem Sim.putE {q : Qu} {r : Rg} (h : Sim q r) (x : Int) (s : ByteArray) (y : Int) : putE q x s y = rE r x s y := by
  unfold Go.Proofs.Ytfddhdpnoliamaa.putE rE
  by_cases h1 : jobE x s y ≠ 0
  · rw [if_pos h1, if_pos h1]
  · rw [if_neg h1, if_neg h1]
    by_cases h2 : hasN q.ring s = true
    · rw [if_pos h2, if_pos ((h.has s).1 h2)]
    · rw [if_neg h2, if_neg (fun e => h2 ((h.has s).2 e))]
      have e1 := h.len
      have e2 := h.le
      by_cases h3 : 200 ≤ sizeL q.ring
      · rw [if_pos h3, if_pos (by omega)]
      · rw [if_neg h3, if_neg (by omega)]

theorem Sim.put {q : Qu} {r : Rg} (h : Sim q r) (hi : QI q) (x : Int) (s : ByteArray) (y : Int) : Sim (putQ q x s y) (rputQ r x s y) := by
  unfold putQ rputQ
  rw [← h.putE]
  by_cases hE : Go.Proofs.Ytfddhdpnoliamaa.putE q x s y = 0
  · rw [if_pos hE, if_pos hE]
    have hj0 : jobE x s y = 0 := by
      by_cases e : jobE x s y = 0
      · exact e
      · unfold Go.Proofs.Ytfddhdpnoliamaa.putE at hE; rw [if_pos e] at hE; exact absurd hE e
    have hn : ¬ hasN q.ring s = true := fun e => by
      unfold Go.Proofs.Ytfddhdpnoliamaa.putE at hE
      rw [hj0, if_neg (by decide), if_pos e] at hE
      exact absurd hE (by decide)
    have hl : ¬ 200 ≤ sizeL q.ring := fun e => by
      unfold Go.Proofs.Ytfddhdpnoliamaa.putE at hE
      rw [hj0, if_neg (by decide), if_neg hn, if_pos e] at hE
      exact absurd hE (by decide)
    have hnj : ∀ k ∈ r.jobs, k.name ≠ s := fun k hk e => hn (by
      obtain ⟨t, ht, hkt⟩ := (h.mem k).1 hk
      unfold hasN
      exact List.any_eq_true.2 ⟨t, ht, List.any_eq_true.2 ⟨k, hkt, (eqN_iff _ _).2 e⟩⟩)
    generalize hjd : (⟨x.toNat, s, y.toNat⟩ : Jb) = j
    have hjn : j.name = s := by rw [← hjd]
    have hnames : ((r.jobs ++ [j]).map Jb.name).Nodup := by
      rw [List.map_append, List.nodup_append]
      refine ⟨h.names, by simp, fun a ha b hb => ?_⟩
      obtain ⟨k, hk, rfl⟩ := List.mem_map.1 ha
      have : b = s := by simpa [hjn] using hb
      rw [this]
      exact hnj k hk
    have hlen : (r.jobs ++ [j]).length = sizeL (addR j q.ring) := by
      rw [size_addR, List.length_append, h.len]
      rfl
    have hle : sizeL (addR j q.ring) ≤ 200 := by rw [size_addR]; omega
    rcases plc_cases j.ten q.ring with ⟨_, hno⟩ | ⟨a, t, b, hr, ht, hab, _⟩
    · have hJ : jat r.jobs (fun z => decide ((z.ten : Int) = (j.ten : Int))) < 0 := by
        rcases jat_cases r.jobs (fun z => decide ((z.ten : Int) = (j.ten : Int))) with ⟨h1, _⟩ | ⟨i, hi2, h1, h2, _⟩
        · rw [h1]; decide
        · obtain ⟨t, ht, e⟩ := h.own _ (List.getElem_mem hi2)
          have e2 : ((r.jobs[i]).ten : Int) = (j.ten : Int) := of_decide_eq_true h2
          exact absurd (by omega) (hno t ht)
      have hadd := addR_new j q.ring hno
      unfold rput
      rw [if_pos hJ, if_pos hJ]
      refine ⟨h.qm, ?_, ?_, h.turn, ?_, ?_, ?_, hnames, hlen, hle⟩
      · show r.tens ++ [j.ten] = _
        rw [hadd, h.tens, List.map_append]
        rfl
      · show r.creds ++ [0] = _
        rw [hadd, h.creds, List.map_append]
        rfl
      · intro t ht
        show (r.jobs ++ [j]).filter (ofT t.num) = t.jobs
        have ht : t ∈ addR j q.ring := ht
        rw [hadd] at ht
        rw [List.filter_append]
        rcases List.mem_append.1 ht with ht | ht
        · have hne : j.ten ≠ t.num := fun e => hno t ht e.symm
          rw [h.jobs t ht]
          simp [ofT, hne]
        · rw [List.mem_singleton.1 ht]
          have e1 : r.jobs.filter (ofT j.ten) = [] := by
            rw [List.filter_eq_nil_iff]
            intro k hk e
            obtain ⟨t2, ht2, e2⟩ := h.own k hk
            have e3 : k.ten = j.ten := by simpa [ofT] using e
            exact hno t2 ht2 (by omega)
          show r.jobs.filter (ofT j.ten) ++ [j].filter (ofT j.ten) = [j]
          rw [e1]
          simp [ofT]
      · intro k hk
        show ∃ t ∈ addR j q.ring, t.num = k.ten
        rw [hadd]
        rcases List.mem_append.1 hk with hk | hk
        · obtain ⟨t, ht, e⟩ := h.own k hk
          exact ⟨t, List.mem_append_left _ ht, e⟩
        · rw [List.mem_singleton.1 hk]
          exact ⟨_, List.mem_append_right _ (List.mem_singleton.2 rfl), rfl⟩
      · show ((addR j q.ring).map Tn.num).Nodup
        rw [hadd, List.map_append, List.nodup_append]
        refine ⟨h.nd, by simp, fun a ha b hb => ?_⟩
        obtain ⟨t, ht, rfl⟩ := List.mem_map.1 ha
        have : b = j.ten := by simpa using hb
        rw [this]
        exact hno t ht
    · have htm : t ∈ q.ring := by rw [hr]; simp
      have hJ : ¬ jat r.jobs (fun z => decide ((z.ten : Int) = (j.ten : Int))) < 0 := by
        rcases jat_cases r.jobs (fun z => decide ((z.ten : Int) = (j.ten : Int))) with ⟨_, h2⟩ | ⟨i, hi2, h1, _, _⟩
        · exfalso
          have hne := hi.ne t htm
          rw [← h.jobs t htm] at hne
          refine hne ?_
          rw [List.filter_eq_nil_iff]
          intro k hk e
          have e3 : k.ten = t.num := by simpa [ofT] using e
          have := h2 k hk
          simp at this
          omega
        · rw [h1]; omega
      have hadd : addR j q.ring = a ++ { t with jobs := t.jobs ++ [j] } :: b := by rw [hr]; exact addR_old j a t b ht hab
      have hnd := h.nd
      rw [hr] at hnd
      have hb : ∀ z ∈ b, z.num ≠ j.ten := fun z hz e => by
        rw [List.map_append, List.map_cons, List.nodup_append, List.nodup_cons] at hnd
        exact hnd.2.1.1 (List.mem_map.2 ⟨z, hz, by omega⟩)
      unfold rput
      rw [if_neg hJ, if_neg hJ]
      refine ⟨h.qm, ?_, ?_, h.turn, ?_, ?_, ?_, hnames, hlen, hle⟩
      · show r.tens = _
        rw [hadd, h.tens, hr]
        simp
      · show r.creds = _
        rw [hadd, h.creds, hr]
        simp
      · intro u hu
        show (r.jobs ++ [j]).filter (ofT u.num) = u.jobs
        have hu : u ∈ addR j q.ring := hu
        rw [hadd] at hu
        rw [List.filter_append]
        have key : ∀ z, z ∈ q.ring → z.num ≠ j.ten → r.jobs.filter (ofT z.num) ++ [j].filter (ofT z.num) = z.jobs := fun z hz hne => by
          have hne2 : j.ten ≠ z.num := fun e => hne e.symm
          rw [h.jobs z hz]
          simp [ofT, hne2]
        rcases List.mem_append.1 hu with hu | hu
        · exact key u (by rw [hr]; exact List.mem_append_left _ hu) (hab u hu)
        · rcases List.mem_cons.1 hu with rfl | hu
          · show r.jobs.filter (ofT t.num) ++ [j].filter (ofT t.num) = t.jobs ++ [j]
            rw [h.jobs t htm]
            simp [ofT, ht]
          · exact key u (by rw [hr]; exact List.mem_append_right _ (List.mem_cons_of_mem _ hu)) (hb u hu)
      · intro k hk
        show ∃ u ∈ addR j q.ring, u.num = k.ten
        rw [hadd]
        rcases List.mem_append.1 hk with hk | hk
        · obtain ⟨u, hu, e⟩ := h.own k hk
          rw [hr] at hu
          rcases List.mem_append.1 hu with hu | hu
          · exact ⟨u, List.mem_append_left _ hu, e⟩
          · rcases List.mem_cons.1 hu with rfl | hu
            · exact ⟨_, List.mem_append_right _ List.mem_cons_self, e⟩
            · exact ⟨u, List.mem_append_right _ (List.mem_cons_of_mem _ hu), e⟩
        · rw [List.mem_singleton.1 hk]
          exact ⟨_, List.mem_append_right _ List.mem_cons_self, ht⟩
      · show ((addR j q.ring).map Tn.num).Nodup
        rw [hadd]
        simpa using hnd
  · rw [if_neg hE, if_neg hE]
    exact h

/-- One is cut out of jobs whose names are unlike. -/
theorem cut1_filter {l : List Jb} (h : (l.map Jb.name).Nodup) (i : Nat) (hi : i < l.length) : cut1 l i = l.filter (fun j => !eqN j.name (l[i]).name) := by
  have hs : l = l.take i ++ l[i] :: l.drop (i + 1) := by rw [← List.drop_eq_getElem_cons hi, List.take_append_drop]
  unfold cut1
  generalize l[i] = j at *
  have key : ∀ m : List Jb, (∀ k ∈ m, k.name ≠ j.name) → m.filter (fun z => !eqN z.name j.name) = m := fun m hm => by
    rw [List.filter_eq_self]
    intro k hk
    rw [(eqN_no _ _).2 (hm k hk)]
    rfl
  generalize l.take i = a at *
  generalize l.drop (i + 1) = b at *
  subst hs
  rw [List.map_append, List.map_cons, List.nodup_append, List.nodup_cons] at h
  rw [List.filter_append, List.filter_cons, if_neg (by rw [(eqN_iff _ _).2 rfl]; decide)]
  rw [key a fun k hk e => h.2.2 k.name (List.mem_map.2 ⟨k, hk, rfl⟩) j.name List.mem_cons_self e, key b fun k hk e => h.2.1.1 (List.mem_map.2 ⟨k, hk, e⟩)]

def cutN {α : Type} (l : List α) (k : Nat) : List α := l.take k ++ l.drop (k + 1)
theorem cutN_mid {α : Type} (a : List α) (x : α) (b : List α) : cutN (a ++ x :: b) a.length = a ++ b := by
  unfold cutN
  rw [List.take_left, ← List.drop_drop, List.drop_left]
  rfl
theorem cut1_len {l : List Jb} {i : Nat} (hi : i < l.length) : (cut1 l i).length + 1 = l.length := by
  unfold cut1
  rw [List.length_append, List.length_take, List.length_drop]
  omega

/-- What holds of a tenant's names. -/
theorem Sim.tnames {q : Qu} {r : Rg} (h : Sim q r) {t : Tn} (ht : t ∈ q.ring) : (t.jobs.map Jb.name).Nodup := by
  rw [← h.jobs t ht]
  exact h.names.sublist (List.Sublist.map _ List.filter_sublist)

theorem filter_swap (l : List Jb) (p q : Jb → Bool) : (l.filter p).filter q = (l.filter q).filter p := by
  rw [List.filter_filter, List.filter_filter]
  congr 1
  funext x
  exact Bool.and_comm _ _

theorem name_inj : ∀ {l : List Jb}, (l.map Jb.name).Nodup → ∀ {x y : Jb}, x ∈ l → y ∈ l → x.name = y.name → x = y
  | [], _, _, _, hx, _, _ => by cases hx
  | a :: m, h, x, y, hx, hy, e => by
    rw [List.map_cons, List.nodup_cons] at h
    rcases List.mem_cons.1 hx with hx2 | hx2
    · rcases List.mem_cons.1 hy with hy2 | hy2
      · rw [hx2, hy2]
      · exact absurd (List.mem_map.2 ⟨y, hy2, by rw [← e, hx2]⟩) h.1
    · rcases List.mem_cons.1 hy with hy2 | hy2
      · exact absurd (List.mem_map.2 ⟨x, hx2, by rw [e, hy2]⟩) h.1
      · exact name_inj h.2 hx2 hy2 e

/-- The ring's row of jobs, without one, tenant by tenant. -/
theorem Sim.cutJ {q : Qu} {r : Rg} (h : Sim q r) {t : Tn} (ht : t ∈ q.ring) (k : Nat) (hk : k < t.jobs.length) (i : Nat) (hi : i < r.jobs.length) (he : (r.jobs[i]).name = (t.jobs[k]).name) :
    (cut1 r.jobs i).filter (ofT t.num) = cut1 t.jobs k ∧ ∀ u ∈ q.ring, u.num ≠ t.num → (cut1 r.jobs i).filter (ofT u.num) = u.jobs := by
  rw [cut1_filter h.names i hi, cut1_filter (h.tnames ht) k hk, he]
  refine ⟨by rw [filter_swap, h.jobs t ht], fun u hu hne => ?_⟩
  rw [filter_swap, h.jobs u hu, List.filter_eq_self]
  intro x hx
  have hxr : x ∈ r.jobs := (h.mem x).2 ⟨u, hu, hx⟩
  have hyr : t.jobs[k] ∈ r.jobs := (h.mem _).2 ⟨t, ht, List.getElem_mem hk⟩
  have hxt : x.ten = u.num := by
    rw [← h.jobs u hu] at hx
    simpa [ofT] using (List.mem_filter.1 hx).2
  have hyt : (t.jobs[k]).ten = t.num := by
    have hy := List.getElem_mem hk
    generalize t.jobs[k] = y at *
    rw [← h.jobs t ht] at hy
    simpa [ofT] using (List.mem_filter.1 hy).2
  have hnm : x.name ≠ (t.jobs[k]).name := fun e => by
    have e2 := name_inj h.names hxr hyr e
    rw [e2] at hxt
    omega
  rw [(eqN_no _ _).2 hnm]
  rfl

theorem cut_mem {l : List Jb} {i : Nat} {x : Jb} (h : x ∈ cut1 l i) : x ∈ l := by
  unfold cut1 at h
  rcases List.mem_append.1 h with h | h
  · exact List.mem_of_mem_take h
  · exact List.mem_of_mem_drop h

theorem Sim.names_cut {q : Qu} {r : Rg} (h : Sim q r) (i : Nat) : ((cut1 r.jobs i).map Jb.name).Nodup := by
  refine h.names.sublist (List.Sublist.map _ ?_)
  unfold cut1
  have e : r.jobs = r.jobs.take (i) ++ r.jobs.drop i := (List.take_append_drop i r.jobs).symm
  conv => rhs; rw [e]
  refine List.Sublist.append (List.Sublist.refl _) ?_
  rw [← List.drop_drop]
  exact List.drop_sublist _ _

/-- A job goes, its tenant stays. -/
theorem Sim.keep {q : Qu} {r : Rg} (h : Sim q r) {a b : List Tn} {t : Tn} (hr : q.ring = a ++ t :: b) (k : Nat) (hk : k < t.jobs.length) (i : Nat) (hi : i < r.jobs.length) (he : (r.jobs[i]).name = (t.jobs[k]).name) :
    Sim { q with ring := a ++ { t with jobs := cut1 t.jobs k } :: b } { r with jobs := cut1 r.jobs i } := by
  have ht : t ∈ q.ring := by rw [hr]; simp
  obtain ⟨c1, c2⟩ := h.cutJ ht k hk i hi he
  have hnd := h.nd
  rw [hr] at hnd
  have hb : ∀ z, z ∈ a ∨ z ∈ b → z.num ≠ t.num := fun z hz e => by
    rw [List.map_append, List.map_cons, List.nodup_append, List.nodup_cons] at hnd
    rcases hz with hz | hz
    · exact hnd.2.2 z.num (List.mem_map.2 ⟨z, hz, rfl⟩) t.num List.mem_cons_self e
    · exact hnd.2.1.1 (List.mem_map.2 ⟨z, hz, e⟩)
  have e1 := cut1_len hi
  have e2 := cut1_len hk
  have hl := h.len
  have hle := h.le
  have hs : sizeL (a ++ { t with jobs := cut1 t.jobs k } :: b) + 1 = sizeL q.ring := by
    rw [hr]
    have f1 : ∀ u : Tn, sizeL (a ++ u :: b) = sizeL a + (u.jobs.length + sizeL b) := fun u => by
      rw [sizeL_app]
      simp [sizeL]
    rw [f1, f1]
    show sizeL a + ((cut1 t.jobs k).length + sizeL b) + 1 = _
    omega
  refine ⟨h.qm, ?_, ?_, h.turn, ?_, ?_, ?_, h.names_cut i, ?_, ?_⟩
  · show r.tens = _
    rw [h.tens, hr]; simp
  · show r.creds = _
    rw [h.creds, hr]; simp
  · intro u hu
    rcases List.mem_append.1 hu with hu | hu
    · exact c2 u (by rw [hr]; exact List.mem_append_left _ hu) (hb u (.inl hu))
    · rcases List.mem_cons.1 hu with rfl | hu
      · exact c1
      · exact c2 u (by rw [hr]; exact List.mem_append_right _ (List.mem_cons_of_mem _ hu)) (hb u (.inr hu))
  · intro x hx
    obtain ⟨u, hu, e⟩ := h.own x (cut_mem hx)
    rw [hr] at hu
    rcases List.mem_append.1 hu with hu | hu
    · exact ⟨u, List.mem_append_left _ hu, e⟩
    · rcases List.mem_cons.1 hu with rfl | hu
      · exact ⟨_, List.mem_append_right _ List.mem_cons_self, e⟩
      · exact ⟨u, List.mem_append_right _ (List.mem_cons_of_mem _ hu), e⟩
  · show ((a ++ { t with jobs := cut1 t.jobs k } :: b).map Tn.num).Nodup
    simpa using hnd
  · show (cut1 r.jobs i).length = sizeL (a ++ { t with jobs := cut1 t.jobs k } :: b)
    omega
  · show sizeL (a ++ { t with jobs := cut1 t.jobs k } :: b) ≤ 200
    omega

/-- Its tenant goes with it. -/
theorem Sim.goes {q : Qu} {r : Rg} (h : Sim q r) {a b : List Tn} {t : Tn} (hr : q.ring = a ++ t :: b) (h1 : t.jobs.length = 1) (i : Nat) (hi : i < r.jobs.length) (he : (r.jobs[i]).name = (t.jobs[0]).name) :
    Sim { q with ring := a ++ b, beg := if a.length = 0 then false else q.beg } { r with jobs := cut1 r.jobs i, tens := cutN r.tens a.length, creds := cutN r.creds a.length, turn := if a.length = 0 then false else r.turn } := by
  have ht : t ∈ q.ring := by rw [hr]; simp
  obtain ⟨c1, c2⟩ := h.cutJ ht 0 (by omega) i hi he
  have hnd := h.nd
  rw [hr] at hnd
  have hb : ∀ z, z ∈ a ∨ z ∈ b → z.num ≠ t.num := fun z hz e => by
    rw [List.map_append, List.map_cons, List.nodup_append, List.nodup_cons] at hnd
    rcases hz with hz | hz
    · exact hnd.2.2 z.num (List.mem_map.2 ⟨z, hz, rfl⟩) t.num List.mem_cons_self e
    · exact hnd.2.1.1 (List.mem_map.2 ⟨z, hz, e⟩)
  have e1 := cut1_len hi
  have hl := h.len
  have hle := h.le
  have hs : sizeL (a ++ b) + 1 = sizeL q.ring := by
    rw [hr, sizeL_app, sizeL_app]
    have : sizeL (t :: b) = t.jobs.length + sizeL b := by simp [sizeL]
    omega
  have hc0 : (cut1 r.jobs i).filter (ofT t.num) = [] := by
    rw [c1]
    have := cut1_len (l := t.jobs) (i := 0) (by omega)
    exact List.length_eq_zero_iff.1 (by omega)
  refine ⟨h.qm, ?_, ?_, ?_, ?_, ?_, ?_, h.names_cut i, ?_, ?_⟩
  · show cutN r.tens a.length = _
    rw [h.tens, hr, List.map_append, List.map_cons]
    have := cutN_mid (a.map Tn.num) t.num (b.map Tn.num)
    rw [List.length_map] at this
    rw [this, List.map_append]
  · show cutN r.creds a.length = _
    rw [h.creds, hr, List.map_append, List.map_cons]
    have := cutN_mid (a.map Tn.cr) t.cr (b.map Tn.cr)
    rw [List.length_map] at this
    rw [this, List.map_append]
  · show (if a.length = 0 then false else r.turn) = _
    rw [h.turn]
  · intro u hu
    rcases List.mem_append.1 hu with hu | hu
    · exact c2 u (by rw [hr]; exact List.mem_append_left _ hu) (hb u (.inl hu))
    · exact c2 u (by rw [hr]; exact List.mem_append_right _ (List.mem_cons_of_mem _ hu)) (hb u (.inr hu))
  · intro x hx
    obtain ⟨u, hu, e⟩ := h.own x (cut_mem hx)
    rw [hr] at hu
    rcases List.mem_append.1 hu with hu | hu
    · exact ⟨u, List.mem_append_left _ hu, e⟩
    · rcases List.mem_cons.1 hu with rfl | hu
      · exfalso
        have : x ∈ (cut1 r.jobs i).filter (ofT u.num) := List.mem_filter.2 ⟨hx, by simp [ofT, e]⟩
        rw [hc0] at this
        cases this
      · exact ⟨u, List.mem_append_right _ hu, e⟩
  · show ((a ++ b).map Tn.num).Nodup
    rw [List.map_append, List.map_cons] at hnd
    rw [List.map_append]
    exact hnd.sublist (List.Sublist.append (List.Sublist.refl _) (List.sublist_cons_self _ _))
  · show (cut1 r.jobs i).length = sizeL (a ++ b)
    omega
  · show sizeL (a ++ b) ≤ 200
    omega

theorem Sim.new (m : Nat) : Sim ⟨m, [], false⟩ ⟨m, [], [], false, []⟩ :=
  ⟨rfl, rfl, rfl, rfl, (fun _ h => absurd h List.not_mem_nil), (fun _ h => absurd h List.not_mem_nil), List.nodup_nil, List.nodup_nil, rfl, Nat.zero_le _⟩

/-- The first one's credit is another one; its turn has begun, or not. -/
theorem Sim.first {q : Qu} {r : Rg} (h : Sim q r) {t : Tn} {s : List Tn} (hr : q.ring = t :: s) (c : Nat) (f : Bool) : Sim { q with ring := { t with cr := c } :: s, beg := f } { r with creds := c :: r.creds.tail, turn := f } := by
  have hnd := h.nd
  have hl := h.len
  have hle := h.le
  rw [hr] at hnd hl hle
  refine ⟨h.qm, ?_, ?_, rfl, ?_, ?_, by simpa using hnd, h.names, ?_, ?_⟩
  · show r.tens = _
    rw [h.tens, hr]; rfl
  · show c :: r.creds.tail = _
    rw [h.creds, hr]; rfl
  · intro u hu
    rcases List.mem_cons.1 hu with rfl | hu
    · exact h.jobs t (by rw [hr]; exact List.mem_cons_self)
    · exact h.jobs u (by rw [hr]; exact List.mem_cons_of_mem _ hu)
  · intro x hx
    obtain ⟨u, hu, e⟩ := h.own x hx
    rw [hr] at hu
    rcases List.mem_cons.1 hu with rfl | hu
    · exact ⟨_, List.mem_cons_self, e⟩
    · exact ⟨u, List.mem_cons_of_mem _ hu, e⟩
  · show r.jobs.length = _
    rw [hl]; simp [sizeL]
  · simpa [sizeL] using hle
/-- It goes to the end. -/
theorem Sim.turnOver {q : Qu} {r : Rg} (h : Sim q r) {t : Tn} {s : List Tn} (hr : q.ring = t :: s) : Sim q.over { r with tens := r.tens.tail ++ [t.num], creds := r.creds.tail ++ [t.cr], turn := false } := by
  rw [over_eq hr]
  have hnd := h.nd
  have hl := h.len
  have hle := h.le
  rw [hr] at hnd hl hle
  have e : sizeL (s ++ [t]) = sizeL (t :: s) := by
    rw [sizeL_app]
    simp [sizeL]
    omega
  refine ⟨h.qm, ?_, ?_, rfl, ?_, ?_, ?_, h.names, ?_, ?_⟩
  · show r.tens.tail ++ [t.num] = _
    rw [h.tens, hr]; simp
  · show r.creds.tail ++ [t.cr] = _
    rw [h.creds, hr]; simp
  · intro u hu
    refine h.jobs u ?_
    rw [hr]
    rcases List.mem_append.1 hu with hu | hu
    · exact List.mem_cons_of_mem _ hu
    · rw [List.mem_singleton.1 hu]; exact List.mem_cons_self
  · intro x hx
    obtain ⟨u, hu, e9⟩ := h.own x hx
    rw [hr] at hu
    rcases List.mem_cons.1 hu with rfl | hu
    · exact ⟨_, List.mem_append_right _ (List.mem_singleton.2 rfl), e9⟩
    · exact ⟨u, List.mem_append_left _ hu, e9⟩
  · show ((s ++ [t]).map Tn.num).Nodup
    rw [List.map_append, List.nodup_append]
    rw [List.map_cons, List.nodup_cons] at hnd
    refine ⟨hnd.2, by simp, fun a ha b hb e => hnd.1 ?_⟩
    have : b = t.num := by simpa using hb
    rw [← this, ← e]
    exact ha
  · show r.jobs.length = sizeL (s ++ [t])
    rw [e, hl]
  · show sizeL (s ++ [t]) ≤ 200
    rw [e]
    exact hle

theorem spunN_det : ∀ (n m : Nat) {q a b : Qu}, spunN n q a → spunN m q b → a = b
  | 0, 0, _, _, _, h1, h2 => h1.2.trans h2.2.symm
  | 0, _ + 1, _, _, _, h1, h2 => absurd h1.1 h2.1
  | _ + 1, 0, _, _, _, h1, h2 => absurd h2.1 h1.1
  | n + 1, m + 1, _, _, _, h1, h2 => spunN_det n m h1.2 h2.2
theorem Spun.det {q a b : Qu} (h1 : Spun q a) (h2 : Spun q b) : a = b := by
  obtain ⟨n, h1⟩ := h1
  obtain ⟨m, h2⟩ := h2
  exact spunN_det n m h1 h2
end Go.Proofs.Ytfddhdpnoliamaa
