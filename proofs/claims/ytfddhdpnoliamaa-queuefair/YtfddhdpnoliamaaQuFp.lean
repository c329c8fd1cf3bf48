/- Of two tenants who wait none gets much ahead: plain. -/
import Derived.Test.YtfddhdpnoliamaaQuSm
namespace Go.Proofs.Ytfddhdpnoliamaa
open Go.RowKit Go.Shelf

/-- What each tenant got, with what it may still spend. -/
structure Fr (q : Qu) (got : Nat → Nat) (D : Nat) : Prop where
  nd : (q.ring.map Tn.num).Nodup
  cost : ∀ t ∈ q.ring, ∀ j ∈ t.jobs, j.cost ≤ D
  lo : ∀ t ∈ q.ring.tail, t.cr ≤ D
  hd : ∀ t ∈ q.ring, t.cr ≤ D + q.qm
  hd2 : q.beg = false → ∀ t ∈ q.ring, t.cr ≤ D
  lv : ∃ m l1 l2, (∀ t ∈ l1, got t.num + t.cr = m) ∧ (∀ t ∈ l2, got t.num + t.cr = m + q.qm) ∧ ((q.beg = true ∧ ∃ t0, q.ring = t0 :: (l1 ++ l2) ∧ got t0.num + t0.cr = m + q.qm) ∨ (q.beg = false ∧ q.ring = l1 ++ l2))

theorem Fr.fair {q : Qu} {got : Nat → Nat} {D : Nat} (h : Fr q got D) {t u : Tn} (ht : t ∈ q.ring) (hu : u ∈ q.ring) : got t.num ≤ got u.num + (q.qm + D) := by
  obtain ⟨m, l1, l2, h1, h2, h3⟩ := h.lv
  have key : ∀ x ∈ l1 ++ l2, m ≤ got x.num + x.cr ∧ got x.num + x.cr ≤ m + q.qm := fun x hx => by
    rcases List.mem_append.1 hx with e | e
    · have := h1 x e; omega
    · have := h2 x e; omega
  rcases h3 with ⟨hb, t0, hr, h0⟩ | ⟨hb, hr⟩
  · have up : ∀ x ∈ q.ring, got x.num ≤ m + q.qm := fun x hx => by
      rw [hr] at hx
      rcases List.mem_cons.1 hx with rfl | hx
      · omega
      · have := key x hx; omega
    have lw : m ≤ got u.num + D := by
      have hh := h.hd u hu
      have hlo := h.lo
      rw [hr] at hu hlo
      rcases List.mem_cons.1 hu with e | e
      · rw [← e] at h0; omega
      · have := key u e
        have := hlo u e
        omega
    have := up t ht
    omega
  · have hu2 := hu
    rw [hr] at ht hu2
    have := key t ht
    have := key u hu2
    have := h.hd2 hb u hu
    omega

theorem Fr.start {q : Qu} {got : Nat → Nat} {D : Nat} (h : Fr q got D) : Fr q.start got D := by
  cases hr : q.ring with
  | nil => unfold Qu.start; rw [hr]; exact h
  | cons t r =>
    cases hb : q.beg with
    | true => rw [start_beg hb]; exact h
    | false =>
      rw [start_new hr hb]
      have hnd := h.nd
      have hlo := h.lo
      have hd2 := h.hd2 hb
      rw [hr] at hnd hlo hd2
      refine ⟨by simpa using hnd, ?_, hlo, ?_, (fun e => by cases e), ?_⟩
      · intro x hx j hj
        rcases List.mem_cons.1 hx with rfl | hx
        · exact h.cost t (by rw [hr]; exact List.mem_cons_self) j hj
        · exact h.cost x (by rw [hr]; exact List.mem_cons_of_mem _ hx) j hj
      · intro x hx
        rcases List.mem_cons.1 hx with rfl | hx
        · have := hd2 t List.mem_cons_self
          show t.cr + q.qm ≤ D + q.qm
          omega
        · exact h.hd x (by rw [hr]; exact List.mem_cons_of_mem _ hx)
      · obtain ⟨m, l1, l2, h1, h2, h3⟩ := h.lv
        rcases h3 with ⟨e, _⟩ | ⟨_, h3⟩
        · rw [hb] at e; cases e
        rw [hr] at h3
        cases l1 with
        | cons a l1 =>
          have h3' : t :: r = a :: (l1 ++ l2) := h3
          injection h3' with ha hrr
          subst ha
          refine ⟨m, l1, l2, fun x hx => h1 x (List.mem_cons_of_mem _ hx), h2, .inl ⟨rfl, _, by rw [hrr], ?_⟩⟩
          have := h1 t List.mem_cons_self
          show got t.num + (t.cr + q.qm) = m + q.qm
          omega
        | nil =>
          have h3' : t :: r = l2 := h3
          refine ⟨m + q.qm, r, [], fun x hx => h2 x (by rw [← h3']; exact List.mem_cons_of_mem _ hx), (fun x hx => by cases hx), .inl ⟨rfl, _, by rw [List.append_nil], ?_⟩⟩
          have := h2 t (by rw [← h3']; exact List.mem_cons_self)
          show got t.num + (t.cr + q.qm) = m + q.qm + q.qm
          omega

theorem Fr.over {q : Qu} {got : Nat → Nat} {D : Nat} (h : Fr q got D) {t : Tn} {r : List Tn} (hr : q.ring = t :: r) (hb : q.beg = true) (hc : t.cr ≤ D) : Fr q.over got D := by
  rw [over_eq hr]
  have hnd := h.nd
  have hlo := h.lo
  rw [hr] at hnd hlo
  have hall : ∀ x ∈ r ++ [t], x.cr ≤ D := fun x hx => by
    rcases List.mem_append.1 hx with e | e
    · exact hlo x e
    · rw [List.mem_singleton.1 e]; exact hc
  have hmem : ∀ x ∈ r ++ [t], x ∈ q.ring := fun x hx => by rw [hr]; rcases List.mem_append.1 hx with e | e <;> simp_all
  refine ⟨?_, fun x hx => h.cost x (hmem x hx), fun x hx => hall x (List.mem_of_mem_tail hx), fun x hx => h.hd x (hmem x hx), fun _ => hall, ?_⟩
  · show ((r ++ [t]).map Tn.num).Nodup
    rw [List.map_append, List.nodup_append]
    rw [List.map_cons, List.nodup_cons] at hnd
    refine ⟨hnd.2, by simp, fun a ha b hb e => hnd.1 ?_⟩
    have : b = t.num := by simpa using hb
    rw [← this, ← e]
    exact ha
  · obtain ⟨m, l1, l2, h1, h2, h3⟩ := h.lv
    rcases h3 with ⟨_, t0, h3, h0⟩ | ⟨e, _⟩
    · rw [hr] at h3
      injection h3 with ha hrr
      refine ⟨m, l1, l2 ++ [t], h1, fun x hx => ?_, .inr ⟨rfl, ?_⟩⟩
      · rcases List.mem_append.1 hx with e | e
        · exact h2 x e
        · rw [List.mem_singleton.1 e, ha]; exact h0
      · show r ++ [t] = _
        rw [hrr, List.append_assoc]
    · rw [hb] at e; cases e

/-- Whose jobs wait, and which. -/
structure Rm (q : Qu) (L : Nat → List Jb) : Prop where
  jobs : ∀ t ∈ q.ring, L t.num = t.jobs
  own : ∀ n, L n ≠ [] → ∃ t ∈ q.ring, t.num = n
  ten : ∀ t ∈ q.ring, ∀ j ∈ t.jobs, j.ten = t.num

theorem Rm.start {q : Qu} {L : Nat → List Jb} (h : Rm q L) : Rm q.start L := by
  cases hr : q.ring with
  | nil => unfold Qu.start; rw [hr]; exact h
  | cons t r =>
    cases hb : q.beg with
    | true => rw [start_beg hb]; exact h
    | false =>
      rw [start_new hr hb]
      have ht : t ∈ q.ring := by rw [hr]; exact List.mem_cons_self
      have hm : ∀ x ∈ r, x ∈ q.ring := fun x hx => by rw [hr]; exact List.mem_cons_of_mem _ hx
      refine ⟨?_, ?_, ?_⟩
      · intro x hx
        rcases List.mem_cons.1 hx with rfl | hx
        · exact h.jobs t ht
        · exact h.jobs x (hm x hx)
      · intro n hn
        obtain ⟨x, hx, e⟩ := h.own n hn
        rw [hr] at hx
        rcases List.mem_cons.1 hx with rfl | hx
        · exact ⟨_, List.mem_cons_self, e⟩
        · exact ⟨x, List.mem_cons_of_mem _ hx, e⟩
      · intro x hx
        rcases List.mem_cons.1 hx with rfl | hx
        · exact h.ten t ht
        · exact h.ten x (hm x hx)
theorem Rm.over {q : Qu} {L : Nat → List Jb} (h : Rm q L) {t : Tn} {r : List Tn} (hr : q.ring = t :: r) : Rm q.over L := by
  rw [over_eq hr]
  have hmem : ∀ x, x ∈ r ++ [t] ↔ x ∈ q.ring := fun x => by rw [hr]; simp [or_comm]
  exact ⟨fun x hx => h.jobs x ((hmem x).1 hx), fun n hn => by
    obtain ⟨x, hx, e⟩ := h.own n hn
    exact ⟨x, (hmem x).2 hx, e⟩, fun x hx => h.ten x ((hmem x).1 hx)⟩

theorem spun_keeps {q p : Qu} (hs : Spun q p) {got : Nat → Nat} {D : Nat} {L : Nat → List Jb} : QI q → q.ring ≠ [] → Fr q got D → Rm q L → Fr p got D ∧ Rm p L ∧ p.beg = true := by
  refine Spun.ind (M := fun q p => QI q → q.ring ≠ [] → Fr q got D → Rm q L → Fr p got D ∧ Rm p L ∧ p.beg = true) ?_ ?_ hs
  · intro q hm _ hne hf hr
    obtain ⟨t, r, hrr⟩ : ∃ t r, q.ring = t :: r := by
      cases e : q.ring with
      | nil => exact absurd e hne
      | cons t r => exact ⟨t, r, rfl⟩
    refine ⟨hf.start, hr.start, ?_⟩
    cases hb : q.beg with
    | true => rw [start_beg hb]; exact hb
    | false => rw [start_new hrr hb]
  · intro q p hm ih hi hne hf hr
    obtain ⟨t, r, hrr⟩ : ∃ t r, q.ring = t :: r := by
      cases e : q.ring with
      | nil => exact absurd e hne
      | cons t r => exact ⟨t, r, rfl⟩
    have hbg : q.start.beg = true := by
      cases hb : q.beg with
      | true => rw [start_beg hb]; exact hb
      | false => rw [start_new hrr hb]
    obtain ⟨t1, s1, hr1⟩ : ∃ t1 s1, q.start.ring = t1 :: s1 := by
      cases hb : q.beg with
      | true => rw [start_beg hb]; exact ⟨t, r, hrr⟩
      | false => rw [start_new hrr hb]; exact ⟨_, _, rfl⟩
    have hQ := hi.start
    obtain ⟨j, js, hj⟩ : ∃ j js, t1.jobs = j :: js := by
      cases e : t1.jobs with
      | nil => exact absurd e (hQ.ne t1 (by rw [hr1]; exact List.mem_cons_self))
      | cons j js => exact ⟨j, js, rfl⟩
    have hc : ¬ j.cost ≤ t1.cr := fun e => hm ⟨t1, s1, j, js, hr1, hj, e⟩
    have hcD := hf.start.cost t1 (by rw [hr1]; exact List.mem_cons_self) j (by rw [hj]; exact List.mem_cons_self)
    have hc1 := (hQ.cost t1 (by rw [hr1]; exact List.mem_cons_self) j (by rw [hj]; exact List.mem_cons_self)).2
    refine ih (hQ.over hr1 (by omega)) ?_ (hf.start.over hr1 hbg (by omega)) (hr.start.over hr1)
    rw [over_eq hr1]
    simp

def upd {α : Type} (f : Nat → α) (n : Nat) (x : α) : Nat → α := fun k => if k = n then x else f k
theorem upd_at {α : Type} (f : Nat → α) (n : Nat) (x : α) : upd f n x n = x := if_pos rfl
theorem upd_no {α : Type} (f : Nat → α) {n k : Nat} (x : α) (h : k ≠ n) : upd f n x k = f k := if_neg h

theorem gone_keeps {p : Qu} {got : Nat → Nat} {D : Nat} {L : Nat → List Jb} (hf : Fr p got D) (hr : Rm p L) (hb : p.beg = true) {t : Tn} {s : List Tn} {j : Jb} {js : List Jb} (hp : p.ring = t :: s) (hj : t.jobs = j :: js) (hc : j.cost ≤ t.cr) :
    Fr p.gone (upd got t.num (got t.num + j.cost)) D ∧ Rm p.gone (upd L t.num js) ∧ L t.num = j :: js ∧ j.ten = t.num := by
  have ht : t ∈ p.ring := by rw [hp]; exact List.mem_cons_self
  have hm : ∀ x ∈ s, x ∈ p.ring := fun x hx => by rw [hp]; exact List.mem_cons_of_mem _ hx
  have hnd := hf.nd
  rw [hp, List.map_cons, List.nodup_cons] at hnd
  have hno : ∀ x ∈ s, x.num ≠ t.num := fun x hx e => hnd.1 (List.mem_map.2 ⟨x, hx, e⟩)
  obtain ⟨m, l1, l2, h1, h2, h3⟩ := hf.lv
  obtain ⟨t0, h30, h0⟩ : ∃ t0, p.ring = t0 :: (l1 ++ l2) ∧ got t0.num + t0.cr = m + p.qm := by
    rcases h3 with ⟨_, h3⟩ | ⟨e, _⟩
    · exact h3
    · rw [hb] at e; cases e
  rw [hp] at h30
  injection h30 with e0 es
  subst e0
  have hlo := hf.lo
  rw [hp] at hlo
  have hlo2 : ∀ x ∈ s, x.cr ≤ D := hlo
  have hl1 : ∀ x ∈ l1, x ∈ s := fun x hx => by rw [es]; exact List.mem_append_left _ hx
  have hl2 : ∀ x ∈ l2, x ∈ s := fun x hx => by rw [es]; exact List.mem_append_right _ hx
  refine ⟨?_, ?_, (hr.jobs t ht).trans hj, hr.ten t ht j (by rw [hj]; exact List.mem_cons_self)⟩
  · unfold Qu.gone
    rw [hp]
    simp only [hj]
    by_cases e : js = []
    · rw [if_pos e]
      refine ⟨hnd.2, fun x hx => hf.cost x (hm x hx), fun x hx => hlo2 x (List.mem_of_mem_tail hx), fun x hx => hf.hd x (hm x hx), fun _ => hlo2, m, l1, l2, fun x hx => ?_, fun x hx => ?_, .inr ⟨rfl, es⟩⟩
      · rw [upd_no _ _ (hno x (hl1 x hx))]; exact h1 x hx
      · rw [upd_no _ _ (hno x (hl2 x hx))]; exact h2 x hx
    · rw [if_neg e]
      refine ⟨?_, ?_, hlo2, ?_, (fun e => by rw [show p.beg = true from hb] at e; cases e), m, l1, l2, fun x hx => ?_, fun x hx => ?_, .inl ⟨hb, _, by rw [es], ?_⟩⟩
      · show (t.num :: s.map Tn.num).Nodup
        rw [List.nodup_cons]
        exact hnd
      · intro x hx k hk
        rcases List.mem_cons.1 hx with rfl | hx
        · exact hf.cost t ht k (by rw [hj]; exact List.mem_cons_of_mem _ hk)
        · exact hf.cost x (hm x hx) k hk
      · intro x hx
        rcases List.mem_cons.1 hx with rfl | hx
        · have := hf.hd t ht
          show t.cr - j.cost ≤ D + p.qm
          omega
        · exact hf.hd x (hm x hx)
      · rw [upd_no _ _ (hno x (hl1 x hx))]; exact h1 x hx
      · rw [upd_no _ _ (hno x (hl2 x hx))]; exact h2 x hx
      · show upd got t.num _ t.num + (t.cr - j.cost) = m + p.qm
        rw [upd_at]
        omega
  · unfold Qu.gone
    rw [hp]
    simp only [hj]
    by_cases e : js = []
    · rw [if_pos e]
      refine ⟨fun x hx => ?_, fun n hn => ?_, fun x hx => hr.ten x (hm x hx)⟩
      · rw [upd_no _ _ (hno x hx)]; exact hr.jobs x (hm x hx)
      · by_cases en : n = t.num
        · subst en
          rw [upd_at] at hn
          exact absurd e hn
        · rw [upd_no _ _ en] at hn
          obtain ⟨x, hx, ex⟩ := hr.own n hn
          rw [hp] at hx
          rcases List.mem_cons.1 hx with rfl | hx
          · exact absurd ex.symm en
          · exact ⟨x, hx, ex⟩
    · rw [if_neg e]
      refine ⟨fun x hx => ?_, fun n hn => ?_, fun x hx => ?_⟩
      · rcases List.mem_cons.1 hx with rfl | hx
        · exact upd_at _ _ _
        · rw [upd_no _ _ (hno x hx)]; exact hr.jobs x (hm x hx)
      · by_cases en : n = t.num
        · exact ⟨_, List.mem_cons_self, en.symm⟩
        · rw [upd_no _ _ en] at hn
          obtain ⟨x, hx, ex⟩ := hr.own n hn
          rw [hp] at hx
          rcases List.mem_cons.1 hx with rfl | hx
          · exact absurd ex.symm en
          · exact ⟨x, List.mem_cons_of_mem _ hx, ex⟩
      · rcases List.mem_cons.1 hx with rfl | hx
        · exact fun k hk => hr.ten t ht k (by rw [hj]; exact List.mem_cons_of_mem _ hk)
        · exact hr.ten x (hm x hx)

/-- A job is put, while nobody has had a turn. -/
structure Fresh (q : Qu) (D : Nat) : Prop where
  nd : (q.ring.map Tn.num).Nodup
  cost : ∀ t ∈ q.ring, ∀ j ∈ t.jobs, j.cost ≤ D
  cr : ∀ t ∈ q.ring, t.cr = 0
  beg : q.beg = false
theorem Fresh.fr {q : Qu} {D : Nat} (h : Fresh q D) : Fr q (fun _ => 0) D :=
  ⟨h.nd, h.cost, fun t ht => by rw [h.cr t (List.mem_of_mem_tail ht)]; exact Nat.zero_le _, fun t ht => by rw [h.cr t ht]; exact Nat.zero_le _, fun _ t ht => by rw [h.cr t ht]; exact Nat.zero_le _, 0, q.ring, [], fun t ht => by rw [h.cr t ht], fun t ht => (by cases ht), .inr ⟨h.beg, by rw [List.append_nil]⟩⟩
theorem Fresh.add {q : Qu} {D D' : Nat} {L : Nat → List Jb} (h : Fresh q D) (hr : Rm q L) (j : Jb) (hD : D ≤ D') (hj : j.cost ≤ D') : Fresh { q with ring := addR j q.ring } D' ∧ Rm { q with ring := addR j q.ring } (upd L j.ten (L j.ten ++ [j])) := by
  rcases plc_cases j.ten q.ring with ⟨_, hno⟩ | ⟨a, t, b, hq, ht, hab, _⟩
  · have hadd := addR_new j q.ring hno
    have hL : L j.ten = [] := by
      by_cases e : L j.ten = []
      · exact e
      · obtain ⟨t, ht, e2⟩ := hr.own _ e
        exact absurd e2 (hno t ht)
    refine ⟨⟨?_, ?_, ?_, h.beg⟩, ⟨?_, ?_, ?_⟩⟩
    · show ((addR j q.ring).map Tn.num).Nodup
      rw [hadd, List.map_append, List.nodup_append]
      refine ⟨h.nd, by simp, fun x hx y hy => ?_⟩
      obtain ⟨t, ht, rfl⟩ := List.mem_map.1 hx
      have : y = j.ten := by simpa using hy
      rw [this]
      exact hno t ht
    · intro t ht k hk
      have ht : t ∈ addR j q.ring := ht
      rw [hadd] at ht
      rcases List.mem_append.1 ht with ht | ht
      · have := h.cost t ht k hk; omega
      · rw [List.mem_singleton.1 ht] at hk
        have : k = j := by simpa using hk
        rw [this]; exact hj
    · intro t ht
      have ht : t ∈ addR j q.ring := ht
      rw [hadd] at ht
      rcases List.mem_append.1 ht with ht | ht
      · exact h.cr t ht
      · rw [List.mem_singleton.1 ht]
    · intro t ht
      have ht : t ∈ addR j q.ring := ht
      rw [hadd] at ht
      rcases List.mem_append.1 ht with ht | ht
      · rw [upd_no _ _ (hno t ht)]; exact hr.jobs t ht
      · rw [List.mem_singleton.1 ht]
        show upd L j.ten _ j.ten = [j]
        rw [upd_at, hL]; rfl
    · intro n hn
      show ∃ t ∈ addR j q.ring, t.num = n
      rw [hadd]
      by_cases e : n = j.ten
      · exact ⟨_, List.mem_append_right _ (List.mem_singleton.2 rfl), e.symm⟩
      · rw [upd_no _ _ e] at hn
        obtain ⟨t, ht, e2⟩ := hr.own n hn
        exact ⟨t, List.mem_append_left _ ht, e2⟩
    · intro t ht k hk
      have ht : t ∈ addR j q.ring := ht
      rw [hadd] at ht
      rcases List.mem_append.1 ht with ht | ht
      · exact hr.ten t ht k hk
      · rw [List.mem_singleton.1 ht] at hk ⊢
        have : k = j := by simpa using hk
        rw [this]
  · have hadd : addR j q.ring = a ++ { t with jobs := t.jobs ++ [j] } :: b := by rw [hq]; exact addR_old j a t b ht hab
    have htm : t ∈ q.ring := by rw [hq]; simp
    have hnd := h.nd
    rw [hq] at hnd
    have hb : ∀ z, z ∈ a ∨ z ∈ b → z.num ≠ j.ten ∧ z ∈ q.ring := fun z hz => by
      rcases hz with hz | hz
      · exact ⟨hab z hz, by rw [hq]; exact List.mem_append_left _ hz⟩
      · refine ⟨fun e => ?_, by rw [hq]; exact List.mem_append_right _ (List.mem_cons_of_mem _ hz)⟩
        rw [List.map_append, List.map_cons, List.nodup_append, List.nodup_cons] at hnd
        exact hnd.2.1.1 (List.mem_map.2 ⟨z, hz, by omega⟩)
    have cases3 : ∀ x ∈ addR j q.ring, x = { t with jobs := t.jobs ++ [j] } ∨ (x.num ≠ j.ten ∧ x ∈ q.ring) := fun x hx => by
      rw [hadd] at hx
      rcases List.mem_append.1 hx with hx | hx
      · exact .inr (hb x (.inl hx))
      · rcases List.mem_cons.1 hx with rfl | hx
        · exact .inl rfl
        · exact .inr (hb x (.inr hx))
    refine ⟨⟨?_, ?_, ?_, h.beg⟩, ⟨?_, ?_, ?_⟩⟩
    · show ((addR j q.ring).map Tn.num).Nodup
      rw [hadd]
      simpa using hnd
    · intro x hx k hk
      rcases cases3 x hx with rfl | ⟨_, hx⟩
      · rcases List.mem_append.1 hk with hk | hk
        · have := h.cost t htm k hk; omega
        · rw [List.mem_singleton.1 hk]; exact hj
      · have := h.cost x hx k hk; omega
    · intro x hx
      rcases cases3 x hx with rfl | ⟨_, hx⟩
      · exact h.cr t htm
      · exact h.cr x hx
    · intro x hx
      rcases cases3 x hx with rfl | ⟨hn, hx⟩
      · show upd L j.ten _ t.num = t.jobs ++ [j]
        rw [ht, upd_at, ← ht, hr.jobs t htm]
      · rw [upd_no _ _ hn]; exact hr.jobs x hx
    · intro n hn
      show ∃ x ∈ addR j q.ring, x.num = n
      rw [hadd]
      by_cases e : n = j.ten
      · exact ⟨_, List.mem_append_right _ List.mem_cons_self, by rw [e]; exact ht⟩
      · rw [upd_no _ _ e] at hn
        obtain ⟨x, hx, e2⟩ := hr.own n hn
        rw [hq] at hx
        rcases List.mem_append.1 hx with hx | hx
        · exact ⟨x, List.mem_append_left _ hx, e2⟩
        · rcases List.mem_cons.1 hx with rfl | hx
          · exact absurd (by omega) e
          · exact ⟨x, List.mem_append_right _ (List.mem_cons_of_mem _ hx), e2⟩
    · intro x hx k hk
      rcases cases3 x hx with rfl | ⟨_, hx⟩
      · rcases List.mem_append.1 hk with hk | hk
        · exact hr.ten t htm k hk
        · rw [List.mem_singleton.1 hk]; exact ht.symm
      · exact hr.ten x hx k hk
end Go.Proofs.Ytfddhdpnoliamaa
