/- Whose turn it is, plain. -/
import Derived.Test.YtfddhdpnoliamaaQuO
import Derived.Deep.LoopGhost
namespace Go.Proofs.Ytfddhdpnoliamaa
open Go.RowKit Go.Shelf

/-- The first one's turn begins, if it has not. -/
def Qu.start (q : Qu) : Qu := match q.ring with | [] => q | t :: r => if q.beg = true then q else { q with ring := { t with cr := t.cr + q.qm } :: r, beg := true }
/-- Its first job costs no more than its credit. -/
def Qu.may (q : Qu) : Prop := ∃ t r j js, q.ring = t :: r ∧ t.jobs = j :: js ∧ j.cost ≤ t.cr
/-- Its turn is over. -/
def Qu.over (q : Qu) : Qu := match q.ring with | [] => q | t :: r => { q with ring := r ++ [t], beg := false }
/-- Turns go on till a job may go. -/
def spunN : Nat → Qu → Qu → Prop
  | 0, q, r => q.start.may ∧ r = q.start
  | n + 1, q, r => ¬ q.start.may ∧ spunN n q.start.over r
def Spun (q r : Qu) : Prop := ∃ n, spunN n q r
theorem Spun.stop {q : Qu} (h : q.start.may) : Spun q q.start := ⟨0, h, rfl⟩
theorem Spun.go {q r : Qu} (h : ¬ q.start.may) (hr : Spun q.start.over r) : Spun q r := by
  obtain ⟨n, hn⟩ := hr
  exact ⟨n + 1, h, hn⟩
theorem Spun.ind {M : Qu → Qu → Prop} (h1 : ∀ q : Qu, q.start.may → M q q.start) (h2 : ∀ q r : Qu, ¬ q.start.may → M q.start.over r → M q r) {q r : Qu} (h : Spun q r) : M q r := by
  obtain ⟨n, hn⟩ := h
  induction n generalizing q with
  | zero =>
    obtain ⟨a, b⟩ := hn
    rw [b]
    exact h1 q a
  | succ n ih => exact h2 q r hn.1 (ih hn.2)
/-- The job goes. -/
def Qu.gone (q : Qu) : Qu := match q.ring with
  | [] => q
  | t :: r => match t.jobs with
    | [] => q
    | j :: js => if js = [] then { q with ring := r, beg := false } else { q with ring := { t with cr := t.cr - j.cost, jobs := js } :: r }

/-- What holds of a queue. -/
structure QI (q : Qu) : Prop where
  b : QB q
  ne : ∀ t ∈ q.ring, t.jobs ≠ []
  cost : ∀ t ∈ q.ring, ∀ j ∈ t.jobs, 1 ≤ j.cost ∧ j.cost ≤ 1000
  cr : ∀ t ∈ q.ring, t.cr ≤ 2000
  lo : q.beg = false → ∀ t ∈ q.ring, t.cr ≤ 1000
  lo2 : ∀ t ∈ q.ring.tail, t.cr ≤ 1000

def defi (l : List Tn) : Nat := (l.map fun t => 1001 - t.cr).sum
def mea (q : Qu) : Nat := defi q.ring + (if q.beg = true then 1 else 0)
theorem defi_app (l m : List Tn) : defi (l ++ m) = defi l + defi m := by unfold defi; simp
theorem defi_cons (t : Tn) (l : List Tn) : defi (t :: l) = (1001 - t.cr) + defi l := by unfold defi; simp

theorem start_beg {q : Qu} (hb : q.beg = true) : q.start = q := by unfold Qu.start; cases q.ring with | nil => rfl | cons t r => simp [hb]
theorem start_new {q : Qu} {t : Tn} {r : List Tn} (hr : q.ring = t :: r) (hb : q.beg = false) : q.start = { q with ring := { t with cr := t.cr + q.qm } :: r, beg := true } := by unfold Qu.start; rw [hr]; simp [hb]
theorem over_eq {q : Qu} {t : Tn} {r : List Tn} (hr : q.ring = t :: r) : q.over = { q with ring := r ++ [t], beg := false } := by unfold Qu.over; rw [hr]

theorem QI.start {q : Qu} (h : QI q) : QI q.start := by
  cases hr : q.ring with
  | nil => unfold Qu.start; rw [hr]; exact h
  | cons t r =>
    cases hb : q.beg with
    | true => rw [start_beg hb]; exact h
    | false =>
      rw [start_new hr hb]
      have hlo := h.lo hb
      have hmem : ∀ x ∈ r, x ∈ q.ring := fun x hx => by rw [hr]; exact List.mem_cons_of_mem _ hx
      have ht : t ∈ q.ring := by rw [hr]; exact List.mem_cons_self
      have h2 := h.b.q2
      refine ⟨⟨h.b.q1, h.b.q2, ?_, ?_⟩, ?_, ?_, ?_, ?_, ?_⟩
      · have := h.b.len; rw [hr] at this; simpa using this
      · have := h.b.jobs; rw [hr] at this; simpa [sizeL] using this
      · intro x hx
        rcases List.mem_cons.1 hx with rfl | hx
        · exact h.ne t ht
        · exact h.ne x (hmem x hx)
      · intro x hx
        rcases List.mem_cons.1 hx with rfl | hx
        · exact h.cost t ht
        · exact h.cost x (hmem x hx)
      · intro x hx
        rcases List.mem_cons.1 hx with rfl | hx
        · have := hlo t ht; show t.cr + q.qm ≤ 2000; omega
        · exact h.cr x (hmem x hx)
      · intro hh; cases hh
      · intro x hx
        have := h.lo2; rw [hr] at this
        exact this x hx
theorem QI.over {q : Qu} (h : QI q) {t : Tn} {r : List Tn} (hr : q.ring = t :: r) (hc : t.cr ≤ 1000) : QI q.over := by
  rw [over_eq hr]
  have hmem : ∀ x ∈ r ++ [t], x ∈ q.ring := fun x hx => by rw [hr]; rcases List.mem_append.1 hx with e | e <;> simp_all
  have hl2 : ∀ x ∈ r ++ [t], x.cr ≤ 1000 := fun x hx => by
    rcases List.mem_append.1 hx with e | e
    · have := h.lo2; rw [hr] at this; exact this x e
    · rw [List.mem_singleton.1 e]; exact hc
  refine ⟨⟨h.b.q1, h.b.q2, ?_, ?_⟩, fun x hx => h.ne x (hmem x hx), fun x hx => h.cost x (hmem x hx), fun x hx => h.cr x (hmem x hx), fun _ => hl2, fun x hx => hl2 x (List.mem_of_mem_tail hx)⟩
  · have := h.b.len; rw [hr] at this; simpa using this
  · have := h.b.jobs; rw [hr] at this
    show sizeL (r ++ [t]) ≤ 1000
    rw [sizeL_app]
    have e : sizeL (t :: r) = sizeL [t] + sizeL r := sizeL_app [t] r
    omega
/-- A turn that is over leaves less to come. -/
theorem mea_turn {q : Qu} (h : QI q) {t : Tn} {r : List Tn} {j : Jb} {js : List Jb} (hr : q.start.ring = t :: r) (hj : t.jobs = j :: js) (hc : ¬ j.cost ≤ t.cr) : mea q.start.over < mea q := by
  have hct := (h.start.cost t (by rw [hr]; exact List.mem_cons_self) j (by rw [hj]; exact List.mem_cons_self)).2
  have e1 : mea q.start.over = defi r + (1001 - t.cr) := by
    rw [over_eq hr]
    show defi (r ++ [t]) + _ = _
    rw [defi_app, defi_cons]
    simp [defi]
  rw [e1]
  cases hb : q.beg with
  | true =>
    rw [start_beg hb] at hr
    unfold mea
    rw [hr, hb, defi_cons]
    simp
    omega
  | false =>
    cases hr2 : q.ring with
    | nil => unfold Qu.start at hr; rw [hr2] at hr; simp [hr2] at hr
    | cons u s =>
      rw [start_new hr2 hb] at hr
      cases hr
      unfold mea
      rw [hr2, hb, defi_cons]
      have := h.b.q1
      simp at hc hct ⊢
      omega
end Go.Proofs.Ytfddhdpnoliamaa
