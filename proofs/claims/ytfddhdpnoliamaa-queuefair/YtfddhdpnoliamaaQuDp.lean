/- Drop; and all names that wait. -/
import Derived.Test.YtfddhdpnoliamaaQuBg
namespace Go.Proofs.Ytfddhdpnoliamaa
open Go.RowKit Go.Shelf

def nmsT (t : Tn) : List ByteArray := t.jobs.map Jb.name
def allN (l : List Tn) : List ByteArray := l.flatMap nmsT
theorem allN_app (l m : List Tn) : allN (l ++ m) = allN l ++ allN m := by unfold allN; simp
theorem allN_cons (t : Tn) (l : List Tn) : allN (t :: l) = nmsT t ++ allN l := by unfold allN; simp
theorem allN_len (l : List Tn) : (allN l).length = sizeL l := by
  induction l with
  | nil => rfl
  | cons t r ih =>
    rw [allN_cons, List.length_append, ih]
    simp [nmsT, sizeL]
theorem mem_allN (l : List Tn) (s : ByteArray) : s ∈ allN l ↔ hasN l s = true := by
  unfold allN hasN nmsT
  rw [List.mem_flatMap, List.any_eq_true]
  constructor
  · rintro ⟨t, ht, hs⟩
    obtain ⟨j, hj, rfl⟩ := List.mem_map.1 hs
    exact ⟨t, ht, List.any_eq_true.2 ⟨j, hj, (eqN_iff _ _).2 rfl⟩⟩
  · rintro ⟨t, ht, hs⟩
    obtain ⟨j, hj, he⟩ := List.any_eq_true.1 hs
    exact ⟨t, ht, List.mem_map.2 ⟨j, hj, (eqN_iff _ _).1 he⟩⟩
theorem allN_addR (j : Jb) : ∀ l : List Tn, (allN (addR j l)).Perm (j.name :: allN l)
  | [] => by simp [addR, allN, nmsT]
  | t :: r => by
    unfold addR
    split
    · rw [allN_cons, allN_cons]
      have : nmsT { t with jobs := t.jobs ++ [j] } = nmsT t ++ [j.name] := by simp [nmsT]
      rw [this, List.append_assoc]
      exact List.perm_middle
    · rw [allN_cons, allN_cons]
      exact ((allN_addR j r).append_left _).trans List.perm_middle
theorem allN_start (q : Qu) : allN q.start.ring = allN q.ring := by
  cases hr : q.ring with
  | nil => unfold Qu.start; rw [hr]; simp [hr]
  | cons t r =>
    cases hb : q.beg with
    | true => rw [start_beg hb, hr]
    | false => rw [start_new hr hb, allN_cons, allN_cons]; rfl
theorem allN_over (q : Qu) : (allN q.over.ring).Perm (allN q.ring) := by
  cases hr : q.ring with
  | nil => unfold Qu.over; rw [hr]; simp [hr]
  | cons t r =>
    rw [over_eq hr]
    show (allN (r ++ [t])).Perm _
    have e1 : allN (t :: r) = nmsT t ++ allN r := allN_cons t r
    have e2 : allN [t] = nmsT t := by simp [allN]
    rw [allN_app, e1, e2]
    exact List.perm_append_comm
theorem Spun.allN {q r : Qu} (h : Spun q r) : (allN r.ring).Perm (allN q.ring) := by
  refine Spun.ind (M := fun q r => (_root_.Go.Proofs.Ytfddhdpnoliamaa.allN r.ring).Perm (_root_.Go.Proofs.Ytfddhdpnoliamaa.allN q.ring)) ?_ ?_ h
  · intro q _
    rw [allN_start]
  · intro q r _ ih
    exact ih.trans ((allN_over _).trans (by rw [allN_start]))
theorem allN_gone {r : Qu} {t : Tn} {s : List Tn} {j : Jb} {js : List Jb} (hr : r.ring = t :: s) (hj : t.jobs = j :: js) : allN r.ring = j.name :: allN r.gone.ring := by
  have hg : r.gone.ring = if js = [] then s else { t with cr := t.cr - j.cost, jobs := js } :: s := by
    unfold Qu.gone
    rw [hr]
    simp only [hj]
    split <;> rfl
  rw [hr, hg, allN_cons]
  have : nmsT t = j.name :: js.map Jb.name := by unfold nmsT; rw [hj]; rfl
  rw [this]
  split
  · rename_i e; rw [e]; rfl
  · rw [allN_cons]; rfl

theorem QI.drop {q : Qu} (h : QI q) {a b : List Tn} {t : Tn} (hr : q.ring = a ++ t :: b) (i : Nat) (hi : i < t.jobs.length) (h2 : 2 ≤ t.jobs.length) : QI { q with ring := a ++ { t with jobs := cut1 t.jobs i } :: b } := by
  have hcl : (cut1 t.jobs i).length = t.jobs.length - 1 := by unfold cut1; rw [List.length_append, List.length_take, List.length_drop, Nat.min_eq_left (by omega)]; omega
  have key : ∀ x ∈ a ++ { t with jobs := cut1 t.jobs i } :: b, ∃ y ∈ q.ring, x.cr = y.cr ∧ (∀ j ∈ x.jobs, j ∈ y.jobs) ∧ x.jobs ≠ [] := by
    intro x hx
    rcases List.mem_append.1 hx with hx | hx
    · exact ⟨x, by rw [hr]; simp [hx], rfl, fun _ h => h, h.ne x (by rw [hr]; simp [hx])⟩
    rcases List.mem_cons.1 hx with rfl | hx
    · refine ⟨t, by rw [hr]; simp, rfl, fun j hj => ?_, fun e => ?_⟩
      · unfold cut1 at hj
        rcases List.mem_append.1 hj with hj | hj
        · exact List.mem_of_mem_take hj
        · exact List.mem_of_mem_drop hj
      · have := congrArg List.length e
        simp only [hcl] at this
        simp at this
        omega
    · exact ⟨x, by rw [hr]; simp [hx], rfl, fun _ h => h, h.ne x (by rw [hr]; simp [hx])⟩
  have hlen := h.b.len
  have hjb := h.b.jobs
  rw [hr] at hlen hjb
  refine ⟨⟨h.b.q1, h.b.q2, by simpa using hlen, ?_⟩, fun x hx => (key x hx).elim fun y hy => hy.2.2.2, fun x hx j hj => ?_, fun x hx => ?_, fun hb x hx => ?_, ?_⟩
  · show sizeL (a ++ _ :: b) ≤ 1000
    have e1 : sizeL (a ++ t :: b) = sizeL a + (t.jobs.length + sizeL b) := by rw [sizeL_app]; simp [sizeL]
    have e2 : sizeL (a ++ ({ t with jobs := cut1 t.jobs i } : Tn) :: b) = sizeL a + ((cut1 t.jobs i).length + sizeL b) := by rw [sizeL_app]; simp [sizeL]
    omega
  · obtain ⟨y, hy, _, h3, _⟩ := key x hx; exact h.cost y hy j (h3 j hj)
  · obtain ⟨y, hy, h3, _⟩ := key x hx; rw [h3]; exact h.cr y hy
  · obtain ⟨y, hy, h3, _⟩ := key x hx; rw [h3]; exact h.lo hb y hy
  · intro x hx
    have hl2 := h.lo2
    rw [hr] at hl2
    cases a with
    | nil => exact hl2 x hx
    | cons u r =>
      rcases List.mem_append.1 hx with hx | hx
      · exact hl2 x (List.mem_append_left _ hx)
      rcases List.mem_cons.1 hx with rfl | hx
      · exact hl2 t (List.mem_append_right _ List.mem_cons_self)
      · exact hl2 x (List.mem_append_right _ (List.mem_cons_of_mem _ hx))
theorem QI.dropT {q : Qu} (h : QI q) {a b : List Tn} {t : Tn} (hr : q.ring = a ++ t :: b) : QI { q with ring := a ++ b, beg := if a.length = 0 then false else q.beg } := by
  have hm : ∀ x ∈ a ++ b, x ∈ q.ring := fun x hx => by rw [hr]; rcases List.mem_append.1 hx with e | e <;> simp [e]
  have hlen := h.b.len
  have hjb := h.b.jobs
  have hl2 := h.lo2
  rw [hr] at hlen hjb hl2
  refine ⟨⟨h.b.q1, h.b.q2, ?_, ?_⟩, fun x hx => h.ne x (hm x hx), fun x hx => h.cost x (hm x hx), fun x hx => h.cr x (hm x hx), fun hb x hx => ?_, fun x hx => ?_⟩
  · simp at hlen; show (a ++ b).length ≤ 1000; simp; omega
  · show sizeL (a ++ b) ≤ 1000
    rw [sizeL_app] at hjb ⊢
    have : sizeL (t :: b) = sizeL [t] + sizeL b := sizeL_app [t] b
    omega
  · cases a with
    | nil => exact hl2 x hx
    | cons u r => exact h.lo (by simpa using hb) x (hm x hx)
  · cases a with
    | nil => exact hl2 x (List.mem_of_mem_tail hx)
    | cons u r =>
      rcases List.mem_append.1 hx with hx | hx
      · exact hl2 x (List.mem_append_left _ hx)
      · exact hl2 x (List.mem_append_right _ (List.mem_cons_of_mem _ hx))

set_option maxHeartbeats 4000000 in
set_option maxRecDepth 100000 in
theorem Drop_no {B P : Nat} {rv : Value} {cs : List Ce} {w : World} {q : Qu} (h : QS B P rv cs w q) (hi : QI q) (s : ByteArray) (hs : hasN q.ring s = false) :
    Calls Try.prog 14 #[.pointer (some ⟨P, 0, none⟩), .string s] w fun e w' => e = .returned (.bool false) ∧ QS B P rv cs w' q ∧ Below w.heap.size w w' := by
  have hln := ring_len h
  have HN : Hid (Calls Try.prog 23 #[.pointer (some ⟨P, 0, none⟩)] w fun e w' => e = .returned (.bool false) ∧ w' = w) := isNone_any h hi.b.q1
  have HF : Hid (Calls Try.prog 24 #[.pointer (some ⟨P, 0, none⟩), .string s] w fun e w' => e = .returned (.tuple #[.int .i64 (-1), .int .i64 (-1)]) ∧ QS B P rv cs w' q ∧ Below w.heap.size w w') :=
    (find_any h (by have := hi.b.len; omega) (fun t ht => by have := size_mem ht; have := hi.b.jobs; omega) s).mono fun e w' ⟨he, hb⟩ => ⟨found_no hs he, h.up hb, hb⟩
  clear h hi hs hln
  go_enter Try.func14, Try.ntmps14
  go_wp2_with fail
  refine HN.out.mono ?_
  rintro e w1 ⟨rfl, rfl⟩
  go_wp2_with fail
  refine HF.out.mono ?_
  rintro e w2 ⟨rfl, hq, hb⟩
  go_wp2
  go_ret
  exact ⟨rfl, hq, hb⟩

/-- A job goes from the midst. -/
theorem remove_any {B P : Nat} {rv : Value} {cs : List Ce} {w : World} {q : Qu} (h : QS B P rv cs w q) (hi : QI q) (k : Nat) (hk : k < q.ring.length) (i : Nat) (hii : i < (q.ring[k]).jobs.length) :
    Calls Try.prog 33 #[.pointer (some ⟨P, 0, none⟩), .int .i64 (k : Int), .int .i64 (i : Int)] w fun e w' => e = .returned (.tuple #[]) ∧ ∃ rv' cs' q', QS B P rv' cs' w' q' ∧ QI q' ∧ (allN q.ring).Perm (((q.ring[k]).jobs[i]).name :: allN q'.ring) ∧ Upd (ids P rv cs) (ids P rv' cs') w w' := by
  have hln := ring_len h
  have hkc : k < cs.length := by omega
  have hsp : cs = cs.take k ++ cs[k] :: cs.drop (k + 1) := by
    conv => lhs; rw [← List.take_append_drop k cs, List.drop_eq_getElem_cons hkc]
  have hra := ring_at h k hkc
  rw [List.getElem?_eq_getElem hk] at hra
  have ht : q.ring[k] = (cs[k]).t := Option.some.inj hra
  have hrs : q.ring = (cs.take k).map Ce.t ++ (cs[k]).t :: (cs.drop (k + 1)).map Ce.t := by
    rw [← h.ring]
    exact (congrArg (List.map Ce.t) hsp).trans (by rw [List.map_append, List.map_cons])
  have hkl : (cs.take k).length = k := by rw [List.length_take]; omega
  have h' : QS B P rv (cs.take k ++ cs[k] :: cs.drop (k + 1)) w q := by rw [← hsp]; exact h
  have hlen := hi.b.len
  have htm : (cs[k]).t ∈ q.ring := by rw [← ht]; exact List.getElem_mem hk
  have hjl : (cs[k]).t.jobs.length ≤ 1000 := by have := size_mem htm; have := hi.b.jobs; omega
  have hn0 : (cs.take k).length + (cs.drop (k + 1)).length ≤ 1000000 := by rw [List.length_take, List.length_drop]; omega
  have hii' : i < (cs[k]).t.jobs.length := by rw [← ht]; exact hii
  have hnm : (cs[k]).t.jobs = (cs[k]).t.jobs.take i ++ (cs[k]).t.jobs[i] :: (cs[k]).t.jobs.drop (i + 1) := by
    conv => lhs; rw [← List.take_append_drop i (cs[k]).t.jobs, List.drop_eq_getElem_cons hii']
  have hname : ((q.ring[k]).jobs[i]).name = ((cs[k]).t.jobs[i]).name := by simp only [ht]
  rw [hname]
  by_cases h2 : 2 ≤ (cs[k]).t.jobs.length
  · have := remove_keep h' i hii' h2 (by omega)
    rw [hkl] at this
    refine Calls.mono this ?_
    rintro e w' ⟨he, jv', hq, hu⟩
    refine ⟨he, rv, _, _, hq, hi.drop hrs i hii' h2, ?_, by rw [← hsp] at hu; exact hu⟩
    rw [hrs]
    show (allN _).Perm (_ :: allN (_ ++ _ :: _))
    rw [allN_app, allN_app, allN_cons, allN_cons]
    have e1 : nmsT (cs[k]).t = nmsT { (cs[k]).t with jobs := (cs[k]).t.jobs.take i } ++ ((cs[k]).t.jobs[i]).name :: nmsT { (cs[k]).t with jobs := (cs[k]).t.jobs.drop (i + 1) } := by
      exact (congrArg (List.map Jb.name) hnm).trans (by rw [List.map_append, List.map_cons]; rfl)
    have e2 : nmsT { (cs[k]).t with jobs := cut1 (cs[k]).t.jobs i } = nmsT { (cs[k]).t with jobs := (cs[k]).t.jobs.take i } ++ nmsT { (cs[k]).t with jobs := (cs[k]).t.jobs.drop (i + 1) } := by
      unfold nmsT cut1
      simp
    rw [e1, e2, List.append_assoc, List.append_assoc, List.cons_append]
    exact (List.perm_middle.append_left _).trans List.perm_middle
  · have h1 : (cs[k]).t.jobs.length = 1 := by omega
    have hi0 : i = 0 := by omega
    subst hi0
    have := remove_gone h' h1 hn0
    rw [hkl] at this
    refine Calls.mono this ?_
    rintro e w' ⟨he, rv', hq, hu⟩
    have hqi := hi.dropT hrs
    rw [List.length_map, hkl] at hqi
    rw [List.map_append] at hq
    refine ⟨he, rv', _, _, hq, hqi, ?_, by rw [← hsp] at hu; exact hu⟩
    rw [hrs]
    show (allN _).Perm (_ :: allN (_ ++ _))
    rw [allN_app, allN_app, allN_cons]
    have e1 : nmsT (cs[k]).t = [((cs[k]).t.jobs[0]).name] := by
      have h0 : (cs[k]).t.jobs.drop 1 = [] := List.drop_eq_nil_iff.2 (by omega)
      exact (congrArg (List.map Jb.name) hnm).trans (by rw [List.map_append, List.map_cons, h0]; rfl)
    rw [e1]
    exact List.perm_middle

set_option maxHeartbeats 4000000 in
set_option maxRecDepth 100000 in
theorem Drop_yes {B P : Nat} {rv : Value} {cs : List Ce} {w : World} {q : Qu} (h : QS B P rv cs w q) (hi : QI q) (s : ByteArray) (hs : hasN q.ring s = true) :
    Calls Try.prog 14 #[.pointer (some ⟨P, 0, none⟩), .string s] w fun e w' => e = .returned (.bool true) ∧ ∃ rv' cs' q', QS B P rv' cs' w' q' ∧ QI q' ∧ (allN q.ring).Perm (s :: allN q'.ring) ∧ Upd (ids P rv cs) (ids P rv' cs') w w' := by
  have hln := ring_len h
  have HN : Hid (Calls Try.prog 23 #[.pointer (some ⟨P, 0, none⟩)] w fun e w' => e = .returned (.bool false) ∧ w' = w) := isNone_any h hi.b.q1
  have HF : Hid (Calls Try.prog 24 #[.pointer (some ⟨P, 0, none⟩), .string s] w fun e w' => (∃ k i : Nat, e = .returned (.tuple #[.int .i64 (k : Int), .int .i64 (i : Int)]) ∧ Calls Try.prog 33 #[.pointer (some ⟨P, 0, none⟩), .int .i64 (k : Int), .int .i64 (i : Int)] w' fun e w'' => e = .returned (.tuple #[]) ∧ ∃ rv' cs' q', QS B P rv' cs' w'' q' ∧ QI q' ∧ (allN q.ring).Perm (s :: allN q'.ring) ∧ Upd (ids P rv cs) (ids P rv' cs') w w'')) := by
    refine (find_any h (by have := hi.b.len; omega) (fun t ht => by have := size_mem ht; have := hi.b.jobs; omega) s).mono ?_
    rintro e w' ⟨he, hb⟩
    obtain ⟨k, hk, i, hii, rfl, hnm⟩ := found_yes hs he
    refine ⟨k, i, rfl, ?_⟩
    refine (remove_any (h.up hb) hi k hk i hii).mono ?_
    rintro e w'' ⟨he', rv', cs', q', h1, h2, h3, h4⟩
    exact ⟨he', rv', cs', q', h1, h2, by rw [← hnm]; exact h3, (Upd.of_below hb).trans h4⟩
  clear h hi hs hln
  go_enter Try.func14, Try.ntmps14
  go_wp2_with fail
  refine HN.out.mono ?_
  rintro e w1 ⟨rfl, rfl⟩
  go_wp2_with fail
  refine HF.out.mono ?_
  rintro e w2 ⟨k, i, rfl, hr⟩
  have hk0 : ¬ (k : Int) < 0 := by omega
  have HR : Hid (Calls Try.prog 33 #[.pointer (some ⟨P, 0, none⟩), .int .i64 (k : Int), .int .i64 (i : Int)] w2 fun e w'' => e = .returned (.tuple #[]) ∧ ∃ rv' cs' q', QS B P rv' cs' w'' q' ∧ QI q' ∧ (allN q.ring).Perm (s :: allN q'.ring) ∧ Upd (ids P rv cs) (ids P rv' cs') w1 w'') := hr
  clear hr HF HN
  go_wp2_with fail
  refine HR.out.mono ?_
  rintro e w3 ⟨rfl, hE⟩
  have HE : Hid (∃ rv' cs' q', QS B P rv' cs' w3 q' ∧ QI q' ∧ (allN q.ring).Perm (s :: allN q'.ring) ∧ Upd (ids P rv cs) (ids P rv' cs') w1 w3) := hE
  clear hE HR
  go_wp2
  go_ret
  exact ⟨rfl, HE.out⟩
end Go.Proofs.Ytfddhdpnoliamaa
