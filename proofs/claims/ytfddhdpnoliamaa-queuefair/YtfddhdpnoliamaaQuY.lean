/- A queue that is new; what is kept; what laws draw. -/
import Derived.Test.YtfddhdpnoliamaaQuV
namespace Go.Proofs.Ytfddhdpnoliamaa
open Go.RowKit Go.Shelf

theorem QI.new (m : Nat) (h1 : 1 ≤ m) (h2 : m ≤ 1000) : QI ⟨m, [], false⟩ :=
  ⟨⟨h1, h2, Nat.zero_le _, Nat.zero_le _⟩, fun t h => (by cases h), fun t h => (by cases h), fun t h => (by cases h), fun _ t h => (by cases h), fun t h => (by cases h)⟩

set_option maxHeartbeats 2000000 in
theorem New_no (m : Int) (w : World) (h : m < 1 ∨ 1000 < m) :
    Calls Try.prog 8 #[.int .i64 m] w fun e w' => e = .returned (.tuple #[.pointer none, .int .i64 3]) ∧ w' = w := by
  rcases Int.lt_or_le m 1 with h1 | h1
  · clear h
    go_enter Try.func8, Try.ntmps8
    go_wp2
    refine bodyPost_ret (v := .tuple #[.pointer none, .int .i64 3]) (by simp [results, Try.results8, go_sem]) rfl ?_
    exact ⟨rfl, rfl⟩
  · have h2 : 1000 < m := by omega
    have h3 : ¬ m < 1 := by omega
    clear h h1
    go_enter Try.func8, Try.ntmps8
    go_wp2
    refine bodyPost_ret (v := .tuple #[.pointer none, .int .i64 3]) (by simp [results, Try.results8, go_sem]) rfl ?_
    exact ⟨rfl, rfl⟩

set_option maxHeartbeats 2000000 in
theorem New_yes (m : Nat) (w : World) (h1 : 1 ≤ m) (h2 : m ≤ 1000) :
    Calls Try.prog 8 #[.int .i64 m] w fun e w' => e = .returned (.tuple #[.pointer (some ⟨w.heap.size, 0, none⟩), .int .i64 0]) ∧ QS w.heap.size w.heap.size (.slice none 0 0) [] w' ⟨m, [], false⟩ ∧ Below w.heap.size w w' ∧ w'.heap.size = w.heap.size + 1 := by
  have l0 := heap_alloc_new w (.cells #[.int .i64 m, .slice none 0 0, .bool false] 56)
  have HQ : Hid (QS w.heap.size w.heap.size (.slice none 0 0) [] (w.alloc (.cells #[.int .i64 m, .slice none 0 0, .bool false] 56)) ⟨m, [], false⟩ ∧ Below w.heap.size w (w.alloc (.cells #[.int .i64 m, .slice none 0 0, .bool false] 56)) ∧ (w.alloc (.cells #[.int .i64 m, .slice none 0 0, .bool false] 56)).heap.size = w.heap.size + 1) :=
    ⟨⟨Nat.le_refl _, rfl, l0, World.ownsRow_nil _ _ _ _, fun c h => (by cases h), by unfold ids ob; simp [Value.ownBlock]⟩, (Below.refl _ w).alloc (Nat.le_refl _) _, World.size_alloc _ _⟩
  have k1 : ¬ (m : Int) < 1 := by omega
  have k2 : ¬ (1000 : Int) < (m : Int) := by omega
  clear l0 h1 h2
  go_enter Try.func8, Try.ntmps8
  go_wp2
  refine bodyPost_ret (v := .tuple #[.pointer (some ⟨w.heap.size, 0, none⟩), .int .i64 0]) (by simp [results, Try.results8, go_sem]) rfl ?_
  exact ⟨rfl, HQ.out⟩

def chs (c : Int) (m : Nat) : Nat := ((if c < 0 then -(c + 1) else c) % (m : Int)).toNat
theorem chs_lt (c : Int) {m : Nat} (h : 0 < m) : chs c m < m := by
  unfold chs
  have h2 := Int.emod_nonneg (if c < 0 then -(c + 1) else c) (show (m : Int) ≠ 0 by omega)
  have h3 := Int.emod_lt_of_pos (if c < 0 then -(c + 1) else c) (show 0 < (m : Int) by omega)
  omega

set_option maxHeartbeats 2000000 in
theorem choose_any (c : Int) (m : Nat) (w : World) (h0 : -9223372036854775808 ≤ c) (h1 : c ≤ 9223372036854775807) (hm : 0 < m) :
    Calls Try.prog 9 #[.int .i64 c, .int .i64 m] w fun e w' => e = .returned (.int .i64 (chs c m : Int)) ∧ w' = w := by
  have hmi : (0 : Int) < (m : Int) := by omega
  have hm0 : ((m : Int) == 0) = false := by simp; omega
  have key : ∀ d : Int, 0 ≤ d → d.tmod (m : Int) = ((d % (m : Int)).toNat : Int) ∧ d % (m : Int) = ((d % (m : Int)).toNat : Int) := fun d hd => by
    have h2 := Int.emod_nonneg d (show (m : Int) ≠ 0 by omega)
    refine ⟨?_, by omega⟩
    rw [Int.tmod_eq_emod_of_nonneg hd]
    omega
  by_cases hc : c < 0
  · obtain ⟨d, hd⟩ : ∃ d : Int, d = -(c + 1) := ⟨_, rfl⟩
    obtain ⟨hr1, hr2⟩ := key d (by omega)
    have HC : Hid (chs c m = (d % (m : Int)).toNat) := by unfold Hid chs; rw [if_pos hc, hd]
    have x1 : wrap64 (c + 1) = c + 1 := by unfold wrap64; omega
    have x2 : IntKind.i64.wrap (c + 1) = c + 1 := by rw [IntKind.wrap_i64]; omega
    have x3 : wrap64 (-(c + 1)) = d := by unfold wrap64; omega
    have x4 : IntKind.i64.wrap (-(c + 1)) = d := by rw [IntKind.wrap_i64]; omega
    have hd0 : 0 ≤ d := by omega
    generalize (d % (m : Int)).toNat = r at *
    clear key hd h0 h1
    go_enter Try.func9, Try.ntmps9
    go_wp2
    go_ret
    exact ⟨by rw [HC.out]; simp, rfl⟩
  · obtain ⟨hr1, hr2⟩ := key c (by omega)
    have HC : Hid (chs c m = (c % (m : Int)).toNat) := by unfold Hid chs; rw [if_neg hc]
    have hc0 : 0 ≤ c := by omega
    generalize (c % (m : Int)).toNat = r at *
    clear key h1 hc
    go_enter Try.func9, Try.ntmps9
    go_wp2
    go_ret
    exact ⟨by rw [HC.out]; simp, rfl⟩

theorem size_addR (j : Jb) : ∀ l : List Tn, sizeL (addR j l) = sizeL l + 1
  | [] => rfl
  | t :: r => by
    show sizeL (if t.num = j.ten then _ else _) = _
    split
    · simp [sizeL]; omega
    · have := size_addR j r
      have e1 : sizeL (t :: addR j r) = sizeL [t] + sizeL (addR j r) := sizeL_app [t] _
      have e2 : sizeL (t :: r) = sizeL [t] + sizeL r := sizeL_app [t] _
      omega
theorem mem_addR (j : Jb) : ∀ (l : List Tn) (t : Tn), t ∈ addR j l → t ∈ l ∨ (t.cr = 0 ∧ t.jobs = [j] ∧ t.num = j.ten ∧ ∀ u ∈ l, u.num ≠ j.ten) ∨ ∃ u ∈ l, t.cr = u.cr ∧ t.num = u.num ∧ t.num = j.ten ∧ t.jobs = u.jobs ++ [j]
  | [], t, h => by
    have : t = ⟨j.ten, 0, [j]⟩ := by simpa [addR] using h
    subst this
    exact .inr (.inl ⟨rfl, rfl, rfl, fun u hu => by cases hu⟩)
  | u :: r, t, h => by
    unfold addR at h
    split at h
    · rename_i he
      rcases List.mem_cons.1 h with h | h
      · subst h
        exact .inr (.inr ⟨u, List.mem_cons_self, rfl, rfl, he, rfl⟩)
      · exact .inl (List.mem_cons_of_mem _ h)
    · rename_i he
      rcases List.mem_cons.1 h with h | h
      · subst h; exact .inl List.mem_cons_self
      · rcases mem_addR j r t h with h | ⟨h1, h2, h3, h4⟩ | ⟨v, hv, h1⟩
        · exact .inl (List.mem_cons_of_mem _ h)
        · refine .inr (.inl ⟨h1, h2, h3, fun x hx => ?_⟩)
          rcases List.mem_cons.1 hx with hx | hx
          · rw [hx]; exact he
          · exact h4 x hx
        · exact .inr (.inr ⟨v, List.mem_cons_of_mem _ hv, h1⟩)
theorem tail_addR (j : Jb) (l : List Tn) : ∀ t ∈ (addR j l).tail, ∃ u, t ∈ addR j l ∧ (t.cr = 0 ∨ (u ∈ l.tail ∧ t.cr = u.cr)) := by
  intro t ht
  have hm := List.mem_of_mem_tail ht
  cases l with
  | nil => simp [addR] at ht
  | cons a r =>
    unfold addR at ht
    split at ht
    · exact ⟨t, hm, .inr ⟨ht, rfl⟩⟩
    · rcases mem_addR j r t ht with h | ⟨h1, _⟩ | ⟨v, hv, h1, _⟩
      · exact ⟨t, hm, .inr ⟨h, rfl⟩⟩
      · exact ⟨t, hm, .inl h1⟩
      · exact ⟨v, hm, .inr ⟨hv, h1⟩⟩
theorem len_size {l : List Tn} (h : ∀ t ∈ l, t.jobs ≠ []) : l.length ≤ sizeL l := by
  induction l with
  | nil => exact Nat.le_refl _
  | cons t r ih =>
    have := ih fun x hx => h x (List.mem_cons_of_mem _ hx)
    have h1 : 0 < t.jobs.length := List.length_pos_iff.2 (h t List.mem_cons_self)
    have e : sizeL (t :: r) = t.jobs.length + sizeL r := by simp [sizeL]
    rw [e, List.length_cons]
    omega
theorem QI.add {q : Qu} (h : QI q) (j : Jb) (h1 : 1 ≤ j.cost) (h2 : j.cost ≤ 1000) (hs : sizeL q.ring ≤ 200) : QI { q with ring := addR j q.ring } := by
  have hne : ∀ t ∈ addR j q.ring, t.jobs ≠ [] := fun t ht => by
    rcases mem_addR j _ t ht with h0 | ⟨_, h0, _⟩ | ⟨u, _, _, _, _, h0⟩
    · exact h.ne t h0
    · rw [h0]; simp
    · rw [h0]; simp
  have hz := size_addR j q.ring
  have hl := len_size hne
  refine ⟨⟨h.b.q1, h.b.q2, by show (addR j q.ring).length ≤ 1000; omega, by show sizeL (addR j q.ring) ≤ 1000; omega⟩, hne, fun t ht x hx => ?_, fun t ht => ?_, fun hb t ht => ?_, fun t ht => ?_⟩
  · rcases mem_addR j _ t ht with h0 | ⟨_, h0, _⟩ | ⟨u, hu, _, _, _, h0⟩
    · exact h.cost t h0 x hx
    · rw [h0] at hx; rw [List.mem_singleton.1 hx]; exact ⟨h1, h2⟩
    · rw [h0] at hx
      rcases List.mem_append.1 hx with hx | hx
      · exact h.cost u hu x hx
      · rw [List.mem_singleton.1 hx]; exact ⟨h1, h2⟩
  · rcases mem_addR j _ t ht with h0 | ⟨h0, _⟩ | ⟨u, hu, h0, _⟩
    · exact h.cr t h0
    · omega
    · rw [h0]; exact h.cr u hu
  · rcases mem_addR j _ t ht with h0 | ⟨h0, _⟩ | ⟨u, hu, h0, _⟩
    · exact h.lo hb t h0
    · omega
    · rw [h0]; exact h.lo hb u hu
  · obtain ⟨u, _, hc | ⟨hu, hc⟩⟩ := tail_addR j q.ring t ht
    · omega
    · rw [hc]; exact h.lo2 u hu
theorem QI.gone {q : Qu} (h : QI q) {t : Tn} {s : List Tn} {j : Jb} {js : List Jb} (hr : q.ring = t :: s) (hj : t.jobs = j :: js) : QI q.gone := by
  have hm : ∀ x ∈ s, x ∈ q.ring := fun x hx => by rw [hr]; exact List.mem_cons_of_mem _ hx
  have ht : t ∈ q.ring := by rw [hr]; exact List.mem_cons_self
  have hl2 : ∀ x ∈ s, x.cr ≤ 1000 := fun x hx => by have := h.lo2; rw [hr] at this; exact this x hx
  have hlen := h.b.len
  have hjb := h.b.jobs
  rw [hr] at hlen hjb
  have e : sizeL (t :: s) = t.jobs.length + sizeL s := by simp [sizeL]
  have ej : t.jobs.length = js.length + 1 := by rw [hj]; rfl
  simp only [List.length_cons] at hlen
  unfold Qu.gone
  rw [hr]
  simp only [hj]
  split
  · refine ⟨⟨h.b.q1, h.b.q2, by show s.length ≤ 1000; omega, by show sizeL s ≤ 1000; omega⟩, fun x hx => h.ne x (hm x hx), fun x hx => h.cost x (hm x hx), fun x hx => h.cr x (hm x hx), fun _ x hx => hl2 x hx, fun x hx => hl2 x (List.mem_of_mem_tail hx)⟩
  · rename_i hjs
    refine ⟨⟨h.b.q1, h.b.q2, by show s.length + 1 ≤ 1000; omega, ?_⟩, fun x hx => ?_, fun x hx y hy => ?_, fun x hx => ?_, fun hb x hx => ?_, fun x hx => hl2 x hx⟩
    · show sizeL (_ :: s) ≤ 1000
      have e2 : sizeL (({ t with cr := t.cr - j.cost, jobs := js } : Tn) :: s) = js.length + sizeL s := by simp [sizeL]
      omega
    · rcases List.mem_cons.1 hx with rfl | hx
      · exact hjs
      · exact h.ne x (hm x hx)
    · rcases List.mem_cons.1 hx with rfl | hx
      · exact h.cost t ht y (by rw [hj]; exact List.mem_cons_of_mem _ hy)
      · exact h.cost x (hm x hx) y hy
    · rcases List.mem_cons.1 hx with rfl | hx
      · have := h.cr t ht; show t.cr - j.cost ≤ 2000; omega
      · exact h.cr x (hm x hx)
    · rcases List.mem_cons.1 hx with rfl | hx
      · have := h.lo hb t ht; show t.cr - j.cost ≤ 1000; omega
      · exact h.lo hb x (hm x hx)
end Go.Proofs.Ytfddhdpnoliamaa
