/- Put. -/
import Derived.Test.YtfddhdpnoliamaaQuN
namespace Go.Proofs.Ytfddhdpnoliamaa
open Go.RowKit Go.Shelf

/-- A job comes to its tenant, or with it. -/
def addR (j : Jb) : List Tn → List Tn
  | [] => [⟨j.ten, 0, [j]⟩]
  | t :: r => if t.num = j.ten then { t with jobs := t.jobs ++ [j] } :: r else t :: addR j r
def hasN (l : List Tn) (s : ByteArray) : Bool := l.any fun t => t.jobs.any fun j => eqN j.name s
def putE (q : Qu) (x : Int) (s : ByteArray) (y : Int) : Int := if jobE x s y ≠ 0 then jobE x s y else if hasN q.ring s = true then 6 else if 200 ≤ sizeL q.ring then 2 else 0
def putQ (q : Qu) (x : Int) (s : ByteArray) (y : Int) : Qu := if putE q x s y = 0 then { q with ring := addR ⟨x.toNat, s, y.toNat⟩ q.ring } else q

theorem addR_old (j : Jb) : ∀ (a : List Tn) (t : Tn) (b : List Tn), t.num = j.ten → (∀ x ∈ a, x.num ≠ j.ten) → addR j (a ++ t :: b) = a ++ { t with jobs := t.jobs ++ [j] } :: b
  | [], t, b, h, _ => if_pos h
  | x :: a, t, b, h, hn => by
    show (if x.num = j.ten then _ else x :: addR j (a ++ t :: b)) = _
    rw [if_neg (hn x List.mem_cons_self), addR_old j a t b h fun y hy => hn y (List.mem_cons_of_mem _ hy)]
    rfl
theorem addR_new (j : Jb) : ∀ (a : List Tn), (∀ x ∈ a, x.num ≠ j.ten) → addR j a = a ++ [⟨j.ten, 0, [j]⟩]
  | [], _ => rfl
  | x :: a, hn => by
    show (if x.num = j.ten then _ else x :: addR j a) = _
    rw [if_neg (hn x List.mem_cons_self), addR_new j a fun y hy => hn y (List.mem_cons_of_mem _ hy)]
    rfl
/-- Where a tenant stands. -/
theorem plc_cases (n : Nat) (l : List Tn) : (plc n l = -1 ∧ ∀ x ∈ l, x.num ≠ n) ∨ (∃ a t b, l = a ++ t :: b ∧ t.num = n ∧ (∀ x ∈ a, x.num ≠ n) ∧ plc n l = a.length) := by
  induction l with
  | nil => exact .inl ⟨rfl, fun x hx => by cases hx⟩
  | cons t r ih =>
    by_cases h : t.num = n
    · refine .inr ⟨[], t, r, rfl, h, fun x hx => (by cases hx), ?_⟩
      exact plc_hit (k := 0) (by simp) (by show ((t.num : Nat) : Int) = n; omega) (fun j _ hj => by omega)
    · rcases ih with ⟨h1, h2⟩ | ⟨a, u, b, h1, h2, h3, h4⟩
      · refine .inl ⟨plc_none fun j hj => ?_, fun x hx => ?_⟩
        · cases j with
          | zero => show ((t.num : Nat) : Int) ≠ n; omega
          | succ j =>
            have hj' : j < r.length := by simpa using hj
            have := h2 _ (List.getElem_mem hj')
            show ((r[j].num : Nat) : Int) ≠ n
            omega
        · rcases List.mem_cons.1 hx with e | e
          · rw [e]; exact h
          · exact h2 x e
      · refine .inr ⟨t :: a, u, b, by rw [h1]; rfl, h2, fun x hx => ?_, ?_⟩
        · rcases List.mem_cons.1 hx with e | e
          · rw [e]; exact h
          · exact h3 x e
        · subst h1
          refine plc_hit (k := (t :: a).length) (by simp) (by simp; omega) (fun j hj hlt => ?_)
          have e : (t :: (a ++ u :: b))[j] ∈ t :: a := by
            have e2 : (t :: (a ++ u :: b))[j] = (t :: a)[j] := by
              have : t :: (a ++ u :: b) = (t :: a) ++ u :: b := rfl
              simp only [this]
              exact List.getElem_append_left hlt
            rw [e2]; exact List.getElem_mem hlt
          rcases List.mem_cons.1 e with e | e
          · rw [e]; omega
          · have := h3 _ e; omega

/-- add, wherever its tenant stands. -/
theorem add_any {B P : Nat} {rv : Value} {cs : List Ce} {w : World} {q : Qu} (h : QS B P rv cs w q) (j : Jb) (hn : cs.length ≤ 100000) (hm : ∀ t ∈ q.ring, t.jobs.length ≤ 100000) :
    Calls Try.prog 27 #[.pointer (some ⟨P, 0, none⟩), .agg #[.int .i64 j.ten, .string j.name, .int .i64 j.cost]] w fun e w' => e = .returned (.tuple #[]) ∧ ∃ rv' cs', QS B P rv' cs' w' { q with ring := addR j q.ring } ∧ Upd (ids P rv cs) (ids P rv' cs') w w' := by
  rcases plc_cases j.ten q.ring with ⟨h1, h2⟩ | ⟨a, t, b, h1, h2, h3, h4⟩
  · refine (add_new h j h1 hn).mono ?_
    rintro e w' ⟨he, rv', c', hc, hq, hu⟩
    exact ⟨he, rv', _, by rw [addR_new j _ h2]; exact hq, hu⟩
  · have hr := h.ring
    rw [h1] at hr
    obtain ⟨ca, cr, rfl, ea, er⟩ := List.map_eq_append_iff.1 hr
    obtain ⟨c, cb, rfl, ec, eb⟩ := List.map_eq_cons_iff.1 er
    subst ea ec eb
    refine (add_old h j (by rw [h4, List.length_map]) (by simp at hn; omega) (hm c.t (by rw [h1]; simp))).mono ?_
    rintro e w' ⟨he, jv', hq, hu⟩
    refine ⟨he, rv, _, ?_, hu⟩
    rw [h1, addR_old j _ _ _ h2 h3]
    exact hq

theorem found_no {l : List Tn} {s : ByteArray} (h : hasN l s = false) : ∀ {e}, Found l s e → e = .returned (.tuple #[.int .i64 (-1), .int .i64 (-1)]) := by
  intro e he
  rcases he with ⟨k, hk, i, hi, _, h2⟩ | ⟨h1, _⟩
  · exfalso
    have : hasN l s = true := List.any_eq_true.2 ⟨l[k], List.getElem_mem hk, List.any_eq_true.2 ⟨_, List.getElem_mem hi, (eqN_iff _ _).2 h2⟩⟩
    rw [this] at h; cases h
  · exact h1
theorem found_yes {l : List Tn} {s : ByteArray} (h : hasN l s = true) : ∀ {e}, Found l s e → ∃ (k : Nat) (hk : k < l.length) (i : Nat) (hi : i < (l[k]).jobs.length), e = .returned (.tuple #[.int .i64 (k : Int), .int .i64 (i : Int)]) ∧ ((l[k]).jobs[i]).name = s := by
  intro e he
  rcases he with h1 | ⟨_, h2⟩
  · exact h1
  · exfalso
    obtain ⟨t, ht, hj⟩ := List.any_eq_true.1 h
    obtain ⟨j, hj, he⟩ := List.any_eq_true.1 hj
    exact h2 t ht j hj ((eqN_iff _ _).1 he)

/-- What is in bounds. -/
structure QB (q : Qu) : Prop where
  q1 : 1 ≤ q.qm
  q2 : q.qm ≤ 1000
  len : q.ring.length ≤ 1000
  jobs : sizeL q.ring ≤ 1000
theorem size_mem {l : List Tn} {t : Tn} (h : t ∈ l) : t.jobs.length ≤ sizeL l := by
  obtain ⟨a, b, rfl⟩ := List.append_of_mem h
  rw [sizeL_app]
  show _ ≤ _ + (sizeL ([t] ++ b))
  rw [sizeL_app]
  show _ ≤ _ + (sizeL [t] + _)
  have : sizeL [t] = t.jobs.length := by simp [sizeL]
  omega

theorem jobE_size {x : Int} {s : ByteArray} {y : Int} (h : jobE x s y = 0) : s.size ≤ 20 := by
  unfold jobE at h
  split at h
  · cases h
  · split at h
    · cases h
    · rename_i hn
      have : nameOk s = true := by simpa using hn
      unfold nameOk at this
      simp at this
      omega

set_option maxHeartbeats 8000000 in
set_option maxRecDepth 100000 in
theorem Put_any {B P : Nat} {rv : Value} {cs : List Ce} {w : World} {q : Qu} (h : QS B P rv cs w q) (hb : QB q) (x : Int) (s : ByteArray) (y : Int) (hs : s.size ≤ maxLen) :
    Calls Try.prog 10 #[.pointer (some ⟨P, 0, none⟩), .agg #[.int .i64 x, .string s, .int .i64 y]] w fun e w' => e = .returned (.int .i64 (putE q x s y)) ∧ ∃ rv' cs', QS B P rv' cs' w' (putQ q x s y) ∧ Upd (ids P rv cs) (ids P rv' cs') w w' := by
  have hln := ring_len h
  have hb0 : Below w.heap.size w (w.alloc (.cells #[.int .i64 x, .string s, .int .i64 y] 34)) := (Below.refl _ w).alloc (Nat.le_refl _) _
  have l0 := heap_alloc_new w (.cells #[.int .i64 x, .string s, .int .i64 y] 34)
  have hz0 : (w.alloc (.cells #[.int .i64 x, .string s, .int .i64 y] 34)).heap.size = w.heap.size + 1 := World.size_alloc _ _
  -- what holds of every world on the way
  have HX : Hid (∀ W : World, Below (w.heap.size + 1) (w.alloc (.cells #[.int .i64 x, .string s, .int .i64 y] 34)) W → QS B P rv cs W q ∧ Below w.heap.size w W ∧ W.heap[w.heap.size]? = some (.cells #[.int .i64 x, .string s, .int .i64 y] 34 (0, 0))) := by
    intro W hW
    have hbw : Below w.heap.size w W := hb0.trans (hW.mono (by omega))
    exact ⟨h.up hbw, hbw, (hW.block w.heap.size (by omega)).trans l0⟩
  have HJ : Hid (∀ W : World, Below (w.heap.size + 1) (w.alloc (.cells #[.int .i64 x, .string s, .int .i64 y] 34)) W → w.heap.size + 1 ≤ W.heap.size → Calls Try.prog 22 #[.agg #[.int .i64 x, .string s, .int .i64 y]] W fun e w' => e = .returned (.int .i64 (jobE x s y)) ∧ Below (w.heap.size + 1) (w.alloc (.cells #[.int .i64 x, .string s, .int .i64 y] 34)) w') := fun W hW hz => (jobError_any x s y W hs).mono fun e w' ⟨he, hb'⟩ => ⟨he, hW.trans (hb'.mono hz)⟩
  have HN : Hid (∀ W : World, QS B P rv cs W q → Calls Try.prog 23 #[.pointer (some ⟨P, 0, none⟩)] W fun e w' => e = .returned (.bool false) ∧ w' = W) := fun W hW => isNone_any hW hb.q1
  have HFi : Hid (∀ W : World, Below (w.heap.size + 1) (w.alloc (.cells #[.int .i64 x, .string s, .int .i64 y] 34)) W → w.heap.size + 1 ≤ W.heap.size → Calls Try.prog 24 #[.pointer (some ⟨P, 0, none⟩), .string s] W fun e w' => Found q.ring s e ∧ Below (w.heap.size + 1) (w.alloc (.cells #[.int .i64 x, .string s, .int .i64 y] 34)) w') := fun W hW hz => (find_any (HX.out W hW).1 (by have := hb.len; omega) (fun t ht => by have := size_mem ht; have := hb.jobs; omega) s).mono fun e w' ⟨he, hb'⟩ => ⟨he, hW.trans (hb'.mono hz)⟩
  have HSz : Hid (∀ W : World, QS B P rv cs W q → Calls Try.prog 25 #[.pointer (some ⟨P, 0, none⟩)] W fun e w' => e = .returned (.int .i64 (sizeL q.ring)) ∧ w' = W) := fun W hW => size_any hW (by have := hb.jobs; omega) (by have := hb.len; omega)
  have HCl : Hid (jobE x s y = 0 → ∀ W : World, Below (w.heap.size + 1) (w.alloc (.cells #[.int .i64 x, .string s, .int .i64 y] 34)) W → w.heap.size + 1 ≤ W.heap.size → Calls Try.prog 26 #[.string s] W fun e w' => e = .returned (.string s) ∧ Below (w.heap.size + 1) (w.alloc (.cells #[.int .i64 x, .string s, .int .i64 y] 34)) w') := fun hj W hW hz => (clone_any s W (by have := jobE_size hj; omega)).mono fun e w' ⟨he, hb'⟩ => ⟨he, hW.trans (hb'.mono hz)⟩
  have HAd : Hid (jobE x s y = 0 → ∀ W : World, QS B P rv cs W q → Below w.heap.size w W → Calls Try.prog 27 #[.pointer (some ⟨P, 0, none⟩), .agg #[.int .i64 x, .string s, .int .i64 y]] W fun e w' => e = .returned (.tuple #[]) ∧ ∃ rv' cs', QS B P rv' cs' w' { q with ring := addR ⟨x.toNat, s, y.toNat⟩ q.ring } ∧ Upd (ids P rv cs) (ids P rv' cs') w w') := by
    intro hj W hW hbw
    have hx : ((x.toNat : Nat) : Int) = x ∧ ((y.toNat : Nat) : Int) = y := by
      unfold jobE at hj
      split at hj
      · cases hj
      · omega
    have := add_any hW ⟨x.toNat, s, y.toNat⟩ (by have := hb.len; omega) (fun t ht => by have := size_mem ht; have := hb.jobs; omega)
    simp only [hx.1, hx.2] at this
    refine this.mono ?_
    rintro e w' ⟨he, rv', cs', hq, hu⟩
    exact ⟨he, rv', cs', hq, (Upd.of_below hbw).trans hu⟩
  have HW0 : Hid (Below (w.heap.size + 1) (w.alloc (.cells #[.int .i64 x, .string s, .int .i64 y] 34)) (w.alloc (.cells #[.int .i64 x, .string s, .int .i64 y] 34)) ∧ w.heap.size + 1 ≤ (w.alloc (.cells #[.int .i64 x, .string s, .int .i64 y] 34)).heap.size) := ⟨Below.refl _ _, by omega⟩
  have HFE : Hid (∀ W : World, Below (w.heap.size + 1) (w.alloc (.cells #[.int .i64 x, .string s, .int .i64 y] 34)) W → ∃ rv' cs', QS B P rv' cs' W q ∧ Upd (ids P rv cs) (ids P rv' cs') w W) := fun W hW => ⟨rv, cs, (HX.out W hW).1, Upd.of_below (HX.out W hW).2.1⟩
  have e0 : (w.alloc (.cells #[.int .i64 x, .string s, .int .i64 y] 34)).cell? ⟨w.heap.size, 0, none⟩ = some (.int .i64 x) := by rw [Lib.cell_of_heap l0]; rfl
  have e1 : (w.alloc (.cells #[.int .i64 x, .string s, .int .i64 y] 34)).cell? ⟨w.heap.size, 1, none⟩ = some (.string s) := by rw [Lib.cell_of_heap l0]; rfl
  have e2 : (w.alloc (.cells #[.int .i64 x, .string s, .int .i64 y] 34)).cell? ⟨w.heap.size, 2, none⟩ = some (.int .i64 y) := by rw [Lib.cell_of_heap l0]; rfl
  have HPl : Hid (P < w.heap.size ∧ ∀ g ∈ ids P rv cs, g < w.heap.size) := ⟨(h.lt P List.mem_cons_self).2, fun g hg => (h.lt g hg).2⟩
  clear h hb hln hb0 l0 hz0 hs
  go_enter Try.func10, Try.ntmps10
  go_wp2_with fail
  generalize w.alloc (.cells #[.int .i64 x, .string s, .int .i64 y] 34) = w0 at *
  generalize hJn : w.heap.size = J at *
  refine (HJ.out w0 HW0.out.1 HW0.out.2).mono ?_
  rintro e W1 ⟨rfl, hb1⟩
  have HB1 : Hid (Below (J + 1) w0 W1 ∧ J + 1 ≤ W1.heap.size) := ⟨hb1, Nat.le_trans HW0.out.2 hb1.size⟩
  clear hb1
  by_cases hje : jobE x s y = 0
  · have HAd1 : Hid (∀ W : World, QS B P rv cs W q → Below J w W → Calls Try.prog 27 #[.pointer (some ⟨P, 0, none⟩), .agg #[.int .i64 x, .string s, .int .i64 y]] W fun e w' => e = .returned (.tuple #[]) ∧ ∃ rv' cs', QS B P rv' cs' w' { q with ring := addR ⟨x.toNat, s, y.toNat⟩ q.ring } ∧ Upd (ids P rv cs) (ids P rv' cs') w w') := HAd.out hje
    have HCl1 : Hid (∀ W : World, Below (J + 1) w0 W → J + 1 ≤ W.heap.size → Calls Try.prog 26 #[.string s] W fun e w' => e = .returned (.string s) ∧ Below (J + 1) w0 w') := HCl.out hje
    have HPE : Hid (putE q x s y = if hasN q.ring s = true then 6 else if 200 ≤ sizeL q.ring then 2 else 0) := by unfold Hid putE; rw [if_neg (by rw [hje]; decide)]
    have hl1 := (HX.out W1 HB1.out.1).2.2
    have j0 : W1.cell? ⟨J, 0, none⟩ = some (.int .i64 x) := by rw [Lib.cell_of_heap hl1]; rfl
    have j1 : W1.cell? ⟨J, 1, none⟩ = some (.string s) := by rw [Lib.cell_of_heap hl1]; rfl
    rw [hje]
    clear hje hl1 HAd HJ
    go_wp2_with fail
    refine (HN.out W1 (HX.out W1 HB1.out.1).1).mono ?_
    rintro e W2 ⟨rfl, rfl⟩
    go_wp2_with fail
    refine (HFi.out W2 HB1.out.1 HB1.out.2).mono ?_
    rintro e W3 ⟨hf, hb3⟩
    have HB3 : Hid (Below (J + 1) w0 W3 ∧ J + 1 ≤ W3.heap.size) := ⟨hb3, Nat.le_trans HW0.out.2 hb3.size⟩
    clear hb3
    cases hhn : hasN q.ring s with
    | true =>
      obtain ⟨k, hk, i, hi, rfl, _⟩ := found_yes hhn hf
      have HPE2 : Hid (putE q x s y = 6) := by unfold Hid; rw [HPE.out, if_pos hhn]
      have HPQ : Hid (putQ q x s y = q) := if_neg (by rw [HPE2.out]; decide)
      have hk0 : (0 : Int) ≤ (k : Int) := by omega
      clear hhn hf
      go_wp2
      go_ret
      exact ⟨by rw [HPE2.out]; rfl, by rw [HPQ.out]; exact HFE.out W3 HB3.out.1⟩
    | false =>
      obtain rfl := found_no hhn hf
      clear hf
      go_wp2_with fail
      refine (HSz.out W3 (HX.out W3 HB3.out.1).1).mono ?_
      rintro e W4 ⟨rfl, rfl⟩
      by_cases hsz : 200 ≤ sizeL q.ring
      · have HPE2 : Hid (putE q x s y = 2) := by unfold Hid; rw [HPE.out, if_neg (by rw [hhn]; decide), if_pos hsz]
        have HPQ : Hid (putQ q x s y = q) := if_neg (by rw [HPE2.out]; decide)
        have hsi : (200 : Int) ≤ (sizeL q.ring : Int) := by omega
        clear hhn
        go_wp2
        go_ret
        exact ⟨by rw [HPE2.out]; rfl, by rw [HPQ.out]; exact HFE.out W4 HB3.out.1⟩
      · have HPE2 : Hid (putE q x s y = 0) := by unfold Hid; rw [HPE.out, if_neg (by rw [hhn]; decide), if_neg hsz]
        have HPQ : Hid (putQ q x s y = { q with ring := addR ⟨x.toNat, s, y.toNat⟩ q.ring }) := if_pos HPE2.out
        have hsi : ¬ (200 : Int) ≤ (sizeL q.ring : Int) := by omega
        have hl4 := (HX.out W4 HB3.out.1).2.2
        have k1 : W4.cell? ⟨J, 1, none⟩ = some (.string s) := by rw [Lib.cell_of_heap hl4]; rfl
        clear hhn hsz hl4 j0 j1
        go_wp2_with fail
        refine (HCl1.out W4 HB3.out.1 HB3.out.2).mono ?_
        rintro e W5 ⟨rfl, hb5⟩
        have hl5 := (HX.out W5 hb5).2.2
        have m1 : W5.cell? ⟨J, 1, none⟩ = some (.string s) := by rw [Lib.cell_of_heap hl5]; rfl
        have f1 : W5.frozen? ⟨J, 1, none⟩ = false := Lib.frozen_of_heap hl5 1
        have hl6 : (W5.setCell ⟨J, 1, none⟩ (.string s)).heap[J]? = some (.cells #[.int .i64 x, .string s, .int .i64 y] 34 (0, 0)) := by rw [Go.Joins.block_setCell hl5]; rfl
        have n0 : (W5.setCell ⟨J, 1, none⟩ (.string s)).cell? ⟨J, 0, none⟩ = some (.int .i64 x) := by rw [Lib.cell_of_heap hl6]; rfl
        have n1 : (W5.setCell ⟨J, 1, none⟩ (.string s)).cell? ⟨J, 1, none⟩ = some (.string s) := by rw [Lib.cell_of_heap hl6]; rfl
        have n2 : (W5.setCell ⟨J, 1, none⟩ (.string s)).cell? ⟨J, 2, none⟩ = some (.int .i64 y) := by rw [Lib.cell_of_heap hl6]; rfl
        have H6 : Hid (QS B P rv cs (W5.setCell ⟨J, 1, none⟩ (.string s)) q ∧ Below J w (W5.setCell ⟨J, 1, none⟩ (.string s))) := ⟨(HX.out W5 hb5).1.keep fun g hg => Below.heap_setCell _ ⟨J, 1, none⟩ _ g (by have := HPl.out.2 g hg; show g ≠ J; omega), (HX.out W5 hb5).2.1.setCell (p := ⟨J, 1, none⟩) (by show J ≤ J; omega) _⟩
        clear hl5 hl6 hb5 k1 HFi HCl HCl1 HSz HN
        go_wp2_with fail
        refine (HAd1.out _ H6.out.1 H6.out.2).mono ?_
        rintro e W7 ⟨rfl, hres⟩
        have HR : Hid (∃ rv' cs', QS B P rv' cs' W7 { q with ring := addR ⟨x.toNat, s, y.toNat⟩ q.ring } ∧ Upd (ids P rv cs) (ids P rv' cs') w W7) := hres
        clear hres
        go_wp2
        go_ret
        exact ⟨by rw [HPE2.out]; rfl, by rw [HPQ.out]; exact HR.out⟩
  · have HPE : Hid (putE q x s y = jobE x s y) := if_pos hje
    have HPQ : Hid (putQ q x s y = q) := if_neg (by rw [HPE.out]; exact hje)
    have hj2 : (jobE x s y == 0) = false := by simpa using hje
    have HF1 : Hid (∃ rv' cs', QS B P rv' cs' W1 q ∧ Upd (ids P rv cs) (ids P rv' cs') w W1) := HFE.out W1 HB1.out.1
    generalize jobE x s y = ee at *
    clear HAd HJ HFi HCl HSz HN HX HFE
    go_wp2
    go_ret
    exact ⟨by rw [HPE.out]; rfl, by rw [HPQ.out]; exact HF1.out⟩
end Go.Proofs.Ytfddhdpnoliamaa
