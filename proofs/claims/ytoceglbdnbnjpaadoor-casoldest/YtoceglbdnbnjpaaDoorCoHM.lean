/- A store into which texts of one length are put, one behind the other: plain, and in memory. -/
import Derived.Test.YtoceglbdnbnjpaaDoorTq6
import Derived.Test.YtoceglbdnbnjpaaDoorCsFdM
import Derived.Test.YtoceglbdnbnjpaaDoorCoG1M
import Derived.Test.YtoceglbdnbnjpaaDoorCoG2M
import Derived.Test.YtoceglbdnbnjpaaDoorCoG3M
import Derived.Test.YtoceglbdnbnjpaaDoorCoG4M
namespace Go.Proofs.YtoceglbdnbnjpaaDoor
open Go.RowKit Go.Shelf Go.Maps Go.WideMaps

theorem chk_size (size : Nat) (h1 : 1 ≤ size) (h2 : size ≤ 60) : chkN size 30 0 [] = true := by
  by_cases a1 : size ≤ 15
  · exact List.all_eq_true.1 chk_all1 size (List.mem_range'_1.2 ⟨by omega, by omega⟩)
  · by_cases a2 : size ≤ 30
    · exact List.all_eq_true.1 chk_all2 size (List.mem_range'_1.2 ⟨by omega, by omega⟩)
    · by_cases a3 : size ≤ 45
      · exact List.all_eq_true.1 chk_all3 size (List.mem_range'_1.2 ⟨by omega, by omega⟩)
      · exact List.all_eq_true.1 chk_all4 size (List.mem_range'_1.2 ⟨by omega, by omega⟩)
/-- No two of these texts have one sum. -/
theorem rep_inj {size i j : Nat} (h1 : 1 ≤ size) (h2 : size ≤ 60) (hi : i < 30) (hj : j < 30) (h : smB (repB size i) = smB (repB size j)) : i = j := by
  have hs := (chk_spec size 30 0 [] (chk_size size h1 h2)).2
  rcases Nat.lt_trichotomy i j with hlt | he | hlt
  · exact absurd (sm_fst h) (hs i j (by omega) hlt (by omega))
  · exact he
  · exact absurd (sm_fst h).symm (hs j i (by omega) hlt (by omega))
theorem rep_size (size i : Nat) : (repB size i).size = size := by
  show (List.replicate size (UInt8.ofNat i)).toArray.size = size
  simp
/-- The last ones are there. -/
structure OlI (size c j : Nat) (E : List Ent) : Prop where
  tx : E.map Ent.tx = (List.range' (j - min j c) (min j c)).map (repB size)
  each : ∀ e ∈ E, e.pins = 0 ∧ e.dg = smB e.tx
theorem OlI.len {size c j : Nat} {E : List Ent} (h : OlI size c j E) : E.length = min j c := by
  have := congrArg List.length h.tx
  simpa using this
theorem by_const (size : Nat) : ∀ (E : List Ent), (∀ e ∈ E, e.tx.size = size) → byE E = size * E.length
  | [], _ => rfl
  | e :: r, h => by
    have := by_const size r fun y hy => h y (by simp [hy])
    unfold byE at this ⊢
    rw [List.map_cons, List.sum_cons, this, h e (by simp), List.length_cons, Nat.mul_add, Nat.mul_one, Nat.add_comm]
theorem OlI.size {size c j : Nat} {E : List Ent} (h : OlI size c j E) : ∀ e ∈ E, e.tx.size = size := fun e he => by
  have : e.tx ∈ E.map Ent.tx := List.mem_map_of_mem he
  rw [h.tx] at this
  obtain ⟨i, _, hi⟩ := List.mem_map.1 this
  rw [← hi, rep_size]
theorem OlI.pi {size c j : Nat} {E : List Ent} (h : OlI size c j E) : piE E = 0 := by
  have : ∀ (E : List Ent), (∀ y ∈ E, y.pins = 0) → piE E = 0 := by
    intro E
    induction E with
    | nil => intro _; rfl
    | cons e r ih =>
      intro h
      have h1 := ih fun y hy => h y (by simp [hy])
      unfold piE at h1 ⊢
      rw [List.map_cons, List.sum_cons, h1, if_pos (h e (by simp))]
  exact this E fun y hy => (h.each y hy).1
/-- Which are there. -/
theorem OlI.mem {size c j : Nat} {E : List Ent} (h : OlI size c j E) (h1 : 1 ≤ size) (h2 : size ≤ 60) (hj : j ≤ 30) (i : Nat) (hi : i < 30) : (∃ e ∈ E, e.dg = smB (repB size i)) ↔ (j - min j c ≤ i ∧ i < j) := by
  constructor
  · rintro ⟨e, he, hd⟩
    have : e.tx ∈ E.map Ent.tx := List.mem_map_of_mem he
    rw [h.tx] at this
    obtain ⟨k, hk, hke⟩ := List.mem_map.1 this
    rw [List.mem_range'_1] at hk
    have hk30 : k < 30 := by omega
    rw [(h.each e he).2, ← hke] at hd
    have := rep_inj h1 h2 hk30 hi hd
    omega
  · intro hh
    have : repB size i ∈ E.map Ent.tx := by
      rw [h.tx]
      exact List.mem_map_of_mem (List.mem_range'_1.2 ⟨hh.1, by omega⟩)
    obtain ⟨e, he, hte⟩ := List.mem_map.1 this
    exact ⟨e, he, by rw [(h.each e he).2, hte]⟩
/-- One more. -/
theorem OlI.next {rm size j : Nat} {E : List Ent} (h : OlI size (rm / size) j E) (h1 : 1 ≤ size) (hr : size ≤ rm) (tn b : Nat) : OlI size (rm / size) (j + 1) (gonF rm size E.length E ++ [⟨smB (repB size j), repB size j, 0, tn, b⟩]) := by
  have hl := h.len
  have hb := by_const size E h.size
  obtain ⟨c, hc⟩ : ∃ c, c = rm / size := ⟨_, rfl⟩
  rw [← hc] at h hl ⊢
  have hc1 : size * c ≤ rm := by rw [hc]; exact Nat.mul_div_le rm size
  have hc2 : rm < size * (c + 1) := by rw [hc]; exact Nat.lt_mul_div_succ rm h1
  have hc0 : 1 ≤ c := by
    rcases Nat.lt_or_ge c 1 with h0 | h0
    · have : c = 0 := by omega
      subst this
      omega
    · exact h0
  by_cases hfull : j < c
  · have hlen : E.length = j := by omega
    have hfit : byE E + size ≤ rm := by
      rw [hb, hlen]
      have : size * (j + 1) ≤ size * c := Nat.mul_le_mul_left size (by omega)
      rw [Nat.mul_add, Nat.mul_one] at this
      omega
    rw [go_end_eq hfit]
    refine ⟨?_, fun e he => ?_⟩
    · rw [List.map_append, h.tx, show min j c = j by omega, show min (j + 1) c = j + 1 by omega, Nat.sub_self, Nat.sub_self, List.range'_concat, List.map_append]
      simp
    · rcases List.mem_append.1 he with he | he
      · exact h.each e he
      · rw [List.mem_singleton] at he
        subst he
        exact ⟨rfl, rfl⟩
  · have hlen : E.length = c := by omega
    have hno : ¬ byE E + size ≤ rm := by
      rw [hb, hlen]
      rw [Nat.mul_add, Nat.mul_one] at hc2
      omega
    cases hE : E with
    | nil => rw [hE] at hlen; simp at hlen; omega
    | cons e r =>
      have hep : e.pins = 0 := (h.each e (by rw [hE]; simp)).1
      have hdel : delF (e :: r) = r := by simp [delF, hep]
      have hrl : r.length = c - 1 := by rw [hE] at hlen; simp at hlen; omega
      have hbr : byE r = size * r.length := by_const size r fun y hy => h.size y (by rw [hE]; simp [hy])
      have hfit : byE r + size ≤ rm := by
        rw [hbr, hrl]
        have : size * (c - 1) + size = size * c := by
          rw [← Nat.mul_succ]; congr 1; omega
        omega
      have hg : gonF rm size (e :: r).length (e :: r) = r := by
        rw [hE] at hno
        rw [List.length_cons, gonF, if_neg hno, hdel, go_end_eq hfit]
      rw [hg]
      have htx := h.tx
      rw [hE, show min j c = c by omega] at htx
      refine ⟨?_, fun y hy => ?_⟩
      · obtain ⟨d, rfl⟩ : ∃ d, c = d + 1 := ⟨c - 1, by omega⟩
        rw [List.range'_succ, List.map_cons, List.map_cons] at htx
        injection htx with _ htx
        rw [List.map_append, htx, show min (j + 1) (d + 1) = d + 1 by omega, show j + 1 - (d + 1) = j - (d + 1) + 1 by omega, List.range'_concat, List.map_append]
        congr 1
        show [repB size j] = [repB size (j - (d + 1) + 1 + 1 * d)]
        congr 2
        omega
      · rcases List.mem_append.1 hy with hy | hy
        · exact h.each y (by rw [hE]; simp [hy])
        · rw [List.mem_singleton] at hy
          subst hy
          exact ⟨rfl, rfl⟩
/-- The store in memory. -/
structure OSt (B P M rm size : Nat) (w0 : World) (j : Nat) (w : World) : Prop where
  st : ∃ E I, CS B P M rm j E I w ∧ OlI size (rm / size) j E
  be : Below w0.heap.size w0 w
  lo : w0.heap.size ≤ B
  hi : B ≤ w.heap.size
theorem OSt.up {B P M rm size : Nat} {w0 : World} {j : Nat} {w w' : World} (h : OSt B P M rm size w0 j w) (hb : Below w.heap.size w w') : OSt B P M rm size w0 j w' := by
  obtain ⟨E, I, h1, h2⟩ := h.st
  exact ⟨⟨E, I, h1.up hb, h2⟩, h.be.trans (hb.mono h.be.size), h.lo, Nat.le_trans h.hi hb.size⟩
section
variable {B P M rm size : Nat} {w0 : World} {j : Nat} {w : World}
theorem o_put (h : OSt B P M rm size w0 j w) (hR : Roots w0) (h1 : 1 ≤ size) (h2 : size ≤ 60) (hj : j < 30) (hr : size ≤ rm) :
    Calls Tryd.prog 14 #[kp P, .string (repB size j)] w fun r w' => r = .returned (.tuple #[.string (smB (repB size j)), .int .i64 0]) ∧ (∀ (g : Nat) (o : Obj), w.heap[g]? = some o → NotS o = true → w'.heap[g]? = some o) ∧ Hid (OSt B P M rm size w0 (j + 1) w') := by
  obtain ⟨E, I, hc, ho⟩ := h.st
  have hz := rep_size size j
  have hd : ∀ y ∈ E, y.dg ≠ smB (repB size j) := fun y hy hh => by
    have := (ho.mem h1 h2 (by omega) j hj).1 ⟨y, hy, hh⟩
    omega
  refine (Put_new hc h.hi (hR.up h.be) _ hd (by omega) (by rw [ho.pi, hz]; omega) (by omega)).mono ?_
  rintro r w' ⟨rfl, b, I', q1, q2⟩
  refine ⟨rfl, fun g o hg hn => (q2.block g (Array.getElem?_eq_some_iff.1 hg).1 (hc.not_in hg hn)).trans hg, ⟨_, I', q1, ?_⟩, h.be.trans ((q2.below (fun g hg => (hc.lt g hg).1) h.hi).mono h.lo), h.lo, Nat.le_trans h.hi q2.size⟩
  rw [hz]
  exact ho.next h1 hr (j + 1) b
theorem o_no (h : OSt B P M rm size w0 0 w) (hR : Roots w0) (h2 : size ≤ 60) (i : Nat) (hr : rm < size) :
    Calls Tryd.prog 14 #[kp P, .string (repB size i)] w fun r w' => r = .returned (.tuple #[.string ⟨#[]⟩, .int .i64 2]) ∧ Below w0.heap.size w0 w' := by
  obtain ⟨E, I, hc, ho⟩ := h.st
  have hz := rep_size size i
  have hE : E = [] := by
    have := ho.len
    simpa using this
  subst hE
  refine (Put_no hc (hR.up h.be) _ (fun y hy => by cases hy) (by omega) (by rw [ho.pi, hz]; omega)).mono ?_
  rintro r w' ⟨rfl, q⟩
  exact ⟨rfl, h.be.trans (q.mono h.be.size)⟩
theorem o_find (h : OSt B P M rm size w0 j w) (h1 : 1 ≤ size) (h2 : size ≤ 60) (hj : j ≤ 30) (i : Nat) (hi : i < j) (b : Bool) (hb : b = decide ((j - i) * size ≤ rm)) :
    Calls Tryd.prog 21 #[kp P, .string (smB (repB size i))] w fun r w' => ∃ s p : Int, r = .returned (.tuple #[.agg #[.bool b, .int .i64 s, .int .i64 p], .int .i64 0]) ∧ Below w.heap.size w w' := by
  obtain ⟨E, I, hc, ho⟩ := h.st
  have hm := ho.mem h1 h2 hj i (by omega)
  have hiff : (j - i) * size ≤ rm ↔ j - i ≤ rm / size := (Nat.le_div_iff_mul_le (by omega)).symm
  by_cases hh : j - i ≤ rm / size
  · obtain ⟨e, he, hd⟩ := hm.2 ⟨by omega, hi⟩
    have hbt : b = true := by rw [hb, decide_eq_true (hiff.2 hh)]
    subst hbt
    have := Find_yes hc he (by rw [hd]; exact sm_dig _)
    rw [hd] at this
    refine this.mono ?_
    rintro r w' ⟨rfl, q⟩
    exact ⟨_, _, rfl, q⟩
  · have hbf : b = false := by rw [hb, decide_eq_false fun q => hh (hiff.1 q)]
    subst hbf
    have hn : ∀ e ∈ E, e.dg ≠ smB (repB size i) := fun e he hd => by
      have := hm.1 ⟨e, he, hd⟩
      omega
    refine (Find_no _ fun W hW => look_no (hc.up hW) hn (sm_dig _)).mono ?_
    rintro r w' ⟨rfl, q⟩
    exact ⟨_, _, rfl, q⟩
end
end Go.Proofs.YtoceglbdnbnjpaaDoor
