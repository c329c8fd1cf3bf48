/- The document's book: a job is added; all leases, sorted. -/
import Derived.Test.YtocahjnibdgmoaaLpJ
import Derived.Test.YtocahjnibdgmoaaLpA
namespace Go.Proofs.Ytocahjnibdgmoaa
open Go.RowKit Go.Shelf Go.Sort

section
variable {B R : Nat} {a b c nw : Int} {P : List Pj} {I : List Nat} {d : Db} {w : World} {nv sv tv av : Value}
theorem DQ.sorted (h : DQ B R a b c nw P I w) (hp : PI a b c nw P) :
    Calls Try.prog 24 #[.pointer (some ⟨R, 0, none⟩)] w fun e w' => ∃ v, e = .returned v ∧ w'.ownsRow w.heap.size 52 3 v (lsP P).length (lcs (lsP P)) ∧ Below w.heap.size w w' := by
  obtain ⟨nv, sv, tv, av, d, h1, rfl, h2, h3⟩ := h.ex
  have hwk : ∀ p ∈ P, p.ts.Pairwise fun x y => x.1 < y.1 := fun p hp2 => (hp.each p hp2).wk
  exact Sorted_any h1 (h2.small hp).1 h2.perm (lsP_less P hp.up hp.ne hwk) (h2.perm.nodup_iff.2 (lsP_nd P hp.ne hwk))

theorem Sim.add (h : Sim b P d) (s : List UInt8) (hb : 1 ≤ b) (hf : fndP P s = none) (hne : (insP ⟨s, false, 0, []⟩ P).Pairwise fun x y => x.nm ≠ y.nm) :
    Sim b (insP ⟨s, false, 0, []⟩ P) ⟨d.now, d.N ++ [s], d.S ++ [1], d.T ++ [0], d.A⟩ := by
  have hpm := insP_perm ⟨s, false, 0, []⟩ P
  have hno : s ∉ d.N := fun hm => by
    obtain ⟨k, hk, e⟩ := List.getElem_of_mem hm
    obtain ⟨q, hq, _⟩ := h.at_ k hk
    rw [e, hf] at hq
    cases hq
  refine ⟨?_, by simp [h.sl], by simp [h.tl], by show (d.N ++ [s]).length = _; rw [hpm.length_eq, List.length_append, h.ln]; rfl, fun k hk => ?_, fun p hp => ?_, ?_⟩
  · show (d.N ++ [s]).Nodup
    rw [List.nodup_append]
    refine ⟨h.nd, by simp, fun x hx y hy e => ?_⟩
    rw [List.mem_singleton.1 hy] at e
    exact hno (e ▸ hx)
  · have hk : k < (d.N ++ [s]).length := hk
    show ∃ p, fndP (insP ⟨s, false, 0, []⟩ P) (d.N ++ [s])[k] = some p ∧ ((d.S ++ [1]).getD k 0 : Int) = _ ∧ (d.T ++ [0]).getD k 0 = _
    by_cases e : k < d.N.length
    · obtain ⟨q, h1, h2, h3⟩ := h.at_ k e
      have hq := fnd_mem h1
      refine ⟨q, ?_, ?_, ?_⟩
      · rw [List.getElem_append_left e, ← hq.2]
        exact fnd_inO hne (hpm.mem_iff.2 (List.mem_cons_of_mem _ hq.1))
      · rw [← h2]
        simp only [List.getD_eq_getElem?_getD]
        rw [List.getElem?_append_left (by rw [h.sl]; exact e)]
      · rw [← h3]
        simp only [List.getD_eq_getElem?_getD]
        rw [List.getElem?_append_left (by rw [h.tl]; exact e)]
    · have e2 : k = d.N.length := by rw [List.length_append] at hk; simp at hk; omega
      subst e2
      refine ⟨⟨s, false, 0, []⟩, ?_, ?_, ?_⟩
      · have e3 : (d.N ++ [s])[d.N.length] = s := by simp
        rw [e3]
        exact fnd_inO (p := ⟨s, false, 0, []⟩) hne (hpm.mem_iff.2 List.mem_cons_self)
      · have : (d.S ++ [1]).getD d.N.length 0 = 1 := by rw [← h.sl]; simp [List.getD_eq_getElem?_getD]
        rw [this]
        unfold lst
        rw [if_neg (by simp), if_neg (by simp), if_neg (by show ¬ b ≤ ((0 : Nat) : Int); omega)]
        rfl
      · have : (d.T ++ [0]).getD d.N.length 0 = 0 := by rw [← h.tl]; simp [List.getD_eq_getElem?_getD]
        rw [this]
  · show p.nm ∈ d.N ++ [s]
    rcases List.mem_cons.1 (hpm.mem_iff.1 hp) with rfl | hp
    · simp
    · exact List.mem_append_left _ (h.in_ p hp)
  · show d.A.Perm _
    refine h.perm.trans ?_
    have : lsP (⟨s, false, 0, []⟩ :: P) = lsP P := by rw [lsP_cons]; rfl
    rw [← this]
    exact hpm.symm.flatMap_right _

theorem rAdd_form (s : ByteArray) (hs : s.size ≤ maxLen) (hn : nameOk s = false) :
    Calls Try.prog 11 #[.pointer (some ⟨R, 0, none⟩), .string s] w fun e w' => e = .returned (.int .i64 1) ∧ w' = w := by
  have HI : Hid (∀ W, Calls Try.prog 29 #[.string s] W fun e w' => e = .returned (.bool false) ∧ w' = W) := fun W => hn ▸ RIsName_any s W hs
  clear hs hn
  go_enter Try.func11, Try.ntmps11
  go_wp2_with (first
    | (go_at_call 29; refine (HI.out _).mono ?_; rintro e w'' ⟨rfl, hw⟩; subst w'')
    | go_in)
  go_ret
  exact ⟨rfl, rfl⟩
theorem rAdd_twice (h : DB B R a b c nv sv tv av d w) (hN : d.N.length ≤ 1000) (s : ByteArray) (hs : s.size ≤ maxLen) (hn : nameOk s = true) (k : Nat) (hi : fidx (fun x => decide (x = s.data.toList)) d.N = (k : Int)) :
    Calls Try.prog 11 #[.pointer (some ⟨R, 0, none⟩), .string s] w fun e w' => e = .returned (.int .i64 6) ∧ w' = w := by
  have HI : Hid (∀ W, Calls Try.prog 29 #[.string s] W fun e w' => e = .returned (.bool true) ∧ w' = W) := fun W => hn ▸ RIsName_any s W hs
  have hAt := At_any h (by omega) s
  rw [hi] at hAt
  have HA : Hid (Calls Try.prog 22 #[.pointer (some ⟨R, 0, none⟩), .string s] w fun e w' => e = .returned (.int .i64 (k : Int)) ∧ w' = w) := hAt
  clear hs hn hAt hi hN h
  go_enter Try.func11, Try.ntmps11
  go_wp2_with (first
    | (go_at_call 29; refine (HI.out _).mono ?_; rintro e w'' ⟨rfl, hw⟩; subst w'')
    | (go_at_call 22; refine HA.out.mono ?_; rintro e w'' ⟨rfl, hw⟩; subst w'')
    | go_in)
  go_ret
  exact ⟨rfl, rfl⟩
theorem rAdd_many (h : DB B R a b c nv sv tv av d w) (hN : d.N.length = 200) (s : ByteArray) (hs : s.size ≤ maxLen) (hn : nameOk s = true) (hi : fidx (fun x => decide (x = s.data.toList)) d.N = -1) :
    Calls Try.prog 11 #[.pointer (some ⟨R, 0, none⟩), .string s] w fun e w' => e = .returned (.int .i64 2) ∧ w' = w := by
  have HI : Hid (∀ W, Calls Try.prog 29 #[.string s] W fun e w' => e = .returned (.bool true) ∧ w' = W) := fun W => hn ▸ RIsName_any s W hs
  have hAt := At_any h (by omega) s
  rw [hi] at hAt
  have HA : Hid (Calls Try.prog 22 #[.pointer (some ⟨R, 0, none⟩), .string s] w fun e w' => e = .returned (.int .i64 (-1)) ∧ w' = w) := hAt
  have c4 := h.c4
  obtain ⟨ao, cap, hv⟩ := h.nr.shape
  rw [hN] at hv
  subst hv
  clear hs hn hAt hi hN h
  go_enter Try.func11, Try.ntmps11
  go_wp2_with (first
    | (go_at_call 29; refine (HI.out _).mono ?_; rintro e w'' ⟨rfl, hw⟩; subst w'')
    | (go_at_call 22; refine HA.out.mono ?_; rintro e w'' ⟨rfl, hw⟩; subst w'')
    | go_in)
  go_ret
  exact ⟨rfl, rfl⟩

theorem DQ.add (h : DQ B R a b c nw P I w) (hp : PI a b c nw P) (s : ByteArray) (hs : s.size ≤ maxLen) :
    Calls Try.prog 11 #[.pointer (some ⟨R, 0, none⟩), .string s] w fun e w' => e = .returned (.int .i64 (adE P s)) ∧ ∃ I', DQ B R a b c nw (adP P s) I' w' ∧ Upd I I' w w' := by
  have hstay : adE P s ≠ 0 → ∀ w', w' = w → ∃ I', DQ B R a b c nw (adP P s) I' w' ∧ Upd I I' w w' := fun e w' hw => by
    subst hw
    unfold adP
    rw [if_neg e]
    exact ⟨I, h, Upd.refl _ _⟩
  have hpa := hp.add s
  obtain ⟨nv, sv, tv, av, d, h1, rfl, h2, rfl⟩ := h.ex
  have hsm := h2.small hp
  cases hn : nameOk s with
  | false =>
    have e1 : adE P s = 1 := by unfold adE; rw [if_pos hn]
    refine (rAdd_form s hs hn).mono ?_
    rintro e w' ⟨rfl, hw⟩
    exact ⟨by rw [e1], hstay (by rw [e1]; decide) w' hw⟩
  | true =>
    cases hf : fndP P s.data.toList with
    | some p =>
      have e1 : adE P s = 6 := by unfold adE; rw [if_neg (by rw [hn]; decide), if_pos (by rw [hf]; simp)]
      obtain ⟨k, hk, _, hi, _⟩ := h2.idx hf
      refine (rAdd_twice h1 (by omega) s hs hn k hi).mono ?_
      rintro e w' ⟨rfl, hw⟩
      exact ⟨by rw [e1], hstay (by rw [e1]; decide) w' hw⟩
    | none =>
      have hi := h2.noidx hf
      by_cases h200 : 200 ≤ P.length
      · have e1 : adE P s = 2 := by unfold adE; rw [if_neg (by rw [hn]; decide), if_neg (by rw [hf]; simp), if_pos h200]
        refine (rAdd_many h1 (by rw [h2.ln]; have := h2.ln; omega) s hs hn hi).mono ?_
        rintro e w' ⟨rfl, hw⟩
        exact ⟨by rw [e1], hstay (by rw [e1]; decide) w' hw⟩
      · have e1 : adE P s = 0 := by unfold adE; rw [if_neg (by rw [hn]; decide), if_neg (by rw [hf]; simp), if_neg h200]
        have e2 : adP P s = insP ⟨s.data.toList, false, 0, []⟩ P := by unfold adP; rw [if_pos e1]
        rw [e2] at hpa
        have hS := h2.add s.data.toList hp.tb.1 hf hpa.ne
        obtain ⟨aN, cN, rfl⟩ := h1.nr.shape
        obtain ⟨aS, cS, rfl⟩ := h1.sr.shape
        obtain ⟨aT, cT, rfl⟩ := h1.tr.shape
        have hsl := h2.sl
        have htl := h2.tl
        have hln := h2.ln
        rw [e1, e2]
        refine (rAdd_ok (Fin := fun w' => ∃ I', DQ B R a b c d.now (insP ⟨s.data.toList, false, 0, []⟩ P) I' w' ∧ Upd (rid R (rws (.slice aN d.N.length cN) (.slice aS d.S.length cS) (.slice aT d.T.length cT) av d)) I' w w') h1 (AS.start h1) hn hs (by omega) rfl (by omega) (by omega) hi fun g1 g2 g3 c1 c2 c3 X hX => ?_).mono fun e w' he => ⟨he.1, he.2.out⟩
        refine ⟨_, ⟨.slice (some ⟨g1, 0, none⟩) (d.N.length + 1) c1, .slice (some ⟨g2, 0, none⟩) (d.S.length + 1) c2, .slice (some ⟨g3, 0, none⟩) (d.T.length + 1) c3, av, _, ?_, rfl, hS, rfl⟩, ?_⟩
        · have := hX.ds
          have q1 : nsv (d.S ++ [1]) = nsv d.S ++ [.int .i64 1] := by unfold nsv; rw [List.map_append]; rfl
          have q2 : nsv (d.T ++ [0]) = nsv d.T ++ [.int .i64 0] := by unfold nsv; rw [List.map_append]; rfl
          unfold DB rws
          simp only [List.length_append, List.length_singleton, List.map_append, List.map_cons, List.map_nil, encS, q1, q2]
          exact this
        · have := hX.up
          exact this
end
end Go.Proofs.Ytocahjnibdgmoaa
