/- The document's book: each call; a beat. -/
import Derived.Test.YtocahjnibdgmoaaLpX
namespace Go.Proofs.Ytocahjnibdgmoaa
open Go.RowKit Go.Shelf Go.Sort

structure DQ (B R : Nat) (a b c nw : Int) (P : List Pj) (I : List Nat) (w : World) : Prop where
  ex : ∃ nv sv tv av d, DB B R a b c nv sv tv av d w ∧ rid R (rws nv sv tv av d) = I ∧ Sim b P d ∧ d.now = nw

section
variable {B R : Nat} {a b c nw : Int} {P : List Pj} {I : List Nat} {w w' : World}
theorem DQ.lt (h : DQ B R a b c nw P I w) : ∀ g ∈ I, B ≤ g ∧ g < w.heap.size := by
  obtain ⟨nv, sv, tv, av, d, h1, rfl, _⟩ := h.ex
  exact DS.lt h1
theorem DQ.keep (h : DQ B R a b c nw P I w) (hh : ∀ g ∈ I, w'.heap[g]? = w.heap[g]?) : DQ B R a b c nw P I w' := by
  obtain ⟨nv, sv, tv, av, d, h1, rfl, h2⟩ := h.ex
  exact ⟨nv, sv, tv, av, d, DS.keep h1 hh, rfl, h2⟩
theorem DQ.up (h : DQ B R a b c nw P I w) (hb : Below w.heap.size w w') : DQ B R a b c nw P I w' := h.keep fun g hg => hb.block g (h.lt g hg).2
theorem lsP_small (hp : PI a b c nw P) : (lsP P).length ≤ 1000 := by
  have := lsP_len P 200 (fun p hp2 => by have h7 := (hp.each p hp2).sz; have h8 := hp.tc; omega) hp.len
  omega
theorem Sim.small {d : Db} (h : Sim b P d) (hp : PI a b c nw P) : d.A.length ≤ 1000 ∧ d.N.length ≤ 200 := ⟨by rw [h.perm.length_eq]; exact lsP_small hp, by rw [h.ln]; exact hp.len⟩

theorem DQ.time (h : DQ B R a b c nw P I w) (hp : PI a b c nw P) (now q : Int) :
    Calls Try.prog 19 #[.pointer (some ⟨R, 0, none⟩), .int .i64 now, .int .i64 q] w fun e w' => ∃ ao cap I', e = .returned (.tuple #[.slice ao (tellT nw now (nobody q) P).length cap, .int .i64 (tellE nw now (nobody q))]) ∧ w'.ownsRow w.heap.size 9 1 (.slice ao (tellT nw now (nobody q) P).length cap) (tellT nw now (nobody q) P).length ((tellT nw now (nobody q) P).map encStr) ∧ DQ B R a b c (tellN nw now (nobody q)) (tellP nw now (nobody q) P) I' w' ∧ Upd I I' w w' := by
  obtain ⟨nv, sv, tv, av, d, h1, rfl, h2, h3⟩ := h.ex
  subst h3
  obtain ⟨hA, hN⟩ := h2.small hp
  by_cases ht : now < 0 ∨ 1000000000 < now ∨ nobody q = true
  · have e1 : tellE d.now now (nobody q) = 3 := by unfold tellE; rw [if_pos ht]
    refine (Time_range now q ht).mono ?_
    rintro e w' ⟨rfl, rfl⟩
    unfold tellT tellN tellP
    rw [e1]
    exact ⟨none, 0, _, rfl, World.ownsRow_nil _ _ _ _, ⟨nv, sv, tv, av, d, h1, rfl, h2, rfl⟩, Upd.refl _ _⟩
  · have hq : nobody q = false := by
      cases hn : nobody q with
      | false => rfl
      | true => exact absurd (.inr (.inr hn)) ht
    have z1 : ¬ now < 0 := fun h => ht (.inl h)
    have z2 : ¬ 1000000000 < now := fun h => ht (.inr (.inl h))
    by_cases h4 : now < d.now
    · have e1 : tellE d.now now (nobody q) = 4 := by unfold tellE; rw [if_neg ht, if_pos h4]
      refine (Time_state h1 now q z1 z2 hq h4).mono ?_
      rintro e w' ⟨rfl, rfl⟩
      unfold tellT tellN tellP
      rw [e1]
      exact ⟨none, 0, _, rfl, World.ownsRow_nil _ _ _ _, ⟨nv, sv, tv, av, d, h1, rfl, h2, rfl⟩, Upd.refl _ _⟩
    · have e1 : tellE d.now now (nobody q) = 0 := by unfold tellE; rw [if_neg ht, if_neg h4]
      refine (Time_ok h1 h2 hp.po hp.up hA (by omega) now q z1 z2 hq h4).mono ?_
      rintro e w' ⟨v, rfl, n, hT⟩
      obtain ⟨av', pre, rest, dd, t1, t2, t3, t4, t5, t6, t7, t8, t9, t10, t11, t12, t13, t14⟩ := hT.ex
      have hr : rest = [] := List.length_eq_zero_iff.1 t7.symm
      subst hr
      rw [fP_nil] at t2
      rw [outs_nil] at t11
      obtain ⟨ao, cap, rfl⟩ := row_shape t11
      have eT : tellT d.now now (nobody q) P = (P.filter (freesP now)).map Pj.nm := by unfold tellT; rw [if_pos e1]
      have eP : tellP d.now now (nobody q) P = P.map (cutP now) := by unfold tellP; rw [if_pos e1]
      rw [eT, eP, tellN_zero e1, e1]
      exact ⟨ao, cap, _, rfl, t11, ⟨nv, sv, tv, av', dd, t1, rfl, t2, t4⟩, t10⟩

/-- .. as a worker's call tells it. -/
theorem DQ.timeW (h : DQ B R a b c nw P I w) (hp : PI a b c nw P) (now q : Int) :
    Calls Try.prog 19 #[.pointer (some ⟨R, 0, none⟩), .int .i64 now, .int .i64 q] w fun e w' => ∃ v, e = .returned (.tuple #[v, .int .i64 (tellE nw now (nobody q))]) ∧ ∃ I', DQ B R a b c (tellN nw now (nobody q)) (tellP nw now (nobody q) P) I' w' ∧ Upd I I' w w' := by
  refine (h.time hp now q).mono ?_
  rintro e w' ⟨ao, cap, I', rfl, _, r1, r2⟩
  exact ⟨_, rfl, I', r1, r2⟩

section
variable {Q : World → Prop} {s : ByteArray} {q now er : Int}
/-- The three calls where time may not be told so. -/
theorem rGrant_fail (hc : Calls Try.prog 19 #[.pointer (some ⟨R, 0, none⟩), .int .i64 now, .int .i64 q] w fun e w' => ∃ v, e = .returned (.tuple #[v, .int .i64 er]) ∧ Q w') (he : er ≠ 0) :
    Calls Try.prog 13 #[.pointer (some ⟨R, 0, none⟩), .string s, .int .i64 q, .int .i64 now] w fun e w' => e = .returned (.int .i64 er) ∧ Q w' := by
  have HC : Hid (Calls Try.prog 19 #[.pointer (some ⟨R, 0, none⟩), .int .i64 now, .int .i64 q] w fun e w' => ∃ v, e = .returned (.tuple #[v, .int .i64 er]) ∧ Hid (Q w')) := hc
  have k0 : (er == 0) = false := beq_eq_false_iff_ne.2 he
  clear he hc
  go_enter Try.func13, Try.ntmps13
  go_wp2_with (first
    | (go_at_call 19; refine HC.out.mono ?_; rintro e w' ⟨v, rfl, r2⟩)
    | go_in)
  go_ret
  exact ⟨rfl, r2.out⟩
theorem rBeat_fail (hc : Calls Try.prog 19 #[.pointer (some ⟨R, 0, none⟩), .int .i64 now, .int .i64 q] w fun e w' => ∃ v, e = .returned (.tuple #[v, .int .i64 er]) ∧ Q w') (he : er ≠ 0) :
    Calls Try.prog 15 #[.pointer (some ⟨R, 0, none⟩), .string s, .int .i64 q, .int .i64 now] w fun e w' => e = .returned (.int .i64 er) ∧ Q w' := by
  have HC : Hid (Calls Try.prog 19 #[.pointer (some ⟨R, 0, none⟩), .int .i64 now, .int .i64 q] w fun e w' => ∃ v, e = .returned (.tuple #[v, .int .i64 er]) ∧ Hid (Q w')) := hc
  have k0 : (er == 0) = false := beq_eq_false_iff_ne.2 he
  clear he hc
  go_enter Try.func15, Try.ntmps15
  go_wp2_with (first
    | (go_at_call 19; refine HC.out.mono ?_; rintro e w' ⟨v, rfl, r2⟩)
    | go_in)
  go_ret
  exact ⟨rfl, r2.out⟩
theorem rDone_fail (g : Bool) (hc : Calls Try.prog 19 #[.pointer (some ⟨R, 0, none⟩), .int .i64 now, .int .i64 q] w fun e w' => ∃ v, e = .returned (.tuple #[v, .int .i64 er]) ∧ Q w') (he : er ≠ 0) :
    Calls Try.prog 17 #[.pointer (some ⟨R, 0, none⟩), .string s, .int .i64 q, .int .i64 now, .bool g] w fun e w' => e = .returned (.int .i64 er) ∧ Q w' := by
  have HC : Hid (Calls Try.prog 19 #[.pointer (some ⟨R, 0, none⟩), .int .i64 now, .int .i64 q] w fun e w' => ∃ v, e = .returned (.tuple #[v, .int .i64 er]) ∧ Hid (Q w')) := hc
  have k0 : (er == 0) = false := beq_eq_false_iff_ne.2 he
  clear he hc
  go_enter Try.func17, Try.ntmps17
  go_wp2_with (first
    | (go_at_call 19; refine HC.out.mono ?_; rintro e w' ⟨v, rfl, r2⟩)
    | go_in)
  go_ret
  exact ⟨rfl, r2.out⟩
/-- .. where the worker has no lease of it. -/
theorem rBeat_none (hc : Calls Try.prog 19 #[.pointer (some ⟨R, 0, none⟩), .int .i64 now, .int .i64 q] w fun e w' => ∃ v, e = .returned (.tuple #[v, .int .i64 0]) ∧ Q w') (hh : ∀ w', Q w' → Calls Try.prog 34 #[.pointer (some ⟨R, 0, none⟩), .string s, .int .i64 q] w' fun e w'' => e = .returned (.int .i64 (-1)) ∧ w'' = w') :
    Calls Try.prog 15 #[.pointer (some ⟨R, 0, none⟩), .string s, .int .i64 q, .int .i64 now] w fun e w' => e = .returned (.int .i64 5) ∧ Q w' := by
  have HC : Hid (Calls Try.prog 19 #[.pointer (some ⟨R, 0, none⟩), .int .i64 now, .int .i64 q] w fun e w' => ∃ v, e = .returned (.tuple #[v, .int .i64 0]) ∧ Hid (Q w')) := hc
  have HH : Hid (∀ w', Hid (Q w') → Calls Try.prog 34 #[.pointer (some ⟨R, 0, none⟩), .string s, .int .i64 q] w' fun e w'' => e = .returned (.int .i64 (-1)) ∧ w'' = w') := fun w' h => hh w' h.out
  clear hh hc
  go_enter Try.func15, Try.ntmps15
  go_wp2_with (first
    | (go_at_call 19; refine HC.out.mono ?_; rintro e w1 ⟨v, rfl, r2⟩)
    | (go_at_call 34; refine (HH.out _ r2).mono ?_; rintro e w'' ⟨rfl, hw⟩; subst w'')
    | go_in)
  go_ret
  exact ⟨rfl, r2.out⟩
theorem rDone_none (g : Bool) (hc : Calls Try.prog 19 #[.pointer (some ⟨R, 0, none⟩), .int .i64 now, .int .i64 q] w fun e w' => ∃ v, e = .returned (.tuple #[v, .int .i64 0]) ∧ Q w') (hh : ∀ w', Q w' → Calls Try.prog 34 #[.pointer (some ⟨R, 0, none⟩), .string s, .int .i64 q] w' fun e w'' => e = .returned (.int .i64 (-1)) ∧ w'' = w') :
    Calls Try.prog 17 #[.pointer (some ⟨R, 0, none⟩), .string s, .int .i64 q, .int .i64 now, .bool g] w fun e w' => e = .returned (.int .i64 5) ∧ Q w' := by
  have HC : Hid (Calls Try.prog 19 #[.pointer (some ⟨R, 0, none⟩), .int .i64 now, .int .i64 q] w fun e w' => ∃ v, e = .returned (.tuple #[v, .int .i64 0]) ∧ Hid (Q w')) := hc
  have HH : Hid (∀ w', Hid (Q w') → Calls Try.prog 34 #[.pointer (some ⟨R, 0, none⟩), .string s, .int .i64 q] w' fun e w'' => e = .returned (.int .i64 (-1)) ∧ w'' = w') := fun w' h => hh w' h.out
  clear hh hc
  go_enter Try.func17, Try.ntmps17
  go_wp2_with (first
    | (go_at_call 19; refine HC.out.mono ?_; rintro e w1 ⟨v, rfl, r2⟩)
    | (go_at_call 34; refine (HH.out _ r2).mono ?_; rintro e w'' ⟨rfl, hw⟩; subst w'')
    | go_in)
  go_ret
  exact ⟨rfl, r2.out⟩
end
end
end Go.Proofs.Ytocahjnibdgmoaa
