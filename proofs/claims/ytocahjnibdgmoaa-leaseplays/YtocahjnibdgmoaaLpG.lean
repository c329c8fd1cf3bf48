/- The document's book: a lease is granted. -/
import Derived.Test.YtocahjnibdgmoaaLpE
namespace Go.Proofs.Ytocahjnibdgmoaa
open Go.RowKit Go.Shelf Go.Sort
attribute [local go_sem ↓] appS_eq

section
variable {B R : Nat} {a b c nw : Int} {nv sv tv av : Value} {d : Db} {P : List Pj} {I : List Nat} {w : World}
theorem DB.setT (h : DB B R a b c nv sv tv av d w) (k u : Nat) (hk : k < d.T.length) :
    ∃ g cap, tv = .slice (some ⟨g, 0, none⟩) d.T.length cap ∧ w.cell? ⟨g, k, none⟩ = some (.int .i64 (d.T[k] : Int)) ∧ w.frozen? ⟨g, k, none⟩ = false ∧ DB B R a b c nv sv tv av { d with T := d.T.set k u } (w.setCell ⟨g, k, none⟩ (.int .i64 (u : Int))) ∧ Upd (rid R (rws nv sv tv av d)) (rid R (rws nv sv tv av { d with T := d.T.set k u })) w (w.setCell ⟨g, k, none⟩ (.int .i64 (u : Int))) := by
  obtain ⟨g, cap, hv, hc⟩ := row_i h.tr k hk
  subst hv
  obtain ⟨f1, f2, f3⟩ := DS.setIn (l1 := [⟨nv, 9, 1, d.N.length, d.N.map encStr⟩, ⟨sv, 3, 1, d.S.length, nsv d.S⟩]) (l2 := [⟨av, 52, 3, d.A.length, lcs d.A⟩]) (r := ⟨.slice (some ⟨g, 0, none⟩) d.T.length cap, 3, 1, d.T.length, nsv d.T⟩) h (g := g) (cap := cap) rfl (by show 0 < d.T.length; omega) k (.int .i64 (u : Int))
  refine ⟨g, cap, rfl, hc, f1, ?_, f3⟩
  unfold DB rws
  simp only [List.length_set, nsv_set]
  exact f2
theorem DB.appA (h : DB B R a b c nv sv tv av d w) (hb : d.A.length ≤ 1000) (s : ByteArray) (q t : Int) :
    ∃ g' cap' w', (appS #[34, 34] 34 #[av, .slice (some ⟨w.heap.size, 0, none⟩) 1 1]).run Try.prog ((w.alloc (.cells #[.string s, .int .i64 q, .int .i64 t] 52)).drew) = .ok (.slice (some ⟨g', 0, none⟩) (d.A.length + 1) cap') w' ∧ (∃ u, w'.cell? ⟨R, 7, none⟩ = some u) ∧ w'.frozen? ⟨R, 7, none⟩ = false ∧ DB B R a b c nv sv tv (.slice (some ⟨g', 0, none⟩) (d.A.length + 1) cap') { d with A := d.A ++ [(s.data.toList, q, t)] } (w'.setCell ⟨R, 7, none⟩ (.slice (some ⟨g', 0, none⟩) (d.A.length + 1) cap')) ∧ Upd (rid R (rws nv sv tv av d)) (rid R (rws nv sv tv (.slice (some ⟨g', 0, none⟩) (d.A.length + 1) cap') { d with A := d.A ++ [(s.data.toList, q, t)] })) w (w'.setCell ⟨R, 7, none⟩ (.slice (some ⟨g', 0, none⟩) (d.A.length + 1) cap')) := by
  obtain ⟨i0, hi0, hz0, hz1, hz2⟩ := info_parts infL
  have hB : B ≤ w.heap.size := by have := h.lo; have := (h.lt R List.mem_cons_self).2; omega
  have hA : Below w.heap.size w ((w.alloc (.cells #[.string s, .int .i64 q, .int .i64 t] 52)).drew) := ((Below.refl _ w).alloc (Nat.le_refl _) _).drew
  have hrow0 : RowL ((w.alloc (.cells #[.string s, .int .i64 q, .int .i64 t] 52)).drew) B 52 3 av d.A.length (lcs d.A) := h.ar.keep fun g hg => hA.block g (h.ar.lt g hg).2
  have hzA : ((w.alloc (.cells #[.string s, .int .i64 q, .int .i64 t] 52)).drew).heap.size = w.heap.size + 1 := World.size_alloc _ _
  obtain ⟨g', cap', w', hrun, hown, hgr, hat⟩ := RowL.app (P := Try.prog) hrow0 34 34 i0 (.agg #[.string ⟨#[]⟩, .int .i64 0, .int .i64 0]) 32 Try.underlying34 hi0 hz0 hz1 hz2 rfl (by decide) ⟨w.heap.size, 0, none⟩ 1 1 [.string s, .int .i64 q, .int .i64 t] rfl (new3 w _ _ _ _) (by simp [Value.oneCell']) (by decide) (by unfold maxLen; omega) (by omega) (by omega)
  have hu : Upd (ob av) (ob (.slice (some ⟨g', 0, none⟩) (d.A.length + 1) cap')) w w' := by
    refine ⟨hgr.os, hgr.tape, hgr.output, by have := hgr.size; omega, fun k hk hn => (hgr.block k (by omega) fun e => hn (mem_ob.2 e.symm)).trans (hA.block k hk), fun k hk => ?_⟩
    have : k = g' := by have := mem_ob.1 hk; simp [Value.ownBlock] at this; omega
    subst this
    rcases hat with e | e
    · exact .inl (mem_ob.2 e)
    · right; omega
  have hl : (d.A ++ [(s.data.toList, q, t)]).length = d.A.length + 1 := by simp
  have hs := DS.setRow (l1 := [⟨nv, 9, 1, d.N.length, d.N.map encStr⟩, ⟨sv, 3, 1, d.S.length, nsv d.S⟩, ⟨tv, 3, 1, d.T.length, nsv d.T⟩]) (l2 := []) (r := ⟨av, 52, 3, d.A.length, lcs d.A⟩) (r' := ⟨.slice (some ⟨g', 0, none⟩) (d.A.length + 1) cap', 52, 3, (d.A ++ [(s.data.toList, q, t)]).length, lcs (d.A ++ [(s.data.toList, q, t)])⟩) h hu (.inl (by rw [lcs_app, hl, encS]; exact hown)) 7 rfl
  exact ⟨g', cap', w', hrun, hs.2.1, hs.1, hs.2.2.1, hs.2.2.2⟩

/-- What a grant sees of a job that is known. -/
structure GF (R : Nat) (b c : Int) (s : ByteArray) (q : Int) (w1 : World) (k gs cs ns gt ct nt : Nat) (sk tk : Nat) (cn : Nat) (hi : Int) : Prop where
  at_ : Calls Try.prog 22 #[.pointer (some ⟨R, 0, none⟩), .string s] w1 fun e w'' => e = .returned (.int .i64 (k : Int)) ∧ w'' = w1
  has : Calls Try.prog 34 #[.pointer (some ⟨R, 0, none⟩), .string s, .int .i64 q] w1 fun e w'' => e = .returned (.int .i64 hi) ∧ w'' = w1
  many : ∀ m, Calls Try.prog 35 #[.pointer (some ⟨R, 0, none⟩), .string s] (w1.drewN m) fun e w'' => e = .returned (.int .i64 (cn : Int)) ∧ w'' = w1.drewN m
  c5 : w1.cell? ⟨R, 5, none⟩ = some (.slice (some ⟨gs, 0, none⟩) ns cs)
  c6 : w1.cell? ⟨R, 6, none⟩ = some (.slice (some ⟨gt, 0, none⟩) nt ct)
  c1 : w1.cell? ⟨R, 1, none⟩ = some (.int .i64 b)
  c2 : w1.cell? ⟨R, 2, none⟩ = some (.int .i64 c)
  ck : w1.cell? ⟨gs, k, none⟩ = some (.int .i64 (sk : Int))
  tk : w1.cell? ⟨gt, k, none⟩ = some (.int .i64 (tk : Int))
  ks : (k : Int) < (ns : Int)
  kt : (k : Int) < (nt : Int)

section
variable {Q : World → Prop} {s : ByteArray} {q now : Int}
set_option maxHeartbeats 2000000 in
set_option maxRecDepth 100000 in
theorem rGrant_none (hc : Calls Try.prog 19 #[.pointer (some ⟨R, 0, none⟩), .int .i64 now, .int .i64 q] w fun e w' => ∃ v, e = .returned (.tuple #[v, .int .i64 0]) ∧ Q w') (hh : ∀ w', Q w' → Calls Try.prog 22 #[.pointer (some ⟨R, 0, none⟩), .string s] w' fun e w'' => e = .returned (.int .i64 (-1)) ∧ w'' = w') :
    Calls Try.prog 13 #[.pointer (some ⟨R, 0, none⟩), .string s, .int .i64 q, .int .i64 now] w fun e w' => e = .returned (.int .i64 5) ∧ Q w' := by
  have HC : Hid (Calls Try.prog 19 #[.pointer (some ⟨R, 0, none⟩), .int .i64 now, .int .i64 q] w fun e w' => ∃ v, e = .returned (.tuple #[v, .int .i64 0]) ∧ Hid (Q w')) := hc
  have HH : Hid (∀ w', Hid (Q w') → Calls Try.prog 22 #[.pointer (some ⟨R, 0, none⟩), .string s] w' fun e w'' => e = .returned (.int .i64 (-1)) ∧ w'' = w') := fun w' h => hh w' h.out
  clear hh hc
  go_enter Try.func13, Try.ntmps13
  go_wp2_with (first
    | (go_at_call 19; refine HC.out.mono ?_; rintro e w1 ⟨v, rfl, r2⟩)
    | (go_at_call 22; refine (HH.out _ r2).mono ?_; rintro e w'' ⟨rfl, hw⟩; subst w'')
    | go_in)
  go_ret
  exact ⟨rfl, r2.out⟩

set_option maxHeartbeats 4000000 in
set_option maxRecDepth 100000 in
theorem rGrant_no {b c : Int} {er : Int} (hc : Calls Try.prog 19 #[.pointer (some ⟨R, 0, none⟩), .int .i64 now, .int .i64 q] w fun e w' => ∃ v, e = .returned (.tuple #[v, .int .i64 0]) ∧ Q w') (hQd : ∀ w' m, Q w' → Q (w'.drewN m))
    (hh : ∀ w', Q w' → ∃ k gs cs ns gt ct nt sk tk cn hi, GF R b c s q w' k gs cs ns gt ct nt sk tk cn hi ∧ ((3 ≤ sk ∧ er = 4) ∨ (sk < 3 ∧ 0 ≤ hi ∧ er = 6) ∨ (sk < 3 ∧ hi < 0 ∧ ((cn : Int) = c ∨ (tk : Int) = b) ∧ er = 2))) :
    Calls Try.prog 13 #[.pointer (some ⟨R, 0, none⟩), .string s, .int .i64 q, .int .i64 now] w fun e w' => e = .returned (.int .i64 er) ∧ Q w' := by
  refine Calls.mono (R := fun e w' => e = .returned (.int .i64 er) ∧ Hid (Q w')) ?_ fun e w' h => ⟨h.1, h.2.out⟩
  have HC : Hid (Calls Try.prog 19 #[.pointer (some ⟨R, 0, none⟩), .int .i64 now, .int .i64 q] w fun e w' => ∃ v, e = .returned (.tuple #[v, .int .i64 0]) ∧ Hid (Q w')) := hc
  have HH : Hid (∀ w', Hid (Q w') → Hid (∃ k gs cs ns gt ct nt sk tk cn hi, GF R b c s q w' k gs cs ns gt ct nt sk tk cn hi ∧ ((3 ≤ sk ∧ er = 4) ∨ (sk < 3 ∧ 0 ≤ hi ∧ er = 6) ∨ (sk < 3 ∧ hi < 0 ∧ ((cn : Int) = c ∨ (tk : Int) = b) ∧ er = 2)))) := fun w' h => hh w' h.out
  have HQ : Hid (∀ w' m, Hid (Q w') → Hid (Q (w'.drewN m))) := fun w' m h => hQd w' m h.out
  clear hh hc hQd
  go_enter Try.func13, Try.ntmps13
  go_wp2_with fail
  refine HC.out.mono ?_
  rintro e w1 ⟨v, rfl, r2⟩
  obtain ⟨k, gs, cs, ns, gt, ct, nt, sk, tk, cn, hi, G, hcase⟩ := (HH.out _ r2).out
  have HG : Hid (GF R b c s q w1 k gs cs ns gt ct nt sk tk cn hi) := G
  have g5 := G.c5
  have gk := G.ck
  have gks := G.ks
  have gkt := G.kt
  have d6 : ∀ m, (w1.drewN m).cell? ⟨R, 6, none⟩ = some (.slice (some ⟨gt, 0, none⟩) nt ct) := fun _ => G.c6
  have d1 : ∀ m, (w1.drewN m).cell? ⟨R, 1, none⟩ = some (.int .i64 b) := fun _ => G.c1
  have d2 : ∀ m, (w1.drewN m).cell? ⟨R, 2, none⟩ = some (.int .i64 c) := fun _ => G.c2
  have dk : ∀ m, (w1.drewN m).cell? ⟨gt, k, none⟩ = some (.int .i64 (tk : Int)) := fun _ => G.tk
  clear G
  rcases hcase with ⟨h1, rfl⟩ | ⟨h1, h2, rfl⟩ | ⟨h1, h2, h3, rfl⟩
  · have z1 : 3 ≤ (sk : Int) := by omega
    go_wp2_with (first
      | (go_at_call 22; refine HG.out.at_.mono ?_; rintro e w'' ⟨rfl, hw⟩; subst w'')
      | go_in)
    go_ret
    exact ⟨rfl, r2⟩
  · have z1 : ¬ 3 ≤ (sk : Int) := by omega
    go_wp2_with (first
      | (go_at_call 22; refine HG.out.at_.mono ?_; rintro e w'' ⟨rfl, hw⟩; subst w'')
      | (go_at_call 34; refine HG.out.has.mono ?_; rintro e w'' ⟨rfl, hw⟩; subst w'')
      | go_in)
    go_ret
    exact ⟨rfl, r2⟩
  · have z1 : ¬ 3 ≤ (sk : Int) := by omega
    have z2 : ¬ 0 ≤ hi := by omega
    by_cases h4 : (cn : Int) = c
    · have z3 : ((cn : Int) == c) = true := beq_iff_eq.2 h4
      clear h3 h4 h1 h2
      go_wp2_with (first
        | (go_at_call 22; refine HG.out.at_.mono ?_; rintro e w'' ⟨rfl, hw⟩; subst w'')
        | (go_at_call 34; refine HG.out.has.mono ?_; rintro e w'' ⟨rfl, hw⟩; subst w'')
        | go_in)
      go_quiet (first | (go_at_call 35; refine Calls.quiet_of_same (HG.out.many _)))
      go_wp2
      go_ret
      exact ⟨rfl, HQ.out _ _ r2⟩
    · have z3 : ((cn : Int) == c) = false := beq_eq_false_iff_ne.2 h4
      have z4 : ((tk : Int) == b) = true := beq_iff_eq.2 (h3.resolve_left h4)
      clear h3 h1 h2
      go_wp2_with (first
        | (go_at_call 22; refine HG.out.at_.mono ?_; rintro e w'' ⟨rfl, hw⟩; subst w'')
        | (go_at_call 34; refine HG.out.has.mono ?_; rintro e w'' ⟨rfl, hw⟩; subst w'')
        | go_in)
      go_quiet (first | (go_at_call 35; refine Calls.quiet_of_same (HG.out.many _)))
      go_wp2
      go_ret
      exact ⟨rfl, HQ.out _ _ r2⟩
end
end
end Go.Proofs.Ytocahjnibdgmoaa
