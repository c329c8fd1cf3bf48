/- The document's book: a lease is granted, whole. -/
import Derived.Test.YtocahjnibdgmoaaLpG
namespace Go.Proofs.Ytocahjnibdgmoaa
open Go.RowKit Go.Shelf Go.Sort
attribute [local go_sem ↓] appS_eq

/-- What a grant does, from a world on. -/
structure GW (R : Nat) (a : Int) (s : ByteArray) (q t : Int) (k gs gt tk1 : Nat) (ct nt : Nat) (tk : Nat) (Fin : World → Prop) (X0 : World) : Prop where
  f0 : X0.frozen? ⟨gs, k, none⟩ = false
  c6 : (X0.setCell ⟨gs, k, none⟩ (.int .i64 2)).cell? ⟨R, 6, none⟩ = some (.slice (some ⟨gt, 0, none⟩) nt ct)
  ck : (X0.setCell ⟨gs, k, none⟩ (.int .i64 2)).cell? ⟨gt, k, none⟩ = some (.int .i64 (tk : Int))
  f1 : (X0.setCell ⟨gs, k, none⟩ (.int .i64 2)).frozen? ⟨gt, k, none⟩ = false
  c0 : ((X0.setCell ⟨gs, k, none⟩ (.int .i64 2)).setCell ⟨gt, k, none⟩ (.int .i64 (tk1 : Int))).drew.cell? ⟨R, 0, none⟩ = some (.int .i64 a)
  ap : ∃ aA nA cA g' n' cap' w', ((X0.setCell ⟨gs, k, none⟩ (.int .i64 2)).setCell ⟨gt, k, none⟩ (.int .i64 (tk1 : Int))).drew.cell? ⟨R, 7, none⟩ = some (.slice aA nA cA) ∧ ((((X0.setCell ⟨gs, k, none⟩ (.int .i64 2)).setCell ⟨gt, k, none⟩ (.int .i64 (tk1 : Int))).alloc (.cells #[.string s, .int .i64 q, .int .i64 t] 52)).drew).cell? ⟨R, 7, none⟩ = some (.slice aA nA cA) ∧ (appS #[34, 34] 34 #[.slice aA nA cA, .slice (some ⟨((X0.setCell ⟨gs, k, none⟩ (.int .i64 2)).setCell ⟨gt, k, none⟩ (.int .i64 (tk1 : Int))).heap.size, 0, none⟩) 1 1]).run Try.prog ((((X0.setCell ⟨gs, k, none⟩ (.int .i64 2)).setCell ⟨gt, k, none⟩ (.int .i64 (tk1 : Int))).alloc (.cells #[.string s, .int .i64 q, .int .i64 t] 52)).drew) = .ok (.slice (some ⟨g', 0, none⟩) n' cap') w' ∧ (∃ u, w'.cell? ⟨R, 7, none⟩ = some u) ∧ w'.frozen? ⟨R, 7, none⟩ = false ∧ Hid (Fin (w'.setCell ⟨R, 7, none⟩ (.slice (some ⟨g', 0, none⟩) n' cap')))

section
variable {B R : Nat} {a b c nw : Int} {nv sv tv av : Value} {d : Db} {P : List Pj} {I : List Nat} {w : World}
set_option maxHeartbeats 8000000 in
set_option maxRecDepth 100000 in
theorem rGrant_ok {s : ByteArray} {q now : Int} {Fin : World → Prop} (ht : -9223372036854775808 ≤ now + a ∧ now + a ≤ 9223372036854775807)
    (hc : Calls Try.prog 19 #[.pointer (some ⟨R, 0, none⟩), .int .i64 now, .int .i64 q] w fun e w' => ∃ v, e = .returned (.tuple #[v, .int .i64 0]) ∧ ∃ k gs cs ns gt ct nt sk tk tk1 cn hi, GF R b c s q w' k gs cs ns gt ct nt sk tk cn hi ∧ (sk < 3 ∧ hi < 0 ∧ (cn : Int) ≠ c ∧ (tk : Int) ≠ b ∧ tk1 = tk + 1 ∧ tk ≤ 1000) ∧ ∀ m, GW R a s q (now + a) k gs gt tk1 ct nt tk Fin (w'.drewN m)) :
    Calls Try.prog 13 #[.pointer (some ⟨R, 0, none⟩), .string s, .int .i64 q, .int .i64 now] w fun e w' => e = .returned (.int .i64 0) ∧ Fin w' := by
  obtain ⟨t, et⟩ : ∃ t, t = now + a := ⟨_, rfl⟩
  have et2 : now + a = t := et.symm
  have hwr : IntKind.i64.wrap t = t := by rw [IntKind.wrap_i64]; omega
  rw [et2] at hc
  have HC : Hid (Calls Try.prog 19 #[.pointer (some ⟨R, 0, none⟩), .int .i64 now, .int .i64 q] w fun e w' => ∃ v, e = .returned (.tuple #[v, .int .i64 0]) ∧ Hid (∃ k gs cs ns gt ct nt sk tk tk1 cn hi, GF R b c s q w' k gs cs ns gt ct nt sk tk cn hi ∧ (sk < 3 ∧ hi < 0 ∧ (cn : Int) ≠ c ∧ (tk : Int) ≠ b ∧ tk1 = tk + 1 ∧ tk ≤ 1000) ∧ ∀ m, GW R a s q t k gs gt tk1 ct nt tk Fin (w'.drewN m))) := hc
  refine Calls.mono (R := fun e w' => e = .returned (.int .i64 0) ∧ Hid (Fin w')) ?_ fun e w' h => ⟨h.1, h.2.out⟩
  clear hc ht et
  go_enter Try.func13, Try.ntmps13
  go_wp2_with fail
  refine HC.out.mono ?_
  rintro e w1 ⟨v, rfl, r2⟩
  obtain ⟨k, gs, cs, ns, gt, ct, nt, sk, tk, tk1, cn, hi, G, ⟨h1, h2, h3, h4, h5, h6⟩, hW⟩ := r2.out
  have HG : Hid (GF R b c s q w1 k gs cs ns gt ct nt sk tk cn hi) := G
  have HW : Hid (∀ m, GW R a s q t k gs gt tk1 ct nt tk Fin (w1.drewN m)) := hW
  have g5 := G.c5
  have gk := G.ck
  have gks := G.ks
  have gkt := G.kt
  have d6 : ∀ m, (w1.drewN m).cell? ⟨R, 6, none⟩ = some (.slice (some ⟨gt, 0, none⟩) nt ct) := fun _ => G.c6
  have d1 : ∀ m, (w1.drewN m).cell? ⟨R, 1, none⟩ = some (.int .i64 b) := fun _ => G.c1
  have d2 : ∀ m, (w1.drewN m).cell? ⟨R, 2, none⟩ = some (.int .i64 c) := fun _ => G.c2
  have dk : ∀ m, (w1.drewN m).cell? ⟨gt, k, none⟩ = some (.int .i64 (tk : Int)) := fun _ => G.tk
  have z1 : ¬ 3 ≤ (sk : Int) := by omega
  have z2 : ¬ 0 ≤ hi := by omega
  have z3 : ((cn : Int) == c) = false := beq_eq_false_iff_ne.2 h3
  have z4 : ((tk : Int) == b) = false := beq_eq_false_iff_ne.2 h4
  have e1 : (tk : Int) + 1 = (tk1 : Int) := by omega
  have e2 : IntKind.i64.wrap (tk1 : Int) = (tk1 : Int) := by rw [IntKind.wrap_i64]; omega
  clear G hW h1 h2 h5 h6 r2 HC h3 h4
  go_wp2_with (first
    | (go_at_call 22; refine HG.out.at_.mono ?_; rintro e w'' ⟨rfl, hw⟩; subst w'')
    | (go_at_call 34; refine HG.out.has.mono ?_; rintro e w'' ⟨rfl, hw⟩; subst w'')
    | go_in)
  go_quiet (first | (go_at_call 35; refine Calls.quiet_of_same (HG.out.many _)))
  have x5 : (w1.drewN nq).cell? ⟨R, 5, none⟩ = some (.slice (some ⟨gs, 0, none⟩) ns cs) := g5
  have xk : (w1.drewN nq).cell? ⟨gs, k, none⟩ = some (.int .i64 (sk : Int)) := gk
  obtain ⟨y1, y2, y3, y4, y5, aA, nA, cA, g', n', cap', w', y6, y6b, y7, ⟨u7, y8⟩, y9, y10⟩ := HW.out nq
  clear HW d6 d1 d2 dk g5 gk HG
  go_wp2
  clear x5 xk y1 y2 y3 y4
  generalize (((w1.drewN nq).setCell ⟨gs, k, none⟩ (.int .i64 2)).setCell ⟨gt, k, none⟩ (.int .i64 (tk1 : Int))) = X2 at *
  go_region
  all_goals
    go_wp2
    go_ret
    exact ⟨rfl, y10⟩

theorem lst_rg (dn : Bool) (n tr b : Int) : lst dn n tr b = 1 ∨ lst dn n tr b = 2 ∨ lst dn n tr b = 3 ∨ lst dn n tr b = 4 := by
  unfold lst
  split
  · simp
  · split
    · simp
    · split <;> simp
/-- What a grant sees, of a book that tells the same. -/
theorem DB.gf (h : DB B R a b c nv sv tv av d w) (hs : Sim b P d) (ho : PO b P) (hA : d.A.length ≤ 1000) (hN : d.N.length ≤ 200) {s : ByteArray} {p : Pj} (hf : fndP P s.data.toList = some p) (q : Int) :
    ∃ k, ∃ hk : k < d.N.length, d.N[k] = s.data.toList ∧ (d.S.getD k 0 : Int) = lst p.dn p.ts.length p.tr b ∧ d.T.getD k 0 = p.tr ∧ ∃ gs cs gt ct hi, sv = .slice (some ⟨gs, 0, none⟩) d.S.length cs ∧ tv = .slice (some ⟨gt, 0, none⟩) d.T.length ct ∧ GF R b c s q w k gs cs d.S.length gt ct d.T.length (d.S.getD k 0) p.tr p.ts.length hi ∧ ((hi < 0 ∧ hasT q p.ts = false) ∨ (0 ≤ hi ∧ hasT q p.ts = true)) := by
  obtain ⟨k, hk, k1, k2, k3, k4⟩ := hs.idx hf
  have hkS : k < d.S.length := by rw [hs.sl]; exact hk
  have hkT : k < d.T.length := by rw [hs.tl]; exact hk
  obtain ⟨gs, cs, e1, e2⟩ := row_i h.sr k hkS
  obtain ⟨gt, ct, e3, e4⟩ := row_i h.tr k hkT
  have hSk : d.S.getD k 0 = d.S[k] := by simp [List.getD, List.getElem?_eq_getElem hkS]
  have hTk : d.T.getD k 0 = d.T[k] := by simp [List.getD, List.getElem?_eq_getElem hkT]
  have hAt := At_any h (by omega) s
  rw [k2] at hAt
  have hMany : ∀ m, Calls Try.prog 35 #[.pointer (some ⟨R, 0, none⟩), .string s] (w.drewN m) fun e w'' => e = .returned (.int .i64 (p.ts.length : Int)) ∧ w'' = w.drewN m := fun m => by
    have := Many_any (w := w.drewN m) (DS.keep h fun _ _ => rfl) (by omega) s
    rw [(cnt_perm hs.perm s.data.toList).trans (cnt_eq P _ p ho.ne hf)] at this
    exact this
  have hHas := Has_any h (by omega) s q
  have hw : ∀ hi, fidx (isL s.data.toList q) d.A = hi → GF R b c s q w k gs cs d.S.length gt ct d.T.length (d.S.getD k 0) p.tr p.ts.length hi := fun hi he => by
    rw [he] at hHas
    exact ⟨hAt, hHas, hMany, by rw [h.c5, e1], by rw [h.c6, e3], h.c1, h.c2, by rw [hSk]; exact e2, by rw [← k4, hTk]; exact e4, by omega, by omega⟩
  refine ⟨k, hk, k1, k3, k4, gs, cs, gt, ct, ?_⟩
  rcases hs.has ho s.data.toList q with ⟨y1, y2⟩ | ⟨i, hi, y1, y2, y3, p2, y4, y5⟩
  · exact ⟨-1, e1, e3, hw _ y1, .inl ⟨by decide, y2 p hf⟩⟩
  · rw [hf] at y4
    injection y4 with y4
    subst y4
    exact ⟨i, e1, e3, hw _ y1, .inr ⟨by omega, y5⟩⟩

set_option maxRecDepth 100000 in
theorem DQ.grant (h : DQ B R a b c nw P I w) (hp : PI a b c nw P) (s : ByteArray) (q now : Int) :
    Calls Try.prog 13 #[.pointer (some ⟨R, 0, none⟩), .string s, .int .i64 q, .int .i64 now] w fun e w' => e = .returned (.int .i64 (grE b c nw P s.data.toList q now)) ∧ ∃ I', DQ B R a b c (tellN nw now (nobody q)) (grP a b c nw P s.data.toList q now) I' w' ∧ Upd I I' w w' := by
  have hT := h.timeW hp now q
  have hp2 := hp.tell now (nobody q)
  by_cases he : tellE nw now (nobody q) = 0
  · rw [he] at hT
    cases hf : fndP (tellP nw now (nobody q) P) s.data.toList with
    | none =>
      have e1 : grE b c nw P s.data.toList q now = 5 := by unfold grE; rw [if_neg (by simpa using he), hf]
      have e2 : grP a b c nw P s.data.toList q now = tellP nw now (nobody q) P := by unfold grP; rw [e1]; rfl
      rw [e1, e2]
      refine rGrant_none hT fun w' hQ => ?_
      obtain ⟨I', r1, _⟩ := hQ
      obtain ⟨nv, sv, tv, av, d, x1, rfl, x3, x4⟩ := r1.ex
      have := At_any x1 (by have := (x3.small hp2).2; omega) s
      rw [x3.noidx hf] at this
      exact this
    | some p =>
      have e1 : grE b c nw P s.data.toList q now = refP b c q p := by unfold grE; rw [if_neg (by simpa using he), hf]
      have hok := hp2.each p (fnd_mem hf).1
      rw [e1]
      by_cases hr : refP b c q p = 0
      · have e2 : grP a b c nw P s.data.toList q now = setP (tellP nw now (nobody q) P) s.data.toList (grF q (now + a)) := by unfold grP; rw [e1, if_pos hr]
        rw [hr, e2]
        obtain ⟨r1, r2, r3, r4⟩ := refP_zero hr
        obtain ⟨z1, z2, _, _⟩ := tell_facts he
        refine rGrant_ok (a := a) (b := b) (c := c) (by have := hp.ta; omega) (hT.mono ?_)
        rintro e w' ⟨v, rfl, I', q1, q2⟩
        refine ⟨v, rfl, ?_⟩
        obtain ⟨nv, sv, tv, av, d, x1, rfl, x3, x4⟩ := q1.ex
        obtain ⟨hA, hN⟩ := x3.small hp2
        obtain ⟨k, hk, k1, k2, k3, gs, cs, gt, ct, hi, rfl, rfl, G, hhi⟩ := x1.gf x3 hp2.po hA hN hf q
        have hi0 : hi < 0 := by
          rcases hhi with ⟨h1, _⟩ | ⟨_, h2⟩
          · exact h1
          · rw [r2] at h2; cases h2
        have hlst : lst p.dn p.ts.length p.tr b < 3 := by
          unfold lst
          rw [if_neg (by rw [r1]; decide)]
          split
          · decide
          · rw [if_neg (by omega)]; decide
        refine ⟨k, gs, cs, d.S.length, gt, ct, d.T.length, d.S.getD k 0, p.tr, p.tr + 1, p.ts.length, hi, G, ⟨by omega, hi0, by omega, by omega, rfl, by have := hok.tr; have := hp.tb; omega⟩, fun m => ?_⟩
        have x1m : DB B R a b c nv (.slice (some ⟨gs, 0, none⟩) d.S.length cs) (.slice (some ⟨gt, 0, none⟩) d.T.length ct) av d (w'.drewN m) := DS.keep x1 fun _ _ => rfl
        have hkS : k < d.S.length := by rw [x3.sl]; exact hk
        have hkT : k < d.T.length := by rw [x3.tl]; exact hk
        obtain ⟨gs', cs', hsv, s1, s2, s3, s4⟩ := x1m.setS k 2 hkS
        cases hsv
        obtain ⟨gt', ct', htv, t1, t2, t3, t4⟩ := s3.setT k (p.tr + 1) hkT
        cases htv
        have t3d : DB B R a b c nv (.slice (some ⟨gs, 0, none⟩) d.S.length cs) (.slice (some ⟨gt, 0, none⟩) d.T.length ct) av { d with S := d.S.set k 2, T := d.T.set k (p.tr + 1) } ((((w'.drewN m).setCell ⟨gs, k, none⟩ (.int .i64 2)).setCell ⟨gt, k, none⟩ (.int .i64 ((p.tr + 1 : Nat) : Int)))).drew := DS.keep t3 fun _ _ => rfl
        obtain ⟨g', cap', w3, a1, a2, a3, a4, a5⟩ := t3.appA hA s q (now + a)
        have hTk : d.T.getD k 0 = d.T[k] := by simp [List.getD, List.getElem?_eq_getElem hkT]
        obtain ⟨aA, cA, hav⟩ := t3.ar.shape
        have hRl : R < ((((w'.drewN m).setCell ⟨gs, k, none⟩ (.int .i64 2)).setCell ⟨gt, k, none⟩ (.int .i64 ((p.tr + 1 : Nat) : Int)))).heap.size := (DS.lt t3 R List.mem_cons_self).2
        refine ⟨s2, s3.c6, by rw [← k3, hTk]; exact t1, t2, t3d.c0, aA, d.A.length, cA, g', d.A.length + 1, cap', w3, by rw [t3d.c7, hav], ?_, by rw [hav] at a1; exact a1, a2, a3, ?_⟩
        · refine (World.cell?_of_block (w := ((((w'.drewN m).setCell ⟨gs, k, none⟩ (.int .i64 2)).setCell ⟨gt, k, none⟩ (.int .i64 ((p.tr + 1 : Nat) : Int))))) (Below.heap_alloc _ _ R hRl)).trans ?_
          have := t3.c7
          rw [hav] at this
          exact this
        · have hsim := x3.grant hp2.po hf hk k1 q (now + a) r2 r1 d.now
          refine ⟨_, ⟨nv, _, _, _, _, a4, rfl, hsim, x4⟩, ((⟨q2.os, q2.tape, q2.output, q2.size, q2.block, q2.new⟩ : Upd I _ w (w'.drewN m)).trans s4).trans (t4.trans a5)⟩
      · have e2 : grP a b c nw P s.data.toList q now = tellP nw now (nobody q) P := by unfold grP; rw [e1, if_neg hr]
        rw [e2]
        refine rGrant_no (b := b) (c := c) hT (fun w' m hQ => ?_) fun w' hQ => ?_
        · obtain ⟨I', r1, r2⟩ := hQ
          exact ⟨I', r1.keep fun _ _ => rfl, r2.os, r2.tape, r2.output, r2.size, r2.block, r2.new⟩
        · obtain ⟨I', q1, q2⟩ := hQ
          obtain ⟨nv, sv, tv, av, d, x1, rfl, x3, x4⟩ := q1.ex
          obtain ⟨hA, hN⟩ := x3.small hp2
          obtain ⟨k, hk, k1, k2, k3, gs, cs, gt, ct, hi, _, _, G, hhi⟩ := x1.gf x3 hp2.po hA hN hf q
          refine ⟨k, gs, cs, d.S.length, gt, ct, d.T.length, d.S.getD k 0, p.tr, p.ts.length, hi, G, ?_⟩
          have hsz := hok.sz
          have htr := hok.tr
          have hlr := lst_rg p.dn p.ts.length p.tr b
          unfold refP at hr ⊢
          generalize lst p.dn (p.ts.length : Int) (p.tr : Int) b = ls at *
          unfold refC at hr ⊢
          by_cases h3 : ls = 3 ∨ ls = 4
          · rw [if_pos h3]
            exact .inl ⟨by omega, rfl⟩
          · rw [if_neg h3] at hr ⊢
            right
            rcases hhi with ⟨y1, y2⟩ | ⟨y1, y2⟩
            · rw [y2, if_neg (by decide)] at hr ⊢
              right
              by_cases h5 : c ≤ (p.ts.length : Int) ∨ b ≤ (p.tr : Int)
              · rw [if_pos h5]
                refine ⟨by omega, y1, ?_, rfl⟩
                rcases h5 with h5 | h5
                · left; omega
                · right; omega
              · rw [if_neg h5] at hr
                exact absurd rfl hr
            · rw [y2, if_pos rfl]
              exact .inl ⟨by omega, y1, rfl⟩
  · have e1 : grE b c nw P s.data.toList q now = tellE nw now (nobody q) := by unfold grE; rw [if_pos he]
    have e2 : grP a b c nw P s.data.toList q now = tellP nw now (nobody q) P := by unfold grP; rw [e1, if_neg he]
    rw [e1, e2]
    exact rGrant_fail hT he
end
end Go.Proofs.Ytocahjnibdgmoaa
