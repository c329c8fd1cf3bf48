/- The document's book: a beat. -/
import Derived.Test.YtocahjnibdgmoaaLpY
namespace Go.Proofs.Ytocahjnibdgmoaa
open Go.RowKit Go.Shelf Go.Sort

theorem lcs_set (l : List (List UInt8 × Int × Int)) : ∀ (i : Nat) (hi : i < l.length) (t : Int), lcs (l.set i ((l[i]).1, (l[i]).2.1, t)) = (lcs l).set (i * 3 + 2) (.int .i64 t) := by
  induction l with
  | nil => intro i hi; cases hi
  | cons x r ih =>
    intro i hi t
    have e : ∀ (y : List UInt8 × Int × Int) (z : List (List UInt8 × Int × Int)), lcs (y :: z) = encStr y.1 :: .int .i64 y.2.1 :: .int .i64 y.2.2 :: lcs z := fun y z => by unfold lcs; rw [List.flatMap_cons]; rfl
    cases i with
    | zero => simp only [List.set_cons_zero, List.getElem_cons_zero, e]; rfl
    | succ i =>
      simp only [List.set_cons_succ, List.getElem_cons_succ]
      rw [e, e, ih i (by simpa using hi) t, show (i + 1) * 3 + 2 = (i * 3 + 2) + 1 + 1 + 1 from by omega]
      rfl

section
variable {B R : Nat} {a b c nw : Int} {nv sv tv av : Value} {d : Db} {P : List Pj} {I : List Nat} {w : World}
theorem DB.setTill (h : DB B R a b c nv sv tv av d w) (i : Nat) (hi : i < d.A.length) (t : Int) :
    ∃ g cap, av = .slice (some ⟨g, 0, none⟩) d.A.length cap ∧ w.cell? ⟨g, i * 3 + 2, none⟩ = some (.int .i64 (d.A[i]).2.2) ∧ w.frozen? ⟨g, i * 3 + 2, none⟩ = false ∧ DB B R a b c nv sv tv av { d with A := d.A.set i ((d.A[i]).1, (d.A[i]).2.1, t) } (w.setCell ⟨g, i * 3 + 2, none⟩ (.int .i64 t)) ∧ Upd (rid R (rws nv sv tv av d)) (rid R (rws nv sv tv av { d with A := d.A.set i ((d.A[i]).1, (d.A[i]).2.1, t) })) w (w.setCell ⟨g, i * 3 + 2, none⟩ (.int .i64 t)) := by
  obtain ⟨g, cap, hv, _, _, hc⟩ := row_l h.ar i hi
  subst hv
  obtain ⟨f1, f2, f3⟩ := DS.setIn (l1 := [⟨nv, 9, 1, d.N.length, d.N.map encStr⟩, ⟨sv, 3, 1, d.S.length, nsv d.S⟩, ⟨tv, 3, 1, d.T.length, nsv d.T⟩]) (l2 := []) (r := ⟨.slice (some ⟨g, 0, none⟩) d.A.length cap, 52, 3, d.A.length, lcs d.A⟩) h (g := g) (cap := cap) rfl (by show 0 < d.A.length; omega) (i * 3 + 2) (.int .i64 t)
  refine ⟨g, cap, rfl, hc, f1, ?_, f3⟩
  unfold DB rws
  simp only [List.length_set, lcs_set d.A i hi t]
  exact f2

set_option maxHeartbeats 4000000 in
set_option maxRecDepth 100000 in
theorem rBeat_ok {s : ByteArray} {q now nw2 : Int} {P2 : List Pj} {p : Pj} (hc : Calls Try.prog 19 #[.pointer (some ⟨R, 0, none⟩), .int .i64 now, .int .i64 q] w fun e w' => ∃ v, e = .returned (.tuple #[v, .int .i64 0]) ∧ ∃ I', DQ B R a b c nw2 P2 I' w' ∧ Upd I I' w w') (hpo : PO b P2) (hsm : ∀ d, Sim b P2 d → d.A.length ≤ 1000) (hf : fndP P2 s.data.toList = some p) (hh : hasT q p.ts = true) (ht : -9223372036854775808 ≤ now + a ∧ now + a ≤ 9223372036854775807) :
    Calls Try.prog 15 #[.pointer (some ⟨R, 0, none⟩), .string s, .int .i64 q, .int .i64 now] w fun e w' => e = .returned (.int .i64 0) ∧ ∃ I', DQ B R a b c nw2 (setP P2 s.data.toList (beF q (now + a))) I' w' ∧ Upd I I' w w' := by
  obtain ⟨t, et⟩ : ∃ t, t = now + a := ⟨_, rfl⟩
  have et2 : now + a = t := et.symm
  have hwr : IntKind.i64.wrap t = t := by rw [IntKind.wrap_i64]; omega
  rw [et2] at ht ⊢
  have HC : Hid (Calls Try.prog 19 #[.pointer (some ⟨R, 0, none⟩), .int .i64 now, .int .i64 q] w fun e w' => ∃ v, e = .returned (.tuple #[v, .int .i64 0]) ∧ Hid (∃ (i g cap n : Nat), Calls Try.prog 34 #[.pointer (some ⟨R, 0, none⟩), .string s, .int .i64 q] w' (fun e w'' => e = .returned (.int .i64 (i : Int)) ∧ w'' = w') ∧ (i : Int) < (n : Int) ∧ w'.drew.cell? ⟨R, 7, none⟩ = some (.slice (some ⟨g, 0, none⟩) n cap) ∧ w'.drew.cell? ⟨R, 0, none⟩ = some (.int .i64 a) ∧ (∃ u, w'.drew.cell? ⟨g, i * 3 + 2, none⟩ = some (.int .i64 u)) ∧ w'.drew.frozen? ⟨g, i * 3 + 2, none⟩ = false ∧ Hid (∃ I', DQ B R a b c nw2 (setP P2 s.data.toList (beF q t)) I' (w'.drew.setCell ⟨g, i * 3 + 2, none⟩ (.int .i64 t)) ∧ Upd I I' w (w'.drew.setCell ⟨g, i * 3 + 2, none⟩ (.int .i64 t))))) := by
    refine hc.mono ?_
    rintro e w' ⟨v, rfl, I', r1, r2⟩
    refine ⟨v, rfl, ?_⟩
    obtain ⟨nv, sv, tv, av, d, x1, rfl, x3, x4⟩ := r1.ex
    have hA := hsm d x3
    rcases x3.has hpo s.data.toList q with ⟨_, y2⟩ | ⟨i, hi, y1, y2, y3, _⟩
    · rw [y2 p hf] at hh; cases hh
    · have x1d : DB B R a b c nv sv tv av d w'.drew := DS.keep x1 fun _ _ => rfl
      obtain ⟨g, cap, hv, z1, z2, z3, z4⟩ := x1d.setTill i hi t
      have hHas := Has_any x1 (by omega) s q
      rw [y1] at hHas
      subst hv
      obtain ⟨k, hk, k1, k2, k3, k4⟩ := x3.idx hf
      have hsim := x3.beat hpo hf hk k1 k3 k4 hi q t y2 y3 d.now
      rw [y2, y3] at z3 z4
      exact ⟨i, g, cap, d.A.length, hHas, by omega, x1d.c7, x1d.c0, ⟨_, z1⟩, z2, _, ⟨nv, sv, tv, _, _, z3, rfl, hsim, x4⟩, (⟨r2.os, r2.tape, r2.output, r2.size, r2.block, r2.new⟩ : Upd I _ w w'.drew).trans z4⟩
  clear hc hpo hsm hf hh ht et
  go_enter Try.func15, Try.ntmps15
  go_wp2_with (first
    | (go_at_call 19; refine HC.out.mono ?_; rintro e w1 ⟨v, rfl, R2⟩; obtain ⟨i, g, cap, n, m1, m2, m3, m4, ⟨u, m5⟩, m6, m7⟩ := R2.out; have HH : Hid (Calls Try.prog 34 #[.pointer (some ⟨R, 0, none⟩), .string s, .int .i64 q] w1 (fun e w'' => e = .returned (.int .i64 (i : Int)) ∧ w'' = w1)) := m1; clear m1 R2)
    | (go_at_call 34; refine HH.out.mono ?_; rintro e w'' ⟨rfl, hw⟩; subst w'')
    | go_in)
  go_region
  all_goals
    go_wp2
    go_ret
    exact ⟨rfl, m7.out⟩

theorem DQ.beat (h : DQ B R a b c nw P I w) (hp : PI a b c nw P) (s : ByteArray) (q now : Int) :
    Calls Try.prog 15 #[.pointer (some ⟨R, 0, none⟩), .string s, .int .i64 q, .int .i64 now] w fun e w' => e = .returned (.int .i64 (leE nw P s.data.toList q now)) ∧ ∃ I', DQ B R a b c (tellN nw now (nobody q)) (beP a nw P s.data.toList q now) I' w' ∧ Upd I I' w w' := by
  have hT := h.timeW hp now q
  have hp2 := hp.tell now (nobody q)
  by_cases he : tellE nw now (nobody q) = 0
  · rw [he] at hT
    by_cases hz : ∃ p, fndP (tellP nw now (nobody q) P) s.data.toList = some p ∧ hasT q p.ts = true
    · obtain ⟨p, hz1, hz2⟩ := hz
      have e1 : leE nw P s.data.toList q now = 0 := by unfold leE; rw [if_neg (by simpa using he), hz1]; show (if hasT q p.ts = true then (0 : Int) else 5) = 0; rw [if_pos hz2]
      have e2 : beP a nw P s.data.toList q now = setP (tellP nw now (nobody q) P) s.data.toList (beF q (now + a)) := by unfold beP; rw [if_pos e1]
      rw [e1, e2]
      obtain ⟨z1, z2, _, _⟩ := tell_facts he
      exact rBeat_ok hT hp2.po (fun d hs => (hs.small hp2).1) hz1 hz2 (by have := hp.ta; omega)
    · have e1 : leE nw P s.data.toList q now = 5 := by
        unfold leE
        rw [if_neg (by simpa using he)]
        split
        · rfl
        · rename_i p hp3
          rw [if_neg fun e => hz ⟨p, hp3, e⟩]
      have e2 : beP a nw P s.data.toList q now = tellP nw now (nobody q) P := by unfold beP; rw [e1]; rfl
      rw [e1, e2]
      refine rBeat_none hT fun w' hQ => ?_
      obtain ⟨I', r1, _⟩ := hQ
      obtain ⟨nv, sv, tv, av, d, x1, rfl, x3, x4⟩ := r1.ex
      have := Has_any x1 (by have := (x3.small hp2).1; omega) s q
      rcases x3.has hp2.po s.data.toList q with ⟨y1, _⟩ | ⟨i, hi, _, _, _, p, y4, y5⟩
      · rw [y1] at this
        exact this
      · exact absurd ⟨p, y4, y5⟩ hz
  · have e1 : leE nw P s.data.toList q now = tellE nw now (nobody q) := by unfold leE; rw [if_pos he]
    have e2 : beP a nw P s.data.toList q now = tellP nw now (nobody q) P := by unfold beP; rw [e1, if_neg he]
    rw [e1, e2]
    exact rBeat_fail hT he
end
end Go.Proofs.Ytocahjnibdgmoaa
