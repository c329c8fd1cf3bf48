/- What stands ahead of a source matters to places alone, plain. -/
import Derived.Test.YtcaeeackccgclaaGreatDoorTb12
namespace Go.Proofs.YtcaeeackccgclaaGreatDoor
open Go.RowKit Go.Shelf

def shT (P : Nat) (t : Tk) : Tk := { t with pos := t.pos + P }
def shS (P : Nat) (p : Sp) : Sp := { p with pos := p.pos + P, toks := p.toks.map (shT P) }
def shE (P : Nat) : Except Ft Sp → Except Ft Sp
  | .error x => .error (x.1, x.2 + P)
  | .ok q => .ok (shS P q)

theorem drop_sh (pre L : List UInt8) (x : Nat) : (pre ++ L).drop (x + pre.length) = L.drop x := by
  rw [Nat.add_comm, ← List.drop_drop, List.drop_left]

theorem skp_fuel (o : Nat) : ∀ (f f' : Nat) (r : List UInt8), r.length ≤ f → r.length ≤ f' → skp o f r = skp o f' r := by
  intro f
  induction f with
  | zero =>
    intro f' r h h'
    have h0 : r = [] := List.length_eq_zero_iff.1 (by omega)
    subst h0
    cases f' with
    | zero => rfl
    | succ f' => rfl
  | succ f ih =>
    intro f' r h h'
    cases f' with
    | zero =>
      have h0 : r = [] := List.length_eq_zero_iff.1 (by omega)
      subst h0
      rfl
    | succ f' =>
      show (bif decide (((r.drop (rch (isBl o) r)).getD 0 0).toNat = 35) then _ else _) = (bif decide (((r.drop (rch (isBl o) r)).getD 0 0).toNat = 35) then _ else _)
      cases hc : decide (((r.drop (rch (isBl o) r)).getD 0 0).toNat = 35) with
      | false => rfl
      | true =>
        simp only [cond_true]
        have hc' : ((r.drop (rch (isBl o) r)).getD 0 0).toNat = 35 := by simpa using hc
        have hlen : 0 < (r.drop (rch (isBl o) r)).length := by
          rcases Nat.eq_zero_or_pos (r.drop (rch (isBl o) r)).length with e | e
          · rw [List.length_eq_zero_iff.1 e] at hc'; simp at hc'
          · exact e
        have h1 : 0 < rch isNl (r.drop (rch (isBl o) r)) := by
          refine rch_pos hlen ?_
          unfold isNl
          rw [hc']; decide
        rw [List.length_drop] at hlen
        rw [ih f' (r.drop (rch (isBl o) r + rch isNl (r.drop (rch (isBl o) r)))) (by rw [List.length_drop]; omega) (by rw [List.length_drop]; omega)]

theorem top_sh (P : Nat) (p : Sp) : (shS P p).top = p.top := rfl
theorem add_sh (P k : Nat) (p : Sp) : (shS P p).add k = shS P (p.add k) := by
  unfold shS Sp.add
  simp [shT]
theorem outF_sh (P i : Nat) : ∀ (f : Nat) (p : Sp), outF i f (shS P p) = shS P (outF i f p) := by
  intro f
  induction f with
  | zero => intro p; rfl
  | succ f ih =>
    intro p
    by_cases hi : i < p.top
    · rw [outF_step i f (shS P p) hi, outF_step i f p hi, ← ih]
      congr 1
      exact add_sh P 8 { p with ins := p.ins.drop 1 }
    · rw [outF_stop i _ (shS P p) hi, outF_stop i _ p hi]
theorem come_sh (P i : Nat) (p : Sp) : (shS P p).come i = shS P (p.come i) := by
  show outF i _ _ = shS P (outF i _ _)
  by_cases ht : p.top < i
  · rw [if_pos ht, if_pos (show (shS P p).top < i from ht)]
    have e : ({ shS P p with ins := i :: (shS P p).ins } : Sp).add 7 = shS P (({ p with ins := i :: p.ins } : Sp).add 7) := add_sh P 7 { p with ins := i :: p.ins }
    rw [e, outF_sh]
    rfl
  · rw [if_neg ht, if_neg (show ¬ (shS P p).top < i from ht)]
    exact outF_sh P i _ p

theorem txt_sh (P : Nat) : ∀ (f : Nat) (r said : List UInt8) (x : Nat), txt f r said (x + P) = (match txt f r said x with | .error y => .error (y + P) | .ok (t, y) => .ok (t, y + P)) := by
  intro f
  induction f with
  | zero => intro r said x; rfl
  | succ f ih =>
    intro r said x
    unfold txt
    simp only
    have e1 : x + P + 1 = x + 1 + P := by omega
    have e2 : x + P + 2 = x + 2 + P := by omega
    split
    · rfl
    split
    · simp only [e1]
    split
    · split
      · simp only [e1]
      split
      · rw [e2, ih]
      split
      · rw [e2, ih]
      split
      · rw [e2, ih]
      · simp only [e1]
    split
    · rfl
    · rw [show x + P + rch isPl r = x + rch isPl r + P from by omega, ih]

section
variable {pre L : List UInt8}
theorem refu_sh (p : Sp) (i : Nat) : refu (pre ++ L) (shS pre.length p) i = refu L p i := by
  have e : (pre ++ L).drop (shS pre.length p).pos = L.drop p.pos := drop_sh pre L p.pos
  unfold refu
  rw [e]
  rfl
theorem tok1_sh (p : Sp) : tok1 (pre ++ L) (shS pre.length p) = shE pre.length (tok1 L p) := by
  have e : (pre ++ L).drop (shS pre.length p).pos = L.drop p.pos := drop_sh pre L p.pos
  unfold tok1
  rw [e]
  simp only
  split
  · rw [show (shS pre.length p).pos + 1 = p.pos + 1 + pre.length from by show p.pos + pre.length + 1 = _; omega, txt_sh]
    cases txt ((L.drop p.pos).length + 1) ((L.drop p.pos).drop 1) [] (p.pos + 1) with
    | error x => rfl
    | ok y =>
      obtain ⟨t, y⟩ := y
      simp [shE, shS, shT]
  split
  · simp [shE, shS, shT]; omega
  split
  · simp [shE, shS, shT]; omega
  · simp [shE, shS, shT]; omega
theorem skip_sh (p : Sp) (hp : p.pos ≤ L.length) : (shS pre.length p).skip (pre ++ L) = shS pre.length (p.skip L) := by
  have e : (pre ++ L).drop (shS pre.length p).pos = L.drop p.pos := drop_sh pre L p.pos
  unfold Sp.skip
  rw [e, skp_fuel (shS pre.length p).opn (pre ++ L).length L.length (L.drop p.pos) (by rw [List.length_drop, List.length_append]; omega) (by rw [List.length_drop]; omega)]
  show ({ shS pre.length p with pos := p.pos + pre.length + skp p.opn L.length (L.drop p.pos) } : Sp) = _
  unfold shS
  simp
  omega
theorem endL_sh (p : Sp) : endL (pre ++ L) (shS pre.length p) = endL L p := by
  have e : (pre ++ L).drop (shS pre.length p).pos = L.drop p.pos := drop_sh pre L p.pos
  unfold endL
  rw [e]
  congr 1
  rw [List.length_append]
  show decide (p.pos + pre.length = pre.length + L.length) = _
  rw [decide_eq_decide]
  omega
theorem toksF_sh : ∀ (f f' i : Nat) (p : Sp), SpOk L p 1 → L.length - p.pos < f → L.length - p.pos < f' → toksF (pre ++ L) f' i (shS pre.length p) = shE pre.length (toksF L f i p) := by
  intro f
  induction f with
  | zero => intro f' i p _ h; omega
  | succ f ih =>
    intro f' i p hk h h'
    cases f' with
    | zero => omega
    | succ f' =>
      unfold toksF
      rw [endL_sh, refu_sh]
      split
      · rfl
      rename_i he
      have hp : p.pos < L.length := by
        have := hk.pos
        rcases Nat.lt_or_ge p.pos L.length with h1 | h1
        · exact h1
        · exfalso; apply he; unfold endL
          rw [show decide (p.pos = L.length) = true from by simp; omega]; rfl
      split
      · rfl
      rename_i hr
      have hr0 : refu L p i = 0 := by
        rcases Nat.eq_zero_or_pos (refu L p i) with e | e
        · exact e
        · exact absurd (by omega) hr
      rw [come_sh, tok1_sh]
      cases ht : tok1 L (p.come i) with
      | error x => rfl
      | ok q =>
        simp only [shE]
        obtain ⟨a, b⟩ := turn_ok hk hp hr0 ht
        have hqp : q.pos ≤ L.length := by
          obtain ⟨r1, r2, r3, r4, r5⟩ := refu_zero hr0
          obtain ⟨c1, c2, _⟩ := come_ok hk.ins i
          exact (tok1_ok ht (by rw [c1]; exact hp) (by rw [c1]; exact r1) (by rw [c1, c2]; intro ho; have := r4 ho; have := hk.o30; omega) (by rw [c2]; exact hk.o30)).2.1
        rw [skip_sh q hqp]
        exact ih f' _ (q.skip L) a (by omega) (by omega)
theorem lineF_sh (p : Sp) (hk : SpOk L p 1) : lineF (pre ++ L) (shS pre.length p) = shE pre.length (lineF L p) := by
  have e : (pre ++ L).drop (shS pre.length p).pos = L.drop p.pos := drop_sh pre L p.pos
  have hsk := skip_ok (L := L) hk.pos
  have hk1 : SpOk L (p.skip L) 1 := ⟨hsk.2, hk.ins.of rfl, hk.i31, hk.o30, by show p.toks.length + p.ins.length ≤ 4 * (p.skip L).pos + 1; have := hk.cnt; omega⟩
  unfold lineF
  rw [e, skip_sh p hk.pos, skp_fuel (shS pre.length p).opn (pre ++ L).length L.length (L.drop p.pos) (by rw [List.length_drop, List.length_append]; omega) (by rw [List.length_drop]; omega),
    toksF_sh (L.length + 1) ((pre ++ L).length + 1) _ (p.skip L) hk1 (by omega) (by rw [List.length_append]; omega)]
  show (match shE pre.length (toksF L (L.length + 1) (skp p.opn L.length (L.drop p.pos)) (p.skip L)) with | .error x => _ | .ok q => _) = _
  cases toksF L (L.length + 1) (skp p.opn L.length (L.drop p.pos)) (p.skip L) with
  | error x => rfl
  | ok q =>
    simp only [shE]
    have e1 : (shS pre.length q).opn = q.opn := rfl
    have e2 : (shS pre.length q).toks.length = q.toks.length := by unfold shS; simp
    have e3 : (shS pre.length p).toks.length = p.toks.length := by unfold shS; simp
    rw [e1, e2, e3]
    split
    · rfl
    · split
      · rw [add_sh]
      · rfl
theorem linesF_sh : ∀ (f f' : Nat) (p : Sp), SpOk L p 1 → L.length - p.pos < f → L.length - p.pos < f' → linesF (pre ++ L) f' (shS pre.length p) = shE pre.length (linesF L f p) := by
  intro f
  induction f with
  | zero => intro f' p _ h; omega
  | succ f ih =>
    intro f' p hk h h'
    cases f' with
    | zero => omega
    | succ f' =>
      have hpe : ∀ q : Sp, (shS pre.length q).pos = (pre ++ L).length ↔ q.pos = L.length := fun q => by
        rw [List.length_append]
        show (q.pos + pre.length = pre.length + L.length) ↔ _
        omega
      unfold linesF
      by_cases hp : p.pos = L.length
      · rw [if_pos hp, if_pos ((hpe p).2 hp), come_sh]; rfl
      · rw [if_neg hp, if_neg (fun e => hp ((hpe p).1 e)), lineF_sh p hk]
        cases hl : lineF L p with
        | error x => rfl
        | ok q =>
          simp only [shE]
          obtain ⟨b, c⟩ := lineF_ok hk hl
          by_cases hq0 : q.pos = L.length
          · rw [if_pos hq0, if_pos ((hpe q).2 hq0), come_sh]
          · rw [if_neg hq0, if_neg (fun e => hq0 ((hpe q).1 e))]
            have hb := b.pos
            have hq : ({ shS pre.length q with pos := (shS pre.length q).pos + 1 } : Sp) = shS pre.length { q with pos := q.pos + 1 } := by
              unfold shS
              simp
              omega
            rw [hq]
            exact ih f' { q with pos := q.pos + 1 } ⟨by show q.pos + 1 ≤ _; omega, b.ins.of rfl, b.i31, b.o30, by show q.toks.length + q.ins.length ≤ 4 * (q.pos + 1) + 1; have := b.cnt; omega⟩ (by show L.length - (q.pos + 1) < f; omega) (by show L.length - (q.pos + 1) < f'; omega)
end

/-- What stands ahead: blanks, a line's end, what is left out, a line's end. -/
def ahead1 : List UInt8 := [32, 32, 35, 32, 110, 111, 116, 104, 105, 110, 103]
def ahead (n : Nat) : List UInt8 := List.replicate n 32 ++ (10 :: (ahead1 ++ [10]))
theorem ahead_len (n : Nat) : (ahead n).length = n + 13 := by unfold ahead ahead1; simp

theorem rch_blanks (n : Nat) (r : List UInt8) : rch (isBl 0) (List.replicate n 32 ++ (10 :: r)) = n := by
  induction n with
  | zero => rfl
  | succ n ih =>
    show (bif isBl 0 32 then rch (isBl 0) (List.replicate n 32 ++ (10 :: r)) + 1 else 0) = _
    rw [ih]
    rfl
/-- A line in which nothing stands. -/
theorem line_none (L : List UInt8) (x k : Nat) (hx : skp 0 L.length (L.drop x) = k) (hc : ((L.drop (x + k)).getD 0 0).toNat = 10) : lineF L ⟨x, [], [0], 0⟩ = .ok ⟨x + k, [], [0], 0⟩ := by
  have hs : Sp.skip L ⟨x, [], [0], 0⟩ = ⟨x + k, [], [0], 0⟩ := by
    unfold Sp.skip
    simp only [hx]
  have ht : toksF L (L.length + 1) (skp 0 L.length (L.drop x)) ⟨x + k, [], [0], 0⟩ = .ok ⟨x + k, [], [0], 0⟩ := by
    unfold toksF
    rw [if_pos]
    unfold endL
    simp only [hc]
    simp
  unfold lineF
  rw [hs]
  simp only [ht]
  simp
theorem lines_ahead (n : Nat) (L : List UInt8) (f : Nat) : linesF (ahead n ++ L) (f + 2) ⟨0, [], [0], 0⟩ = linesF (ahead n ++ L) f ⟨n + 13, [], [0], 0⟩ := by
  have hlen : (ahead n ++ L).length = n + 13 + L.length := by rw [List.length_append, ahead_len]
  have d0 : (ahead n ++ L).drop 0 = List.replicate n 32 ++ (10 :: (ahead1 ++ (10 :: L))) := by unfold ahead; simp
  have dn : (ahead n ++ L).drop n = 10 :: (ahead1 ++ (10 :: L)) := by
    have : ahead n ++ L = List.replicate n 32 ++ (10 :: (ahead1 ++ (10 :: L))) := d0
    rw [this]
    have h : (List.replicate n (32 : UInt8)).length = n := List.length_replicate
    conv => lhs; arg 1; rw [← h]
    rw [List.drop_left]
  have dn1 : (ahead n ++ L).drop (n + 1) = ahead1 ++ (10 :: L) := by rw [← List.drop_drop, dn]; rfl
  have dn12 : (ahead n ++ L).drop (n + 1 + 11) = 10 :: L := by rw [← List.drop_drop, dn1]; rfl
  have s0 : skp 0 (ahead n ++ L).length ((ahead n ++ L).drop 0) = n := by
    rw [hlen, d0, show n + 13 + L.length = (n + 12 + L.length) + 1 from by omega]
    show (bif decide ((((List.replicate n 32 ++ (10 :: (ahead1 ++ (10 :: L)))).drop (rch (isBl 0) (List.replicate n 32 ++ (10 :: (ahead1 ++ (10 :: L)))))).getD 0 0).toNat = 35) then _ else rch (isBl 0) (List.replicate n 32 ++ (10 :: (ahead1 ++ (10 :: L))))) = n
    rw [rch_blanks]
    have h : (List.replicate n (32 : UInt8)).length = n := List.length_replicate
    have e : (List.replicate n (32 : UInt8) ++ (10 :: (ahead1 ++ (10 :: L)))).drop n = 10 :: (ahead1 ++ (10 :: L)) := by
      conv => lhs; arg 1; rw [← h]
      rw [List.drop_left]
    rw [e]
    rfl
  have l0 : lineF (ahead n ++ L) ⟨0, [], [0], 0⟩ = .ok ⟨n, [], [0], 0⟩ := by
    have := line_none (ahead n ++ L) 0 n s0 (by rw [Nat.zero_add, dn]; rfl)
    rwa [Nat.zero_add] at this
  have s1 : skp 0 (ahead n ++ L).length ((ahead n ++ L).drop (n + 1)) = 11 := by
    rw [hlen, dn1, show n + 13 + L.length = (n + 11 + L.length) + 1 + 1 from by omega]
    rfl
  have l1 : lineF (ahead n ++ L) ⟨n + 1, [], [0], 0⟩ = .ok ⟨n + 12, [], [0], 0⟩ := line_none (ahead n ++ L) (n + 1) 11 s1 (by rw [dn12]; rfl)
  rw [lines_go (f := f + 2) (by omega) (by show ¬ 0 = _; omega) l0 (by show ¬ n = _; omega)]
  show linesF (ahead n ++ L) (f + 1) ⟨n + 1, [], [0], 0⟩ = _
  rw [lines_go (f := f + 1) (by omega) (by show ¬ n + 1 = _; omega) l1 (by show ¬ n + 12 = _; omega)]
  rfl

theorem splitL_ahead (n : Nat) (L : List UInt8) : splitL (ahead n ++ L) = (match splitL L with | .error x => .error (x.1, x.2 + (n + 13)) | .ok l => .ok (l.map (shT (n + 13)))) := by
  have hlen : (ahead n ++ L).length = n + 13 + L.length := by rw [List.length_append, ahead_len]
  have h := linesF_sh (pre := ahead n) (L := L) (L.length + 1) (n + 12 + L.length) ⟨0, [], [0], 0⟩ ⟨Nat.zero_le _, ⟨by simp, rfl⟩, by decide, by decide, by decide⟩ (by show L.length - 0 < _; omega) (by show L.length - 0 < _; omega)
  have e : shS (ahead n).length ⟨0, [], [0], 0⟩ = ⟨n + 13, [], [0], 0⟩ := by unfold shS; rw [ahead_len]; simp
  rw [e] at h
  unfold splitL
  rw [hlen, show n + 13 + L.length + 1 = (n + 12 + L.length) + 2 from by omega, lines_ahead n L, h]
  cases linesF L (L.length + 1) ⟨0, [], [0], 0⟩ with
  | error x => simp only [shE, ahead_len]
  | ok q => simp only [shE, ahead_len]; rfl
end Go.Proofs.YtcaeeackccgclaaGreatDoor

/- What is parsed does not hang on places, nor on what stands behind it: tokens are taken; two parsers side by side. -/
namespace Go.Proofs.YtcaeeackccgclaaGreatDoor

/-- What takes k tokens at least, where it is no fault. -/
def Mo {α : Type} (k : Nat) (p : Ps) (m : Px α) : Prop := ∀ a q, m = some (.ok (a, q)) → q.toks.length + k ≤ p.toks.length ∧ q.deep = p.deep
section
variable {α β : Type} {k j : Nat} {p : Ps} {m : Px α}
theorem mo_bnd {f : α → Ps → Px β} (h : Mo k p m) (g : ∀ a q, Mo j q (f a q)) : Mo (k + j) p (bnd m f) := fun b r e => by
  rcases bnd_some e with ⟨x, _, hx⟩ | ⟨a, q, h1, h2⟩
  · cases hx
  · have h3 := h a q h1
    have h4 := g a q b r h2
    exact ⟨by omega, h4.2.trans h3.2⟩
theorem mo_le (h : Mo k p m) (hk : j ≤ k) : Mo j p m := fun a q e => by have h2 := h a q e; exact ⟨by omega, h2.2⟩
theorem mo_iff {b : Bool} (h : Mo k p m) : Mo k p (iff b m) := fun a q e => h a q (iff_some e).2
theorem mo_ok (a : α) : Mo 0 p (ok a p) := fun b q e => by cases e; exact ⟨Nat.le_refl _, rfl⟩
theorem mo_gu (c : Nat) : Mo k p (gu p c : Px α) := fun b q e => by cases e
theorem mo_of_tt {J : α → Ps → Prop} (h : Tt k p m J) : Mo k p m := fun a q e => by
  obtain ⟨z, h1, h2⟩ := h
  rw [h1] at e
  exact ⟨(h2 a q (Option.some.inj e)).2.1, (h2 a q (Option.some.inj e)).1.deep⟩
theorem mo_adv {l : List (List UInt8)} (hs : p.sees l = true) (h : Mo k p.adv m) : Mo (k + 1) p m := fun a q e => by
  have h2 := h a q e
  have := (sees_adv hs).2
  exact ⟨by omega, h2.2⟩
end
theorem tkS_mo (x : List UInt8) (p : Ps) : Mo 1 p (tkS x p) := mo_of_tt (tkS_tt x p)
theorem tkK_mo (k : Nat) (p : Ps) (h0 : k ≠ 0) : Mo 1 p (tkK k p) := by
  unfold tkK
  cases hs : p.nx.kind == k with
  | false => exact mo_gu 1
  | true =>
    match hp : p.toks with
    | [] => rw [show p.nx = ⟨0, [], 0, p.fin⟩ by unfold Ps.nx; rw [hp]] at hs; simp at hs; omega
    | t :: r => exact fun b q e => by cases e; exact ⟨by show (p.toks.drop 1).length + 1 ≤ _; rw [hp]; simp, rfl⟩
theorem tkN_mo (l : List (List UInt8)) (p : Ps) : Mo 1 p (tkN l p) := mo_of_tt (tkN_tt l p)
theorem guIf_mo (b : Bool) (c : Nat) (p : Ps) : Mo 0 p (guIf b c p) := mo_of_tt (guIf_tt b c p)
theorem rfD_mo (l : List (List UInt8)) (p : Ps) : Mo 0 p (rfD l p) := guIf_mo _ _ p
theorem inner_mo {m : Ps → Px Ex} {k : Nat} {p : Ps} (h : Mo k p.inn (m p.inn)) : Mo k p (inner m p) := by
  unfold inner
  refine mo_iff fun e r hr => ?_
  rcases bnd_some hr with ⟨x, _, hx⟩ | ⟨a, q, h1, h2⟩
  · cases hx
  · have h3 := h a q h1
    have h4 := (iff_some h2).2
    cases h4
    have h5 : q.deep = p.deep + 1 := h3.2
    exact ⟨h3.1, by show q.deep - 1 = p.deep; omega⟩
theorem lsL_mo {σ : Type} {c : List UInt8} {each : σ → Ps → Px σ} (hE : ∀ s p, Mo 0 p (each s p)) : ∀ (f : Nat) (first : Bool) (s : σ) (p : Ps), Mo 1 p (lsL c each f first s p)
  | 0, _, _, _ => fun _ _ e => by cases e
  | f + 1, first, s, p => by
    unfold lsL
    cases hc : p.sees [c] with
    | true => exact mo_adv (k := 0) hc (mo_ok s)
    | false =>
      have h0 : Mo 0 p (bif first then ok () p else tkS [44] p) := by
        cases first with
        | true => exact mo_ok ()
        | false => exact mo_le (tkS_mo [44] p) (Nat.zero_le _)
      exact mo_le (mo_bnd (k := 0) (j := 1) h0 fun _ q => mo_le (mo_bnd (k := 0) (j := 1) (hE s q) fun s2 r => mo_iff (lsL_mo hE f false s2 r)) (by omega)) (by omega)
theorem jnL_mo {part : Ps → Px Ex} {l : List (List UInt8)} (hP : ∀ p, Mo 0 p (part p)) : ∀ (f : Nat) (e : Ex) (p : Ps), Mo 0 p (jnL part l f e p)
  | 0, _, _ => fun _ _ e => by cases e
  | f + 1, e, p => by
    unfold jnL
    cases hs : p.sees l with
    | false => exact mo_ok e
    | true => exact mo_le (mo_adv (k := 0) hs (mo_le (mo_bnd (k := 0) (j := 0) (hP p.adv) fun x q => mo_iff (jnL_mo hP f _ q)) (Nat.zero_le _))) (Nat.zero_le _)
theorem jn_mo {part : Ps → Px Ex} {l : List (List UInt8)} {k : Nat} (hP : ∀ p, Mo k p (part p)) (p : Ps) : Mo k p (jn part l p) :=
  mo_le (mo_bnd (k := k) (j := 0) (hP p) fun e q => jnL_mo (fun p => mo_le (hP p) (Nat.zero_le _)) _ e q) (by omega)
section
variable {E : Ps → Px Ex}
theorem kdE_mo (hE : ∀ p, Mo 1 p (E p)) (s : Ex) (p : Ps) : Mo 1 p (kdE E s p) := mo_le (mo_bnd (k := 1) (j := 0) (hE p) fun e q => mo_ok _) (by omega)
theorem caE_mo (hE : ∀ p, Mo 1 p (E p)) (s : Ex) (p : Ps) : Mo 1 p (caE E s p) := by
  unfold caE
  refine mo_iff ?_
  cases hs : sSet p with
  | true => exact mo_le (mo_bnd (k := 1) (j := 2) (tkN_mo _ p) fun x q => mo_bnd (k := 1) (j := 1) (tkS_mo _ q) fun _ r => kdE_mo hE _ r) (by omega)
  | false => exact mo_le (mo_bnd (k := 0) (j := 1) (guIf_mo _ _ p) fun _ q => kdE_mo hE s q) (by omega)
theorem eaF_mo (hE : ∀ p, Mo 1 p (E p)) (s : Ex) (p : Ps) : Mo 0 p (eaF E s p) := by
  have hR : ∀ s p, Mo 0 p (eaR s p) := fun s p => mo_le (mo_bnd (k := 0) (j := 0) (guIf_mo _ _ p) fun _ q => mo_ok s) (Nat.zero_le _)
  unfold eaF
  cases hs : p.sees [[105, 102]] with
  | false => exact hR s p
  | true => exact mo_le (mo_adv (k := 0) hs (mo_le (mo_bnd (k := 1) (j := 0) (kdE_mo hE s p.adv) fun s q => hR s q) (Nat.zero_le _))) (Nat.zero_le _)
theorem eaE_mo (hE : ∀ p, Mo 1 p (E p)) (s : Ex) (p : Ps) : Mo 1 p (eaE E s p) :=
  mo_le (mo_bnd (k := 1) (j := 0) (tkK_mo 1 p (by decide)) fun t q => mo_le (mo_bnd (k := 1) (j := 0) (tkS_mo _ q) fun _ r => mo_le (mo_bnd (k := 1) (j := 0) (kdE_mo hE _ r) fun s q => eaF_mo hE s q) (Nat.zero_le _)) (Nat.zero_le _)) (by omega)
theorem liE_mo (hE : ∀ p, Mo 1 p (E p)) (s : Ex) (p : Ps) : Mo 1 p (liE E s p) := by
  unfold liE
  refine mo_iff (mo_le (mo_bnd (k := 1) (j := 0) (kdE_mo hE s p) fun r q => ?_) (by omega))
  cases hs : decide (r.kids.length = 1) && q.sees [[102, 111, 114]] with
  | false => exact mo_ok r
  | true => exact mo_le (mo_adv (k := 1) ((Bool.and_eq_true _ _).mp hs).2 (eaE_mo hE r q.adv)) (Nat.zero_le _)
theorem diE_mo (hE : ∀ p, Mo 1 p (E p)) (s : Ex) (p : Ps) : Mo 1 p (diE E s p) := by
  unfold diE
  exact mo_iff (mo_le (mo_bnd (k := 1) (j := 0) (kdE_mo hE s p) fun r q => mo_le (mo_bnd (k := 1) (j := 1) (tkS_mo _ q) fun _ q2 => kdE_mo hE r q2) (Nat.zero_le _)) (by omega))
theorem sgA_mo (hE : ∀ p, Mo 1 p (E p)) (p : Ps) : Mo 1 p (sgA E p) := by
  unfold sgA
  cases h1 : p.sees [[84, 114, 117, 101]] with
  | true => exact mo_adv (k := 0) h1 (mo_ok _)
  | false =>
  cases h2 : p.sees [[70, 97, 108, 115, 101]] with
  | true => exact mo_adv (k := 0) h2 (mo_ok _)
  | false =>
  cases h3 : p.sees [[78, 111, 110, 101]] with
  | true => exact mo_adv (k := 0) h3 (mo_ok _)
  | false =>
  cases h4 : p.sees [[91]] with
  | true => exact mo_le (mo_adv (k := 1) h4 (lsL_mo (fun s p => mo_le (liE_mo hE s p) (Nat.zero_le _)) _ _ _ _)) (by omega)
  | false =>
  cases h5 : p.sees [[123]] with
  | true => exact mo_le (mo_adv (k := 1) h5 (lsL_mo (fun s p => mo_le (diE_mo hE s p) (Nat.zero_le _)) _ _ _ _)) (by omega)
  | false => exact mo_le (mo_bnd (k := 1) (j := 0) (tkS_mo _ p) fun _ q => mo_le (mo_bnd (k := 1) (j := 0) (hE q) fun e r => mo_le (mo_bnd (k := 1) (j := 0) (tkS_mo _ r) fun _ s => mo_ok e) (Nat.zero_le _)) (Nat.zero_le _)) (by omega)
theorem atm_mo (hE : ∀ p, Mo 1 p (E p)) (p : Ps) : Mo 1 p (atm E p) := by
  have hk : ∀ k, k ≠ 0 → (p.nx.kind == k) = true → p.adv.toks.length + 1 ≤ p.toks.length := fun k hk e => by
    match hp : p.toks with
    | [] => rw [show p.nx = ⟨0, [], 0, p.fin⟩ by unfold Ps.nx; rw [hp]] at e; simp at e; omega
    | t :: r => show (p.toks.drop 1).length + 1 ≤ _; rw [hp]; simp
  unfold atm
  cases h1 : p.nx.kind == 1 with
  | true => exact fun b q e => by cases e; exact ⟨hk 1 (by decide) h1, rfl⟩
  | false =>
  cases h2 : p.nx.kind == 2 with
  | true => exact fun b q e => by cases e; exact ⟨hk 2 (by decide) h2, rfl⟩
  | false =>
  cases h3 : p.nx.kind == 3 with
  | true => exact fun b q e => by cases e; exact ⟨hk 3 (by decide) h3, rfl⟩
  | false => exact sgA_mo hE p
theorem psL_mo (hE : ∀ p, Mo 1 p (E p)) : ∀ (f : Nat) (e : Ex) (p : Ps), Mo 0 p (psL E f e p)
  | 0, _, _ => fun _ _ e => by cases e
  | f + 1, e, p => by
    unfold psL
    cases h1 : p.sees [[40]] with
    | true => exact mo_le (mo_adv (k := 0) h1 (mo_le (mo_bnd (k := 1) (j := 0) (lsL_mo (fun s p => mo_le (caE_mo hE s p) (Nat.zero_le _)) _ _ _ _) fun x q => mo_iff (psL_mo hE f x q)) (Nat.zero_le _))) (Nat.zero_le _)
    | false =>
    cases h2 : p.sees [[91]] with
    | true => exact mo_le (mo_adv (k := 0) h2 (mo_le (mo_bnd (k := 1) (j := 0) (hE _) fun x q => mo_le (mo_bnd (k := 1) (j := 0) (tkS_mo _ q) fun _ r => mo_iff (psL_mo hE f _ r)) (Nat.zero_le _)) (Nat.zero_le _))) (Nat.zero_le _)
    | false => exact mo_ok e
theorem pst_mo (hE : ∀ p, Mo 1 p (E p)) (p : Ps) : Mo 1 p (pst E p) := mo_le (mo_bnd (k := 1) (j := 0) (atm_mo hE p) fun e q => psL_mo hE _ e q) (by omega)
theorem unL_mo (hE : ∀ p, Mo 1 p (E p)) : ∀ (f : Nat) (p : Ps), Mo 1 p (unL E f p)
  | 0, _ => fun _ _ e => by cases e
  | f + 1, p => by
    unfold unL
    cases h1 : p.sees [[45]] with
    | false => exact pst_mo hE p
    | true => exact mo_le (mo_adv (k := 1) h1 (mo_le (mo_bnd (k := 0) (j := 1) (rfD_mo _ _) fun _ q => mo_le (mo_bnd (k := 1) (j := 0) (inner_mo (unL_mo hE f q.inn)) fun k r => mo_ok _) (by omega)) (by omega))) (by omega)
theorem cmp_mo (hE : ∀ p, Mo 1 p (E p)) (p : Ps) : Mo 1 p (cmp E p) := by
  have hS : ∀ p, Mo 1 p (sum E p) := fun p => jn_mo (fun p => jn_mo (fun p => unL_mo hE _ p) p) p
  unfold cmp
  refine mo_le (mo_bnd (k := 1) (j := 0) (hS p) fun e q => ?_) (by omega)
  cases hs : q.sees [[61, 61], [33, 61], [60], [60, 61], [105, 110]] with
  | false => exact mo_ok e
  | true => exact mo_le (mo_adv (k := 1) hs (mo_le (mo_bnd (k := 1) (j := 0) (hS q.adv) fun x r => mo_ok _) (by omega))) (Nat.zero_le _)
theorem ngL_mo (hE : ∀ p, Mo 1 p (E p)) : ∀ (f : Nat) (p : Ps), Mo 1 p (ngL E f p)
  | 0, _ => fun _ _ e => by cases e
  | f + 1, p => by
    unfold ngL
    cases h1 : p.sees [[110, 111, 116]] with
    | false => exact cmp_mo hE p
    | true => exact mo_le (mo_adv (k := 1) h1 (mo_le (mo_bnd (k := 0) (j := 1) (rfD_mo _ _) fun _ q => mo_le (mo_bnd (k := 1) (j := 0) (inner_mo (ngL_mo hE f q.inn)) fun k r => mo_ok _) (by omega)) (by omega))) (by omega)
theorem orE_mo (hE : ∀ p, Mo 1 p (E p)) (p : Ps) : Mo 1 p (orE E p) := jn_mo (fun p => jn_mo (fun p => ngL_mo hE _ p) p) p
end
theorem exF_mo : ∀ (n : Nat) (p : Ps), Mo 1 p (exF n p)
  | 0, _ => fun _ _ e => by cases e
  | n + 1, p => by
    unfold exF
    exact mo_le (mo_bnd (k := 0) (j := 1) (rfD_mo _ p) fun _ q => inner_mo (orE_mo (exF_mo n) q.inn)) (by omega)
end Go.Proofs.YtcaeeackccgclaaGreatDoor

/- Two parsers side by side: expressions. -/
namespace Go.Proofs.YtcaeeackccgclaaGreatDoor

def tkey (t : Tk) : Nat × List UInt8 × Nat := (t.kind, t.text, t.num)
def hdS (v : List Tk) (l : List (List UInt8)) : Bool := match v with
  | [] => false
  | t :: _ => isS t l
theorem sees_hdS (p : Ps) (l : List (List UInt8)) : p.sees l = hdS p.toks l := by
  unfold Ps.sees hdS
  match hp : p.toks with
  | [] => rw [show p.nx = ⟨0, [], 0, p.fin⟩ by unfold Ps.nx; rw [hp]]; rfl
  | t :: r => rw [nx_of hp]
theorem isS_key {t t' : Tk} (h : tkey t = tkey t') (l : List (List UInt8)) : isS t l = isS t' l := by
  unfold tkey at h
  have h1 := congrArg (·.1) h
  have h2 := congrArg (·.2.1) h
  simp only at h1 h2
  unfold isS
  rw [h1, h2]
/-- What stands behind is seen alike on both sides, but for `)`. -/
def Bd (v v' : List Tk) : Prop := ∀ l, [41] ∉ l → hdS v l = hdS v' l
/-- Both stand at the same token: what is left on one side ends with v, on the other one with v'; that one is k deeper, D at least. -/
structure Ry (v v' : List Tk) (k D : Nat) (p p' : Ps) : Prop where
  cut : ∃ u u', p.toks = u ++ v ∧ p'.toks = u' ++ v' ∧ u.map tkey = u'.map tkey
  deep : p'.deep = p.deep + k
  d30 : p'.deep ≤ 30
  lo : D ≤ p'.deep
  blk : p'.blk = p.blk
  inD : p'.inD = p.inD
section
variable {v v' : List Tk} {k D : Nat} {p p' q q' : Ps}
theorem Ry.some (h : Ry v v' k D p p') (hl : v.length + 1 ≤ p.toks.length) : ∃ t u t' u', p.toks = t :: (u ++ v) ∧ p'.toks = t' :: (u' ++ v') ∧ tkey t = tkey t' ∧ u.map tkey = u'.map tkey := by
  obtain ⟨u, u', h1, h2, h3⟩ := h.cut
  match u, u', h3 with
  | [], _, _ =>
    exfalso
    rw [h1] at hl
    have h9 : ([] ++ v).length = v.length := rfl
    omega
  | t :: u, [], h3 => cases h3
  | t :: u, t' :: u', h3 =>
    simp only [List.map_cons, List.cons.injEq] at h3
    exact ⟨t, u, t', u', h1, h2, h3.1, h3.2⟩
theorem Ry.sees (h : Ry v v' k D p p') (hB : Bd v v') (l : List (List UInt8)) (hl : [41] ∉ l ∨ v.length + 1 ≤ p.toks.length) : p'.sees l = p.sees l := by
  rw [sees_hdS, sees_hdS]
  by_cases hs : v.length + 1 ≤ p.toks.length
  · obtain ⟨t, u, t', u', h1, h2, h3, _⟩ := h.some hs
    rw [h1, h2]
    exact (isS_key h3 l).symm
  · have h41 : [41] ∉ l := hl.resolve_right hs
    obtain ⟨u, u', h1, h2, h3⟩ := h.cut
    have hu : u = [] := by
      rw [h1, List.length_append] at hs
      exact List.length_eq_zero_iff.1 (by omega)
    subst hu
    have hu' : u' = [] := by
      cases u' with
      | nil => rfl
      | cons a b => cases h3
    subst hu'
    rw [h1, h2]
    exact (hB l h41).symm
theorem Ry.sees1 (h : Ry v v' k D p p') (hl : v.length + 1 ≤ p.toks.length) (l : List (List UInt8)) : p'.sees l = p.sees l := by
  obtain ⟨t, u, t', u', h1, h2, h3, _⟩ := h.some hl
  rw [sees_hdS, sees_hdS, h1, h2]
  exact (isS_key h3 l).symm
theorem Ry.key (h : Ry v v' k D p p') (hl : v.length + 1 ≤ p.toks.length) : tkey p'.nx = tkey p.nx := by
  obtain ⟨t, u, t', u', h1, h2, h3, _⟩ := h.some hl
  rw [nx_of h1, nx_of h2, h3]
theorem Ry.adv (h : Ry v v' k D p p') (hl : v.length + 1 ≤ p.toks.length) : Ry v v' k D p.adv p'.adv := by
  obtain ⟨t, u, t', u', h1, h2, h3, h4⟩ := h.some hl
  exact ⟨⟨u, u', by show p.toks.drop 1 = _; rw [h1]; rfl, by show p'.toks.drop 1 = _; rw [h2]; rfl, h4⟩, h.deep, h.d30, h.lo, h.blk, h.inD⟩
theorem Ry.len (h : Ry v v' k D p p') : p'.toks.length + v.length = p.toks.length + v'.length := by
  obtain ⟨u, u', h1, h2, h3⟩ := h.cut
  have := congrArg List.length h3
  rw [List.length_map, List.length_map] at this
  rw [h1, h2, List.length_append, List.length_append]
  omega
theorem Ry.less (h : Ry v v' k D p p') (g : Ry v v' k D q q') (hl : less q p = true) : less q' p' = true := by
  have h1 := h.len
  have h2 := g.len
  unfold Go.Proofs.YtcaeeackccgclaaGreatDoor.less at hl ⊢
  rw [decide_eq_true_eq] at hl ⊢
  omega
/-- What one comes to, so does the other one, if it isn't too deep. -/
def So {α : Type} (v v' : List Tk) (k D : Nat) (m m' : Px α) : Prop := ∀ a q, m = some (.ok (a, q)) → v.length ≤ q.toks.length → (∃ q', m' = some (.ok (a, q')) ∧ Ry v v' k D q q') ∨ (k ≠ 0 ∧ ∃ x, m' = some (.error (2, x)))
theorem so_bnd {α β : Type} {m m' : Px α} {f f' : α → Ps → Px β} (h : So v v' k D m m') (hm : ∀ a q, Mo 0 q (f a q)) (g : ∀ a q q', m = some (.ok (a, q)) → Ry v v' k D q q' → So v v' k D (f a q) (f' a q')) : So v v' k D (bnd m f) (bnd m' f') := fun b r e hl => by
  rcases bnd_some e with ⟨x, _, hx⟩ | ⟨a, q, h1, h2⟩
  · cases hx
  · have h3 := (hm a q b r h2).1
    rcases h a q h1 (by omega) with ⟨q', h4, h5⟩ | ⟨h4, x, h5⟩
    · rw [h4]
      exact g a q q' h1 h5 b r h2 hl
    · rw [h5]
      exact .inr ⟨h4, x, rfl⟩
theorem so_ok {α : Type} (a : α) (h : Ry v v' k D p p') : So v v' k D (ok a p) (ok a p') := fun b q e _ => by cases e; exact .inl ⟨p', rfl, h⟩
theorem so_gu {α : Type} {m' : Px α} (c : Nat) : So v v' k D (gu p c : Px α) m' := fun b q e _ => by cases e
theorem so_iff {α : Type} {b : Bool} {m m' : Px α} (h : So v v' k D m m') : So v v' k D (iff b m) (iff b m') := fun a q e hl => by
  obtain ⟨hb, e2⟩ := iff_some e
  rw [hb]
  exact h a q e2 hl
theorem so_iff2 {α : Type} {b b' : Bool} {m m' : Px α} (hb : b = true → b' = true) (h : So v v' k D m m') : So v v' k D (iff b m) (iff b' m') := fun a q e hl => by
  obtain ⟨hb2, e2⟩ := iff_some e
  rw [hb hb2]
  exact h a q e2 hl
/-- What takes something stands ahead of v. -/
theorem so_pos {α : Type} {m m' : Px α} (hm : Mo 1 p m) (h : v.length + 1 ≤ p.toks.length → So v v' k D m m') : So v v' k D m m' := fun a q e hl => h (by have := (hm a q e).1; omega) a q e hl
theorem tkS_so (h : Ry v v' k D p p') (x : List UInt8) : So v v' k D (tkS x p) (tkS x p') := by
  refine so_pos (tkS_mo x p) fun hl => ?_
  unfold tkS
  rw [h.sees1 hl [x]]
  cases p.sees [x] with
  | false => exact so_gu 1
  | true => exact so_ok () (h.adv hl)
theorem tkK_so (h : Ry v v' k D p p') (n : Nat) (hn : n ≠ 0) {β : Type} {f f' : Tk → Ps → Px β} (hm : ∀ a q, Mo 0 q (f a q)) (g : ∀ t t' q q', tkey t' = tkey t → Ry v v' k D q q' → So v v' k D (f t q) (f' t' q')) : So v v' k D (bnd (tkK n p) f) (bnd (tkK n p') f') := by
  refine so_pos (mo_le (mo_bnd (k := 1) (j := 0) (tkK_mo n p hn) hm) (by omega)) fun hl => ?_
  have hk := h.key hl
  have hk1 : p'.nx.kind = p.nx.kind := congrArg (·.1) hk
  unfold tkK
  rw [hk1]
  cases p.nx.kind == n with
  | false => exact so_gu 1
  | true => exact g _ _ _ _ hk (h.adv hl)
theorem guIf_so (h : Ry v v' k D p p') (b : Bool) (c : Nat) : So v v' k D (guIf b c p) (guIf b c p') := by
  cases b with
  | true => exact so_gu c
  | false => exact so_ok () h
theorem tkN_so (h : Ry v v' k D p p') (l : List (List UInt8)) : So v v' k D (tkN l p) (tkN l p') := by
  refine so_pos (tkN_mo l p) fun hl => ?_
  have hk := h.key hl
  have hk1 : p'.nx.kind = p.nx.kind := congrArg (·.1) hk
  have hk2 : p'.nx.text = p.nx.text := congrArg (·.2.1) hk
  unfold tkN
  rw [hk1, hk2]
  cases p.nx.kind == 1 && l.contains p.nx.text with
  | true => exact so_gu 6
  | false => exact tkK_so h 1 (by decide) (fun a q => mo_ok _) (fun t t' q q' e hq => by rw [show t'.text = t.text from congrArg (·.2.1) e]; exact so_ok _ hq)
theorem Ry.sSet (h : Ry v v' k D p p') (hB : Bd v v') (hl : v.length + 1 ≤ p.toks.length) : sSet p' = sSet p := by
  obtain ⟨t, u, t', u', h1, h2, h3, h4⟩ := h.some hl
  have hk : t'.kind = t.kind := congrArg (·.1) h3.symm
  have hs : hdS (u' ++ v') [[61]] = hdS (u ++ v) [[61]] := by
    match u, u', h4 with
    | [], [], _ => exact (hB [[61]] (by simp)).symm
    | a :: u, b :: u', h4 =>
      simp only [List.map_cons, List.cons.injEq] at h4
      exact (isS_key h4.1 _).symm
  have e1 : ∀ (q : Ps) (t : Tk) (r : List Tk), q.toks = t :: r → Go.Proofs.YtcaeeackccgclaaGreatDoor.sSet q = (t.kind == 1 && hdS r [[61]]) := fun q t r hq => by
    unfold Go.Proofs.YtcaeeackccgclaaGreatDoor.sSet hdS
    rw [hq]
    cases r with
    | nil => simp
    | cons a b => rfl
  rw [e1 p' t' _ h2, e1 p t _ h1, hk, hs]
theorem lsL_so {σ : Type} {c : List UInt8} {each each' : σ → Ps → Px σ} (hM : ∀ s p, Mo 0 p (each s p)) (hE : ∀ s p p', Ry v v' k D p p' → So v v' k D (each s p) (each' s p')) : ∀ (f f' : Nat) (first : Bool) (s : σ) (p p' : Ps), Ry v v' k D p p' → p'.toks.length < f' → So v v' k D (lsL c each f first s p) (lsL c each' f' first s p')
  | 0, _, _, _, _, _, _, _ => fun a q e => by cases e
  | f + 1, 0, _, _, _, _, _, h => by omega
  | f + 1, f' + 1, first, s, p, p', h, hf => by
    refine so_pos (lsL_mo hM (f + 1) first s p) fun hl => ?_
    unfold lsL
    rw [h.sees1 hl [c]]
    cases p.sees [c] with
    | true => exact so_ok s (h.adv hl)
    | false =>
      have h0 : So v v' k D (bif first then ok () p else tkS [44] p) (bif first then ok () p' else tkS [44] p') := by
        cases first with
        | true => exact so_ok () h
        | false => exact tkS_so h [44]
      refine so_bnd h0 (fun _ q => mo_le (mo_bnd (k := 0) (j := 1) (hM s q) fun s2 r => mo_iff (lsL_mo hM f false s2 r)) (by omega)) fun _ q q' _ hq => ?_
      refine so_bnd (hE s q q' hq) (fun s2 r => mo_iff (mo_le (lsL_mo hM f false s2 r) (Nat.zero_le _))) fun s2 r r' _ hr => ?_
      intro a z e hz
      obtain ⟨hb, e2⟩ := iff_some e
      have hls := h.less hr hb
      rw [hls]
      exact lsL_so hM hE f f' false s2 r r' hr (by unfold Go.Proofs.YtcaeeackccgclaaGreatDoor.less at hls; rw [decide_eq_true_eq] at hls; omega) a z e2 hz
theorem jnL_so {part part' : Ps → Px Ex} {l : List (List UInt8)} (hB : Bd v v') (hl : [41] ∉ l) (hM : ∀ p, Mo 1 p (part p)) (hP : ∀ p p', Ry v v' k D p p' → So v v' k D (part p) (part' p')) : ∀ (f f' : Nat) (e : Ex) (p p' : Ps), Ry v v' k D p p' → p'.toks.length < f' → So v v' k D (jnL part l f e p) (jnL part' l f' e p')
  | 0, _, _, _, _, _, _ => fun a q e => by cases e
  | f + 1, 0, _, _, _, _, h => by omega
  | f + 1, f' + 1, e, p, p', h, hf => by
    unfold jnL
    rw [h.sees hB l (.inl hl)]
    cases hs : p.sees l with
    | false => exact so_ok e h
    | true =>
      have hm : Mo 2 p (bnd (part p.adv) fun x q => iff (less q p) (jnL part l f ⟨14, 0, p.nx.text, [e, x], []⟩ q)) := mo_adv (k := 1) hs (mo_le (mo_bnd (k := 1) (j := 0) (hM p.adv) fun x q => mo_iff (jnL_mo (fun p => mo_le (hM p) (Nat.zero_le _)) f _ q)) (by omega))
      refine so_pos (mo_le hm (by omega)) fun hlp => ?_
      have ht : p'.nx.text = p.nx.text := congrArg (·.2.1) (h.key hlp)
      rw [ht]
      refine so_bnd (hP _ _ (h.adv hlp)) (fun x q => mo_iff (jnL_mo (fun p => mo_le (hM p) (Nat.zero_le _)) f _ q)) fun x q q' _ hq => ?_
      intro a z ez hz
      obtain ⟨hb, e2⟩ := iff_some ez
      have hls := h.less hq hb
      rw [hls]
      exact jnL_so hB hl hM hP f f' _ q q' hq (by unfold Go.Proofs.YtcaeeackccgclaaGreatDoor.less at hls; rw [decide_eq_true_eq] at hls; omega) a z e2 hz
theorem jn_so {part part' : Ps → Px Ex} {l : List (List UInt8)} (hB : Bd v v') (hl : [41] ∉ l) (hM : ∀ p, Mo 1 p (part p)) (hP : ∀ p p', Ry v v' k D p p' → So v v' k D (part p) (part' p')) (p p' : Ps) (h : Ry v v' k D p p') : So v v' k D (jn part l p) (jn part' l p') :=
  so_bnd (hP p p' h) (fun e q => jnL_mo (fun p => mo_le (hM p) (Nat.zero_le _)) _ e q) fun e q q' _ hq => jnL_so hB hl hM hP _ _ e q q' hq (Nat.lt_succ_self _)
end
end Go.Proofs.YtcaeeackccgclaaGreatDoor

/- Two splitters side by side: what stands ahead, and what stands behind. -/
namespace Go.Proofs.YtcaeeackccgclaaGreatDoor
open Go.RowKit Go.Shelf

/-- What may stand behind: it goes on with no token. -/
def Tl (x : List UInt8) : Prop := x = [] ∨ (isDg (x.getD 0 0) = false ∧ isNm (x.getD 0 0) = false ∧ (x.getD 0 0).toNat ≠ 61 ∧ (x.getD 0 0).toNat ≠ 47)
theorem rch_app (h : UInt8 → Bool) (x : List UInt8) : ∀ r : List UInt8, (rch h r < r.length ∨ h (x.getD 0 0) = false ∨ x = []) → rch h (r ++ x) = rch h r
  | [], hc => by
    rcases hc with hc | hc | hc
    · exact absurd hc (by simp)
    · cases x with
      | nil => rfl
      | cons c r =>
        have h0 : h c = false := hc
        show rch h (c :: r) = 0
        unfold rch
        rw [h0]
        rfl
    · subst hc; rfl
  | c :: r, hc => by
    show (bif h c then rch h (r ++ x) + 1 else 0) = (bif h c then rch h r + 1 else 0)
    cases hh : h c with
    | false => rfl
    | true =>
      have hc2 : rch h r < r.length ∨ h (x.getD 0 0) = false ∨ x = [] := by
        rcases hc with hc | hc
        · left
          have e : rch h (c :: r) = rch h r + 1 := by show (bif h c then rch h r + 1 else 0) = _; rw [hh]; rfl
          rw [e, List.length_cons] at hc
          omega
        · exact .inr hc
      rw [rch_app h x r hc2]
theorem hd_app {r : List UInt8} (hr : r ≠ []) (x : List UInt8) : (r ++ x).getD 0 0 = r.getD 0 0 := by
  cases r with
  | nil => exact absurd rfl hr
  | cons a b => rfl
section
variable {x : List UInt8}
theorem sgn_app (hx : Tl x) {r : List UInt8} (hr : r ≠ []) : sgn (r ++ x) = sgn r := by
  have h2 : two2 (r ++ x) = two2 r := by
    match r, hr with
    | a :: b :: r, _ => rfl
    | [a], _ =>
      rcases hx with e | ⟨_, _, h61, h47⟩
      · subst e; rfl
      · match x, h61, h47 with
        | [], _, _ => rfl
        | c :: y, h61, h47 =>
          have e1 : c.toNat ≠ 61 := h61
          have e2 : c.toNat ≠ 47 := h47
          show ([[61, 61], [33, 61], [60, 61], [47, 47]] : List (List Nat)).contains [a.toNat, c.toNat] = ([[61, 61], [33, 61], [60, 61], [47, 47]] : List (List Nat)).contains [a.toNat]
          simp [e1, e2]
  unfold sgn
  rw [h2, hd_app hr]
theorem beg_app (hx : Tl x) {r : List UInt8} (hr : r ≠ []) : beg (r ++ x) = beg r := by
  unfold beg
  rw [hd_app hr, sgn_app hx hr]
theorem dg_app (hx : Tl x) (r : List UInt8) : rch isDg (r ++ x) = rch isDg r := by
  refine rch_app isDg x r ?_
  rcases hx with e | ⟨h, _⟩
  · exact .inr (.inr e)
  · exact .inr (.inl h)
theorem nm_app (hx : Tl x) (r : List UInt8) : rch isNm (r ++ x) = rch isNm r := by
  refine rch_app isNm x r ?_
  rcases hx with e | ⟨_, h, _⟩
  · exact .inr (.inr e)
  · exact .inr (.inl h)
theorem noInt_app (hx : Tl x) {r : List UInt8} (hr : r ≠ []) : noInt (r ++ x) = noInt r := by
  unfold noInt
  rw [dg_app hx, hd_app hr, List.take_append_of_le_length (rch_le isDg r)]
theorem txt_app (x : List UInt8) : ∀ (f : Nat) (r said : List UInt8) (z : Nat) (t : List UInt8) (y : Nat), txt f r said z = .ok (t, y) → ∀ f', (r ++ x).length < f' → txt f' (r ++ x) said z = .ok (t, y) := by
  intro f
  induction f with
  | zero => intro r said z t y h; cases h
  | succ f ih =>
    intro r said z t y h f' hf'
    cases f' with
    | zero => omega
    | succ f' =>
      unfold txt at h ⊢
      simp only at h ⊢
      by_cases h0 : r = []
      · rw [if_pos h0] at h; cases h
      rw [if_neg h0] at h
      have h0' : r ++ x ≠ [] := by simp [h0]
      rw [if_neg h0', hd_app h0]
      have hl : 0 < r.length := List.length_pos_iff.2 h0
      by_cases h34 : (r.getD 0 0).toNat = 34
      · rw [if_pos h34] at h ⊢; exact h
      rw [if_neg h34] at h ⊢
      rw [List.length_append] at hf'
      by_cases h92 : (r.getD 0 0).toNat = 92
      · rw [if_pos h92] at h ⊢
        by_cases h1 : r.drop 1 = []
        · rw [if_pos h1] at h; cases h
        rw [if_neg h1] at h
        have hl2 : 1 < r.length := by
          have := List.length_pos_iff.2 h1
          rw [List.length_drop] at this
          omega
        have e1 : (r ++ x).drop 1 = r.drop 1 ++ x := List.drop_append_of_le_length (by omega)
        have e2 : (r ++ x).drop 2 = r.drop 2 ++ x := List.drop_append_of_le_length (by omega)
        rw [e1, e2, if_neg (fun e => h1 (List.append_eq_nil_iff.1 e).1), hd_app h1]
        have hn : ∀ s z2, txt f (r.drop 2) s z2 = .ok (t, y) → txt f' (r.drop 2 ++ x) s z2 = .ok (t, y) := fun s z2 hh => ih _ _ _ _ _ hh f' (by rw [List.length_append, List.length_drop]; omega)
        by_cases a1 : ((r.drop 1).getD 0 0).toNat = 110
        · rw [if_pos a1] at h ⊢; exact hn _ _ h
        rw [if_neg a1] at h ⊢
        by_cases a2 : ((r.drop 1).getD 0 0).toNat = 116
        · rw [if_pos a2] at h ⊢; exact hn _ _ h
        rw [if_neg a2] at h ⊢
        by_cases a3 : ((r.drop 1).getD 0 0).toNat = 92 ∨ ((r.drop 1).getD 0 0).toNat = 34
        · rw [if_pos a3] at h ⊢; exact hn _ _ h
        rw [if_neg a3] at h
        cases h
      rw [if_neg h92] at h ⊢
      by_cases hp : rch isPl r = 0
      · rw [if_pos hp] at h; cases h
      rw [if_neg hp] at h
      have hlt : rch isPl r < r.length := by
        have hle := rch_le isPl r
        rcases Nat.lt_or_ge (rch isPl r) r.length with h1 | h1
        · exact h1
        · exfalso
          have e : r.drop (rch isPl r) = [] := List.drop_eq_nil_of_le h1
          rw [e] at h
          cases f with
          | zero => cases h
          | succ f => unfold txt at h; simp only at h; rw [if_pos trivial] at h; cases h
      rw [rch_app isPl x r (.inl hlt), if_neg hp, List.drop_append_of_le_length (Nat.le_of_lt hlt), List.take_append_of_le_length (Nat.le_of_lt hlt)]
      exact ih _ _ _ _ _ h f' (by rw [List.length_append, List.length_drop]; omega)
end
def opF (c : UInt8) (o : Nat) : Nat := if isOpn c then o + 1 else if isCls c then o - 1 else o
theorem tok1_rt {x : List UInt8} (hx : Tl x) {L L' : List UInt8} {p p' q : Sp} (hr : L'.drop p'.pos = L.drop p.pos ++ x) (hp : p.pos < L.length) (h : tok1 L p = .ok q) :
    ∃ q' n t t', tok1 L' p' = .ok q' ∧ q.pos = p.pos + n ∧ q'.pos = p'.pos + n ∧ q.toks = p.toks ++ [t] ∧ q'.toks = p'.toks ++ [t'] ∧ tkey t' = tkey t ∧ q.ins = p.ins ∧ q'.ins = p'.ins ∧
      ((q.opn = p.opn ∧ q'.opn = p'.opn) ∨ (q.opn = opF ((L.drop p.pos).getD 0 0) p.opn ∧ q'.opn = opF ((L.drop p.pos).getD 0 0) p'.opn)) := by
  have hrl : 0 < (L.drop p.pos).length := by rw [List.length_drop]; omega
  have hne : L.drop p.pos ≠ [] := List.length_pos_iff.1 hrl
  unfold tok1 at h ⊢
  rw [hr]
  generalize L.drop p.pos = r at h hrl hne ⊢
  simp only [hd_app hne] at h ⊢
  split at h
  · rename_i h34
    rw [if_pos h34]
    have e0 : txt (r.length + 1) (r.drop 1) [] (p.pos + 1) = (match txt (r.length + 1) (r.drop 1) [] 0 with | .error y => .error (y + (p.pos + 1)) | .ok (t, y) => .ok (t, y + (p.pos + 1))) := by
      have := txt_sh (p.pos + 1) (r.length + 1) (r.drop 1) [] 0
      rwa [Nat.zero_add] at this
    rw [e0] at h
    cases hz : txt (r.length + 1) (r.drop 1) [] 0 with
    | error y => rw [hz] at h; cases h
    | ok ty =>
      obtain ⟨t, y⟩ := ty
      rw [hz] at h
      simp only at h
      cases h
      have h1 : (r ++ x).drop 1 = r.drop 1 ++ x := List.drop_append_of_le_length (by omega)
      have h2 := txt_app x _ _ _ _ _ _ hz ((r ++ x).length + 1) (by rw [List.length_append, List.length_append, List.length_drop]; omega)
      have e1 := txt_sh (p'.pos + 1) ((r ++ x).length + 1) (r.drop 1 ++ x) [] 0
      rw [Nat.zero_add, h2] at e1
      rw [h1, e1]
      exact ⟨_, y + 1, ⟨3, t, 0, p.pos⟩, ⟨3, t, 0, p'.pos⟩, rfl, by show y + (p.pos + 1) = _; omega, by show y + (p'.pos + 1) = _; omega, rfl, rfl, rfl, rfl, rfl, .inl ⟨rfl, rfl⟩⟩
  rename_i h34
  rw [if_neg h34]
  split at h
  · rename_i hd
    rw [if_pos hd]
    cases h
    rw [dg_app hx, List.take_append_of_le_length (rch_le isDg r)]
    exact ⟨_, _, _, ⟨2, r.take (rch isDg r), valD 0 (r.take (rch isDg r)), p'.pos⟩, rfl, rfl, rfl, rfl, rfl, rfl, rfl, rfl, .inl ⟨rfl, rfl⟩⟩
  rename_i hd
  rw [if_neg hd]
  split at h
  · rename_i hlt
    rw [if_pos hlt]
    cases h
    rw [nm_app hx, List.take_append_of_le_length (rch_le isNm r)]
    exact ⟨_, _, _, ⟨bif isWd (r.take (rch isNm r)) then 5 else 1, r.take (rch isNm r), 0, p'.pos⟩, rfl, rfl, rfl, rfl, rfl, rfl, rfl, rfl, .inl ⟨rfl, rfl⟩⟩
  · rename_i hlt
    rw [if_neg hlt]
    cases h
    rw [sgn_app hx hne, List.take_append_of_le_length (sgn_le r hrl)]
    exact ⟨_, _, _, ⟨4, r.take (sgn r), 0, p'.pos⟩, rfl, rfl, rfl, rfl, rfl, rfl, rfl, rfl, .inr ⟨rfl, rfl⟩⟩
/-- Both stand at the same place: what is left on the other side ends with x; d brackets more are open there; tokens behind A, behind A'. -/
structure Rt (A A' : List (Nat × List UInt8 × Nat)) (x : List UInt8) (d : Nat) (L L' : List UInt8) (p p' : Sp) : Prop where
  rest : L'.drop p'.pos = L.drop p.pos ++ x
  pos : p'.pos ≤ L'.length
  ins : p'.ins = p.ins
  opn : p'.opn = p.opn + d
  toks : ∃ u, p.toks.map tkey = A ++ u ∧ p'.toks.map tkey = A' ++ u
section
variable {A A' : List (Nat × List UInt8 × Nat)} {x : List UInt8} {d : Nat} {L L' : List UInt8} {p p' : Sp}
theorem Rt.len (h : Rt A A' x d L L' p p') : L'.length - p'.pos = L.length - p.pos + x.length := by
  have := congrArg List.length h.rest
  rw [List.length_append, List.length_drop, List.length_drop] at this
  exact this
theorem Rt.add (h : Rt A A' x d L L' p p') (k : Nat) : Rt A A' x d L L' (p.add k) (p'.add k) := by
  obtain ⟨u, h1, h2⟩ := h.toks
  exact ⟨h.rest, h.pos, h.ins, h.opn, u ++ [(k, [], 0)], by show (p.toks ++ [_]).map tkey = _; rw [List.map_append, h1, List.append_assoc]; rfl, by show (p'.toks ++ [_]).map tkey = _; rw [List.map_append, h2, List.append_assoc]; rfl⟩
theorem Rt.setIns (h : Rt A A' x d L L' p p') (l : List Nat) : Rt A A' x d L L' { p with ins := l } { p' with ins := l } := ⟨h.rest, h.pos, rfl, h.opn, h.toks⟩
theorem Rt.top (h : Rt A A' x d L L' p p') : p'.top = p.top := by unfold Sp.top; rw [h.ins]
theorem outF_rt (i : Nat) : ∀ (f : Nat) (p p' : Sp), Rt A A' x d L L' p p' → Rt A A' x d L L' (outF i f p) (outF i f p')
  | 0, _, _, h => h
  | f + 1, p, p', h => by
    by_cases hi : i < p.top
    · rw [outF_step i f p hi, outF_step i f p' (by rw [h.top]; exact hi), h.ins]
      exact outF_rt i f _ _ ((h.setIns _).add 8)
    · rw [outF_stop i _ p hi, outF_stop i _ p' (by rw [h.top]; exact hi)]
      exact h
theorem Rt.come (h : Rt A A' x d L L' p p') (i : Nat) : Rt A A' x d L L' (p.come i) (p'.come i) := by
  show Rt A A' x d L L' (outF i _ _) (outF i _ _)
  by_cases ht : p.top < i
  · rw [if_pos ht, if_pos (show p'.top < i by rw [h.top]; exact ht), h.ins]
    exact outF_rt i _ _ _ ((h.setIns _).add 7)
  · rw [if_neg ht, if_neg (show ¬ p'.top < i by rw [h.top]; exact ht), h.ins]
    exact outF_rt i _ _ _ h
theorem Rt.refu (h : Rt A A' x d L L' p p') (hx : Tl x) (hp : p.pos < L.length) {i : Nat} (h0 : refu L p i = 0) : Go.Proofs.YtcaeeackccgclaaGreatDoor.refu L' p' i = 0 ∨ (d ≠ 0 ∧ Go.Proofs.YtcaeeackccgclaaGreatDoor.refu L' p' i = 2) := by
  have hne : L.drop p.pos ≠ [] := List.length_pos_iff.1 (by rw [List.length_drop]; omega)
  unfold Go.Proofs.YtcaeeackccgclaaGreatDoor.refu at h0 ⊢
  rw [h.rest, h.top, h.ins, h.opn]
  simp only [beg_app hx hne, hd_app hne, noInt_app hx hne] at h0 ⊢
  split at h0
  · cases h0
  rename_i h1
  rw [if_neg (fun e => h1 (e.imp id fun e => ⟨e.1, by omega⟩))]
  split at h0
  · cases h0
  rename_i h2
  rw [if_neg h2]
  split at h0
  · cases h0
  rename_i h3
  rw [if_neg h3]
  split at h0
  · cases h0
  rename_i h4
  by_cases h5 : (isOpn ((L.drop p.pos).getD 0 0) = true ∧ p.opn + d = 30) ∨ (p.top < i ∧ 30 < p.ins.length)
  · rw [if_pos h5]
    refine .inr ⟨fun hd => h4 ?_, rfl⟩
    subst hd
    exact h5
  · rw [if_neg h5]
    exact .inl rfl
/-- What is skipped is as much on both sides. -/
def Sk (G : List UInt8 → Prop) (x : List UInt8) (d : Nat) : Prop := ∀ (o : Nat) (r : List UInt8), G r → (o = 0 ∨ skp o r.length r < r.length) → skp (o + d) (r ++ x).length (r ++ x) = skp o r.length r
theorem Rt.skip {G : List UInt8 → Prop} (hG : Sk G x d) (h : Rt A A' x d L L' p p') (hp : p.pos ≤ L.length) (hg : G (L.drop p.pos)) (hc : p.opn = 0 ∨ (p.skip L).pos < L.length) : Rt A A' x d L L' (p.skip L) (p'.skip L') := by
  have hrl : (L.drop p.pos).length = L.length - p.pos := List.length_drop
  have e1 : skp p.opn L.length (L.drop p.pos) = skp p.opn (L.drop p.pos).length (L.drop p.pos) := skp_fuel _ _ _ _ (by omega) (Nat.le_refl _)
  have e2 : skp p'.opn L'.length (L'.drop p'.pos) = skp (p.opn + d) (L.drop p.pos ++ x).length (L.drop p.pos ++ x) := by
    rw [← h.rest, ← h.opn]
    exact skp_fuel _ _ _ _ (by rw [List.length_drop]; omega) (Nat.le_refl _)
  have hle := skp_len p.opn (L.drop p.pos).length (L.drop p.pos)
  have hc2 : p.opn = 0 ∨ skp p.opn (L.drop p.pos).length (L.drop p.pos) < (L.drop p.pos).length := by
    rcases hc with hc | hc
    · exact .inl hc
    · right
      have : p.pos + skp p.opn L.length (L.drop p.pos) < L.length := hc
      rw [e1] at this
      omega
  have e3 := hG p.opn (L.drop p.pos) hg hc2
  have e4 : (p'.skip L').pos = p'.pos + skp p.opn (L.drop p.pos).length (L.drop p.pos) := by show p'.pos + skp p'.opn L'.length (L'.drop p'.pos) = _; rw [e2, e3]
  have e5 : (p.skip L).pos = p.pos + skp p.opn (L.drop p.pos).length (L.drop p.pos) := by show p.pos + skp p.opn L.length (L.drop p.pos) = _; rw [e1]
  have hl := h.len
  have hpos := h.pos
  refine ⟨?_, ?_, h.ins, h.opn, h.toks⟩
  · rw [e4, e5, ← List.drop_drop, ← List.drop_drop, h.rest, List.drop_append_of_le_length hle]
  · rw [e4]; omega
theorem toksF_rt {G : List UInt8 → Prop} (hG : Sk G x d) (hx : Tl x) (hd : ∀ r n, G r → G (r.drop n)) : ∀ (f i : Nat) (p q : Sp), SpOk L p 1 → G (L.drop p.pos) → toksF L f i p = .ok q → q.opn = 0 → ∀ (f' : Nat) (p' : Sp), Rt A A' x d L L' p p' → L'.length - p'.pos < f' →
    (∃ f2 i2 q', L'.length - q'.pos < f2 ∧ ((q = p ∧ i2 = i) ∨ i2 = q.top) ∧ toksF L' f' i p' = toksF L' f2 i2 q' ∧ Rt A A' x d L L' q q') ∨ (d ≠ 0 ∧ ∃ z, toksF L' f' i p' = .error (2, z))
  | 0, _, _, _, _, _, h, _ => by cases h
  | f + 1, i, p, q, hk, hg, h, ho => by
    intro f' p' hR hf'
    have hp := hk.pos
    unfold toksF at h
    split at h
    · cases h
      exact .inl ⟨f', i, p', hf', .inl ⟨rfl, rfl⟩, rfl, hR⟩
    rename_i he
    split at h
    · cases h
    rename_i hr
    have hr0 : refu L p i = 0 := by
      by_cases hz : refu L p i = 0
      · exact hz
      · exact absurd hz hr
    have hp2 : p.pos < L.length := by
      unfold endL at he
      simp only [Bool.or_eq_true, decide_eq_true_eq, not_or] at he
      omega
    split at h
    · cases h
    rename_i t ht
    have hrl : (L.drop p.pos).length = L.length - p.pos := List.length_drop
    have hne : L.drop p.pos ≠ [] := List.length_pos_iff.1 (by omega)
    have hln := hR.len
    have hend : endL L' p' = false := by
      unfold endL at he ⊢
      simp only [Bool.or_eq_true, decide_eq_true_eq, not_or] at he
      rw [hR.rest, hd_app hne, Bool.or_eq_false_iff]
      exact ⟨by rw [decide_eq_false_iff_not]; omega, by rw [decide_eq_false_iff_not]; exact he.2⟩
    rcases hR.refu hx hp2 hr0 with h1 | ⟨h1, h2⟩
    · have hC := hR.come i
      obtain ⟨c1, c2, _⟩ := come_ok hk.ins i
      obtain ⟨r1, r2, r3, r4, r5⟩ := refu_zero hr0
      obtain ⟨t', n, tk, tk', k1, k2, k3, k4, k5, k6, k7, k8, k9⟩ := tok1_rt hx hC.rest (by rw [c1]; exact hp2) ht
      have hto := tok1_ok ht (by rw [c1]; exact hp2) (by rw [c1]; exact r1) (by rw [c1, c2]; intro ho; have := r4 ho; have := hk.o30; omega) (by rw [c2]; exact hk.o30)
      have htL : t.pos ≤ L.length := hto.2.1
      have hRt : Rt A A' x d L L' t t' := by
        have hcr := hC.rest
        have hcp := hC.pos
        have hco := hC.opn
        have hcl := hC.len
        obtain ⟨u, u1, u2⟩ := hC.toks
        refine ⟨?_, ?_, by rw [k7, k8, hC.ins], ?_, u ++ [tkey tk], by rw [k4, List.map_append, u1, List.append_assoc]; rfl, by rw [k5, List.map_append, u2, List.append_assoc, List.map_singleton, k6]⟩
        · rw [k2, k3, ← List.drop_drop, ← List.drop_drop, hcr, List.drop_append_of_le_length (by rw [List.length_drop]; omega)]
        · rw [k3]; rw [c1] at hcl k2; omega
        · rcases k9 with ⟨o1, o2⟩ | ⟨o1, o2⟩
          · rw [o1, o2, hco]
          · rw [o1, o2, hco]
            unfold opF
            by_cases b1 : isOpn (((L.drop (p.come i).pos).getD 0 0)) = true
            · rw [if_pos b1, if_pos b1]; omega
            · rw [if_neg b1, if_neg b1]
              by_cases b2 : isCls (((L.drop (p.come i).pos).getD 0 0)) = true
              · rw [if_pos b2, if_pos b2]
                rw [at_drop, c1] at b2
                have := r2 b2
                rw [c2]
                omega
              · rw [if_neg b2, if_neg b2]
      obtain ⟨a, b⟩ := turn_ok hk hp2 hr0 ht
      have hgt : G (L.drop t.pos) := by
        have e : L.drop t.pos = (L.drop p.pos).drop n := by rw [List.drop_drop, k2, c1]
        rw [e]
        exact hd _ _ hg
      have hcond : t.opn = 0 ∨ (t.skip L).pos < L.length := by
        by_cases h0 : t.opn = 0
        · exact .inl h0
        · right
          have hle := a.pos
          rcases Nat.lt_or_ge (t.skip L).pos L.length with h5 | h5
          · exact h5
          · exfalso
            cases f with
            | zero => cases h
            | succ f =>
              unfold toksF at h
              rw [if_pos (by unfold endL; rw [show decide ((t.skip L).pos = L.length) = true by rw [decide_eq_true_eq]; omega]; rfl)] at h
              cases h
              exact h0 ho
      have hSk := hRt.skip hG htL hgt hcond
      have hgo := toks_go (L := L') (f := f') (i := i) hf' hend h1 k1
      have hgs : G (L.drop (t.skip L).pos) := by
        have e : L.drop (t.skip L).pos = (L.drop t.pos).drop (skp t.opn L.length (L.drop t.pos)) := by rw [List.drop_drop]; rfl
        rw [e]
        exact hd _ _ hgt
      have hl2 := hSk.len
      rcases toksF_rt hG hx hd f _ _ q a hgs h ho (f' - 1) (t'.skip L') hSk (by omega) with ⟨f2, i2, q', j1, j2, j3, j4⟩ | ⟨j1, z, j2⟩
      · have e2 : i2 = q.top := by
          rcases j2 with ⟨j5, j6⟩ | j5
          · rw [j6, j5]
          · exact j5
        rw [← hSk.top] at j3
        exact .inl ⟨f2, i2, q', j1, .inr e2, hgo.trans j3, j4⟩
      · rw [← hSk.top] at j2
        exact .inr ⟨j1, z, hgo.trans j2⟩
    · exact .inr ⟨h1, p'.pos, by rw [toks_ref hf' hend (by rw [h2]; decide), h2]⟩
end
end Go.Proofs.YtcaeeackccgclaaGreatDoor

/- A source behind another one: its tokens are those of both. -/
namespace Go.Proofs.YtcaeeackccgclaaGreatDoor
open Go.RowKit Go.Shelf

/-- A line's end, and more; or nothing. -/
def Nl (x : List UInt8) : Prop := x = [] ∨ ∃ t, x = 10 :: t
theorem Nl.tl {x : List UInt8} (h : Nl x) : Tl x := by
  rcases h with h | ⟨t, h⟩
  · exact .inl h
  · subst h; exact .inr (by show isDg 10 = false ∧ isNm 10 = false ∧ (10 : UInt8).toNat ≠ 61 ∧ (10 : UInt8).toNat ≠ 47; decide)
theorem skp_nl {x : List UInt8} (hx : Nl x) (o f : Nat) : ∀ (n : Nat) (r : List UInt8), r.length ≤ n → r.length ≤ f → (r ++ x).length ≤ f → (o = 0 ∨ skp o f r < r.length) → skp o f (r ++ x) = skp o f r := by
  intro n
  induction n with
  | zero =>
    intro r hn hf hfx hc
    have h0 : r = [] := List.length_eq_zero_iff.1 (by omega)
    subst h0
    have ho : o = 0 := by
      rcases hc with hc | hc
      · exact hc
      · exact absurd hc (by simp)
    subst ho
    have hz : ∀ g, skp 0 g [] = 0 := fun g => by cases g <;> rfl
    rw [hz]
    rcases hx with e | ⟨t, e⟩
    · subst e; exact hz f
    · subst e
      rw [skp_stop 0 f ([] ++ 10 :: t) (by show ¬ (((10 :: t : List UInt8).drop 0).getD 0 0).toNat = 35; simp)]
      rfl
  | succ n ih =>
    intro r hn hf hfx hc
    by_cases ha : rch (isBl o) r < r.length
    · have e1 : rch (isBl o) (r ++ x) = rch (isBl o) r := rch_app _ x r (.inl ha)
      have hdn : r.drop (rch (isBl o) r) ≠ [] := List.length_pos_iff.1 (by rw [List.length_drop]; omega)
      have e2 : (r ++ x).drop (rch (isBl o) r) = r.drop (rch (isBl o) r) ++ x := List.drop_append_of_le_length (Nat.le_of_lt ha)
      by_cases h35 : ((r.drop (rch (isBl o) r)).getD 0 0).toNat = 35
      · have e3 : rch isNl (r.drop (rch (isBl o) r) ++ x) = rch isNl (r.drop (rch (isBl o) r)) := by
          refine rch_app _ x _ ?_
          rcases hx with e | ⟨t, e⟩
          · exact .inr (.inr e)
          · subst e; exact .inr (.inl (by show isNl 10 = false; decide))
        have h1 := nl_pos _ h35
        have hle := rch_le isNl (r.drop (rch (isBl o) r))
        rw [List.length_drop] at hle
        have hgo := skp_go o f r hf h35
        rw [hgo, skp_go o f (r ++ x) hfx (by rw [e1, e2, hd_app hdn]; exact h35), e1, e2, e3]
        have e4 : (r ++ x).drop (rch (isBl o) r + rch isNl (r.drop (rch (isBl o) r))) = r.drop (rch (isBl o) r + rch isNl (r.drop (rch (isBl o) r))) ++ x := List.drop_append_of_le_length (by omega)
        rw [e4, ih (r.drop (rch (isBl o) r + rch isNl (r.drop (rch (isBl o) r)))) (by rw [List.length_drop]; omega) (by rw [List.length_drop]; omega) (by rw [List.length_append, List.length_drop]; rw [List.length_append] at hfx; omega)]
        rcases hc with hc | hc
        · exact .inl hc
        · right
          rw [hgo] at hc
          rw [List.length_drop]
          omega
      · rw [skp_stop o f r h35, skp_stop o f (r ++ x) (by rw [e1, e2, hd_app hdn]; exact h35), e1]
    · have hle := rch_le (isBl o) r
      have ha2 : rch (isBl o) r = r.length := by omega
      have hd0 : r.drop (rch (isBl o) r) = [] := List.drop_eq_nil_of_le (by omega)
      have hs := skp_stop o f r (by rw [hd0]; decide)
      have ho : o = 0 := by
        rcases hc with hc | hc
        · exact hc
        · rw [hs] at hc; omega
      subst ho
      rcases hx with e | ⟨t, e⟩
      · subst e; rw [List.append_nil]
      · subst e
        have e1 : rch (isBl 0) (r ++ 10 :: t) = rch (isBl 0) r := rch_app _ _ r (.inr (.inl (by show isBl 0 10 = false; decide)))
        have e2 : (r ++ 10 :: t).drop (rch (isBl 0) r) = 10 :: t := by rw [ha2]; exact List.drop_left
        rw [hs, skp_stop 0 f (r ++ 10 :: t) (by rw [e1, e2]; simp), e1]
theorem sk_nl {x : List UInt8} (hx : Nl x) : Sk (fun _ => True) x 0 := fun o r _ hc => by
  have h1 : skp o (r ++ x).length r = skp o r.length r := skp_fuel _ _ _ _ (by rw [List.length_append]; omega) (Nat.le_refl _)
  show skp o (r ++ x).length (r ++ x) = _
  rw [skp_nl hx o _ r.length r (Nat.le_refl _) (by rw [List.length_append]; omega) (Nat.le_refl _) (by rw [h1]; exact hc), h1]
theorem toksF_end {L : List UInt8} : ∀ (f i : Nat) (p q : Sp), toksF L f i p = .ok q → endL L q = true
  | 0, _, _, _, h => by cases h
  | f + 1, i, p, q, h => by
    unfold toksF at h
    split at h
    · rename_i he
      cases h
      exact he
    split at h
    · cases h
    split at h
    · cases h
    · exact toksF_end f _ _ q h
section
variable {A A' : List (Nat × List UInt8 × Nat)} {x : List UInt8} {L L' : List UInt8} {p p' q : Sp}
theorem Rt.ends (h : Rt A A' x 0 L L' p p') (hx : Nl x) (hp : p.pos ≤ L.length) (he : endL L p = true) : endL L' p' = true := by
  have hl := h.len
  have hpos := h.pos
  unfold endL at he ⊢
  rw [h.rest]
  rcases Nat.lt_or_ge p.pos L.length with h1 | h1
  · have hne : L.drop p.pos ≠ [] := List.length_pos_iff.1 (by rw [List.length_drop]; omega)
    rw [show decide (p.pos = L.length) = false by rw [decide_eq_false_iff_not]; omega, Bool.false_or] at he
    rw [hd_app hne, he, Bool.or_true]
  · have h0 : L.drop p.pos = [] := List.drop_eq_nil_of_le h1
    rw [h0]
    rcases hx with e | ⟨t, e⟩
    · subst e
      rw [show decide (p'.pos = L'.length) = true by rw [decide_eq_true_eq]; simp at hl; omega]
      rfl
    · subst e
      rw [show decide ((((([] : List UInt8) ++ 10 :: t)).getD 0 0).toNat = 10) = true from rfl, Bool.or_true]
theorem Rt.more (h : Rt A A' x 0 L L' p p') : ∃ a b c, p.toks.length = a + c ∧ p'.toks.length = b + c ∧ a = A.length ∧ b = A'.length := by
  obtain ⟨u, h1, h2⟩ := h.toks
  have e1 := congrArg List.length h1
  have e2 := congrArg List.length h2
  rw [List.length_map, List.length_append] at e1 e2
  exact ⟨_, _, _, e1, e2, rfl, rfl⟩
theorem spok_skip (hk : SpOk L p 1) : SpOk L (p.skip L) 1 := by
  have hsk := skip_ok (L := L) hk.pos
  exact ⟨hsk.2, hk.ins.of rfl, hk.i31, hk.o30, by show p.toks.length + p.ins.length ≤ 4 * (p.skip L).pos + 1; have := hk.cnt; omega⟩
theorem Rt.skp0 (h : Rt A A' x 0 L L' p p') (hx : Nl x) (ho : p.opn = 0) : skp p'.opn L'.length (L'.drop p'.pos) = skp p.opn L.length (L.drop p.pos) := by
  have e1 : skp p.opn L.length (L.drop p.pos) = skp p.opn (L.drop p.pos).length (L.drop p.pos) := skp_fuel _ _ _ _ (by rw [List.length_drop]; omega) (Nat.le_refl _)
  have e2 : skp p'.opn L'.length (L'.drop p'.pos) = skp (p.opn + 0) (L.drop p.pos ++ x).length (L.drop p.pos ++ x) := by
    rw [← h.rest, ← h.opn]
    exact skp_fuel _ _ _ _ (by rw [List.length_drop]; omega) (Nat.le_refl _)
  rw [e1, e2]
  exact sk_nl hx p.opn _ trivial (.inl ho)
theorem lineF_rt (hx : Nl x) (hk : SpOk L p 1) (ho : p.opn = 0) (h : lineF L p = .ok q) (hR : Rt A A' x 0 L L' p p') : ∃ q', lineF L' p' = .ok q' ∧ Rt A A' x 0 L L' q q' ∧ q.opn = 0 ∧ endL L q = true ∧ p.pos ≤ q.pos := by
  have hk1 := spok_skip hk
  have hi := hR.skp0 hx ho
  have hS := hR.skip (sk_nl hx) hk.pos trivial (.inl ho)
  have hpq := (lineF_ok hk h).2
  unfold lineF at h ⊢
  rw [hi]
  generalize hii : skp p.opn L.length (L.drop p.pos) = i at h ⊢
  split at h
  · cases h
  rename_i q1 hq1
  split at h
  · cases h
  rename_i hno
  have ho1 : q1.opn = 0 := by omega
  have hen := toksF_end _ _ _ _ hq1
  obtain ⟨kq1, _⟩ := toksF_ok L _ _ _ _ hk1 hq1
  rcases toksF_rt (sk_nl hx) hx.tl (fun _ _ h => h) _ _ _ _ hk1 trivial hq1 ho1 (L'.length + 1) (p'.skip L') hS (by omega) with ⟨f2, i2, q1', j1, _, j3, j4⟩ | ⟨j1, _⟩
  · have hen' := j4.ends hx kq1.pos hen
    rw [j3, toks_end j1 hen']
    obtain ⟨a, b, c, m1, m2, m3, m4⟩ := hR.more
    obtain ⟨a2, b2, c2, n1, n2, n3, n4⟩ := j4.more
    have ho1' : q1'.opn = 0 := by rw [j4.opn, ho1]
    simp only [ho1', Nat.lt_irrefl, if_false]
    by_cases hlt : p.toks.length < q1.toks.length
    · rw [if_pos hlt] at h
      cases h
      rw [if_pos (show p'.toks.length < q1'.toks.length by omega)]
      exact ⟨_, rfl, j4.add 6, ho1, hen, hpq⟩
    · rw [if_neg hlt] at h
      cases h
      rw [if_neg (show ¬ p'.toks.length < q1'.toks.length by omega)]
      exact ⟨_, rfl, j4, ho1, hen, hpq⟩
  · exact absurd rfl j1
theorem Rt.step (h : Rt A A' x 0 L L' p p') (hp : p.pos < L.length) : Rt A A' x 0 L L' { p with pos := p.pos + 1 } { p' with pos := p'.pos + 1 } := by
  have hl := h.len
  have hpos := h.pos
  refine ⟨?_, by show p'.pos + 1 ≤ _; omega, h.ins, h.opn, h.toks⟩
  show L'.drop (p'.pos + 1) = L.drop (p.pos + 1) ++ x
  rw [← List.drop_drop, ← List.drop_drop, h.rest, List.drop_append_of_le_length (by rw [List.length_drop]; omega)]
theorem spok_step {q : Sp} (b : SpOk L q 2) (h : q.pos < L.length) : SpOk L { q with pos := q.pos + 1 } 1 :=
  ⟨by show q.pos + 1 ≤ _; omega, b.ins.of rfl, b.i31, b.o30, by show q.toks.length + q.ins.length ≤ 4 * (q.pos + 1) + 1; have := b.cnt; omega⟩
theorem linesF_rt : ∀ (f : Nat) (p q : Sp), SpOk L p 1 → p.opn = 0 → linesF L f p = .ok q → ∀ (f' : Nat) (p' : Sp), Rt A A' [] 0 L L' p p' → L'.length - p'.pos < f' → ∃ q', linesF L' f' p' = .ok q' ∧ Rt A A' [] 0 L L' q q'
  | 0, _, _, _, _, h => by cases h
  | f + 1, p, q, hk, ho, h => by
    intro f' p' hR hf'
    have hl := hR.len
    have hpos := hR.pos
    have hkp := hk.pos
    unfold linesF at h
    by_cases hp : p.pos = L.length
    · rw [if_pos hp] at h
      cases h
      refine ⟨_, lines_end (by omega) (by simp at hl; omega), hR.come 0⟩
    · rw [if_neg hp] at h
      split at h
      · cases h
      rename_i r hr
      obtain ⟨r', k1, k2, k3, k4, k5⟩ := lineF_rt (.inl rfl) hk ho hr hR
      have hrl := k2.len
      have hrp := k2.pos
      have hp' : ¬ p'.pos = L'.length := by simp at hl; omega
      by_cases hre : r.pos = L.length
      · rw [if_pos hre] at h
        cases h
        have hre' : r'.pos = L'.length := by simp at hrl; omega
        refine ⟨_, ?_, k2.come 0⟩
        rw [lines_last (by omega) hp' k1 hre', lines_end (by omega) hre']
      · rw [if_neg hre] at h
        obtain ⟨b, c⟩ := lineF_ok hk hr
        have hbp := b.pos
        have hlt : r.pos < L.length := by omega
        have hre' : ¬ r'.pos = L'.length := by simp at hrl; omega
        rw [lines_go (by omega) hp' k1 hre']
        exact linesF_rt f { r with pos := r.pos + 1 } q (spok_step b hlt) k3 h (f' - 1) { r' with pos := r'.pos + 1 } (k2.step hlt) (by show L'.length - (r'.pos + 1) < f' - 1; simp at hl hrl; omega)
theorem linesF_one {t : List UInt8} : ∀ (f : Nat) (p q : Sp), SpOk L p 1 → Lw.Lv L.length p → Lw.lastK p.toks = 6 → p.opn = 0 → linesF L f p = .ok q → ∀ (f' : Nat) (p' : Sp), Rt A A' (10 :: t) 0 L L' p p' → L'.length - p'.pos < f' →
    ∃ q0 q0' f2, q = q0.come 0 ∧ q0.pos = L.length ∧ q0.opn = 0 ∧ Lw.Ps q0.ins ∧ SpOk L q0 2 ∧ Rt A A' (10 :: t) 0 L L' q0 q0' ∧ L'.length - (q0'.pos + 1) < f2 ∧ linesF L' f' p' = linesF L' f2 { q0' with pos := q0'.pos + 1 }
  | 0, _, _, _, _, _, _, h => by cases h
  | f + 1, p, q, hk, hv, hv6, ho, h => by
    intro f' p' hR hf'
    have hl := hR.len
    have hpos := hR.pos
    have hkp := hk.pos
    have hp' : ¬ p'.pos = L'.length := by simp at hl; omega
    unfold linesF at h
    by_cases hp : p.pos = L.length
    · rw [if_pos hp] at h
      cases h
      have h0 : L.drop p.pos = [] := List.drop_eq_nil_of_le (by omega)
      have hline : lineF L p = .ok p := by
        have hs0 : skp p.opn L.length (L.drop p.pos) = 0 := by rw [h0, ho]; cases L.length <;> rfl
        have hsk : p.skip L = p := by
          show ({ p with pos := p.pos + skp p.opn L.length (L.drop p.pos) } : Sp) = p
          rw [hs0]
          rfl
        have he : endL L p = true := by unfold endL; rw [show decide (p.pos = L.length) = true by rw [decide_eq_true_eq]; exact hp]; rfl
        rw [line_ok (q := p) (by rw [hsk]; exact toks_end (by omega) he), ho]
        simp
      obtain ⟨r', k1, k2, k3, k4, k5⟩ := lineF_rt (.inr ⟨t, rfl⟩) hk ho hline hR
      have hrl := k2.len
      have hrp := k2.pos
      refine ⟨p, r', f' - 1, rfl, hp, ho, hv.ps, ⟨hk.pos, hk.ins, hk.i31, hk.o30, Nat.le_succ_of_le hk.cnt⟩, k2, by simp at hl hrl; omega, ?_⟩
      exact lines_go (by omega) hp' k1 (by simp at hrl; omega)
    · rw [if_neg hp] at h
      split at h
      · cases h
      rename_i r hr
      obtain ⟨r', k1, k2, k3, k4, k5⟩ := lineF_rt (.inr ⟨t, rfl⟩) hk ho hr hR
      have hrl := k2.len
      have hrp := k2.pos
      have hre' : ¬ r'.pos = L'.length := by simp at hrl; omega
      obtain ⟨b, c⟩ := lineF_ok hk hr
      obtain ⟨v1, v2⟩ := (Lw.lineF_lv hk hv hv6).1 r hr
      have hbp := b.pos
      by_cases hre : r.pos = L.length
      · rw [if_pos hre] at h
        cases h
        exact ⟨r, r', f' - 1, rfl, hre, k3, v1.ps, b, k2, by simp at hl hrl; omega, lines_go (by omega) hp' k1 hre'⟩
      · rw [if_neg hre] at h
        have hlt : r.pos < L.length := by omega
        obtain ⟨q0, q0', f2, j1, j2, j3, j4, j5, j6, j7, j8⟩ := linesF_one f { r with pos := r.pos + 1 } q (spok_step b hlt) ⟨v1.all, v1.deep, by have := v1.last; show Lw.lastP r.toks ≤ r.pos + 1; omega, v1.ps⟩ v2 k3 h (f' - 1) { r' with pos := r'.pos + 1 } (k2.step hlt) (by show L'.length - (r'.pos + 1) < f' - 1; simp at hl hrl; omega)
        exact ⟨q0, q0', f2, j1, j2, j3, j4, j5, j6, j7, by rw [lines_go (by omega) hp' k1 hre', j8]⟩
end
/-- What comes hangs on no place, but for places. -/
theorem outF_keys (i : Nat) : ∀ (f : Nat) (p p' : Sp), p'.ins = p.ins → p'.toks.map tkey = p.toks.map tkey → (outF i f p').toks.map tkey = (outF i f p).toks.map tkey ∧ (outF i f p').ins = (outF i f p).ins
  | 0, _, _, h, g => ⟨g, h⟩
  | f + 1, p, p', h, g => by
    have ht : p'.top = p.top := by unfold Sp.top; rw [h]
    by_cases hi : i < p.top
    · rw [outF_step i f p hi, outF_step i f p' (by rw [ht]; exact hi)]
      refine outF_keys i f _ _ (by show p'.ins.drop 1 = p.ins.drop 1; rw [h]) ?_
      show (p'.toks ++ [_]).map tkey = (p.toks ++ [_]).map tkey
      rw [List.map_append, List.map_append, g]
      rfl
    · rw [outF_stop i _ p hi, outF_stop i _ p' (by rw [ht]; exact hi)]
      exact ⟨g, h⟩
theorem come0_keys {p p' : Sp} (h : p'.ins = p.ins) (g : p'.toks.map tkey = p.toks.map tkey) : (p'.come 0).toks.map tkey = (p.come 0).toks.map tkey := by
  show (outF 0 _ _).toks.map tkey = (outF 0 _ _).toks.map tkey
  rw [if_neg (Nat.not_lt_zero _), if_neg (Nat.not_lt_zero _), h]
  exact (outF_keys 0 _ p p' h g).1
end Go.Proofs.YtcaeeackccgclaaGreatDoor

/- A source behind another one: its tokens are those of both (whole). -/
namespace Go.Proofs.YtcaeeackccgclaaGreatDoor
open Go.RowKit Go.Shelf

theorem inok_ps {p : Sp} (h : Lw.Ps p.ins) : InOk p := by
  obtain ⟨ys, e, hy⟩ := h
  exact ⟨by rw [e]; simp, by rw [e]; simp⟩
theorem come0_ins {p : Sp} (h : Lw.Ps p.ins) : (p.come 0).ins = [0] := by
  have h1 := Lw.come_zero h
  have h2 := (come_ok (inok_ps h) 0).2.2.1.bot
  match hp : (p.come 0).ins, h1 with
  | [a], _ =>
    rw [hp] at h2
    simp at h2
    rw [h2]
theorem come0_self {p : Sp} (h : p.ins = [0]) : p.come 0 = p := by
  have : p.top = 0 := by unfold Sp.top; rw [h]; rfl
  have h2 := Lw.come_same p
  rwa [this] at h2
theorem rt_self (L : List UInt8) (p : Sp) (hp : p.pos ≤ L.length) : Rt (p.toks.map tkey) (p.toks.map tkey) [] 0 L L p p :=
  ⟨(List.append_nil _).symm, hp, rfl, rfl, [], (List.append_nil _).symm, (List.append_nil _).symm⟩
/-- Tokens that were there stay ahead. -/
theorem toksF_pre {L : List UInt8} {f i : Nat} {p q : Sp} (hk : SpOk L p 1) (h : toksF L f i p = .ok q) (ho : q.opn = 0) : ∃ u, q.toks.map tkey = p.toks.map tkey ++ u := by
  have hkq := (toksF_ok L _ _ _ _ hk h).1
  rcases toksF_rt (sk_nl (.inl rfl)) (.inl rfl) (fun _ _ h => h) f i p q hk trivial h ho (L.length + 1) p (rt_self L p hk.pos) (by omega) with ⟨f2, i2, q', j1, _, j3, j4⟩ | ⟨j1, _⟩
  · obtain ⟨u, h1, _⟩ := j4.toks
    exact ⟨u, h1⟩
  · exact absurd rfl j1
theorem linesF_pre {L : List UInt8} {f : Nat} {p q : Sp} (hk : SpOk L p 1) (h : linesF L f p = .ok q) (ho : p.opn = 0) : ∃ u, q.toks.map tkey = p.toks.map tkey ++ u := by
  obtain ⟨q', _, j4⟩ := linesF_rt f p q hk ho h (L.length + 1) p (rt_self L p hk.pos) (by omega)
  obtain ⟨u, h1, _⟩ := j4.toks
  exact ⟨u, h1⟩
/-- The first token's kind. -/
def hdK (l : List (Nat × List UInt8 × Nat)) : Nat := match l with
  | [] => 0
  | t :: _ => t.1
theorem refu_late {L L' : List UInt8} {p p' : Sp} {i : Nat} (hr : L'.drop p'.pos = L.drop p.pos) (ho : p.opn = 0) (ho' : p'.opn = 0) (hi : InOk p') (h : refu L p i = 0) : refu L' p' 0 = 0 := by
  have h0 : 0 ∈ p'.ins := List.mem_of_getLast? hi.bot
  unfold refu at h ⊢
  rw [hr, ho']
  simp only [ho] at h ⊢
  split at h
  · cases h
  rename_i h1
  rw [if_neg h1]
  split at h
  · cases h
  split at h
  · cases h
  rename_i h3
  rw [if_neg (fun e => e.2 h0), if_neg h3, if_neg (by simp)]
/-- Behind another source: the first token of this one comes at the line's begin. -/
theorem late {t B : List UInt8} : ∀ (f : Nat) (p q : Sp), SpOk t p 1 → p.toks = [] → p.ins = [0] → p.opn = 0 → linesF t f p = .ok q → hdK (q.toks.map tkey) ≠ 7 → ∀ (f' : Nat) (P : Sp), P.opn = 0 → Lw.Ps P.ins → B.drop P.pos = t.drop p.pos → P.pos ≤ B.length → B.length - P.pos < f' →
    ∃ q', linesF B f' P = .ok q' ∧ q'.toks.map tkey = (P.come 0).toks.map tkey ++ q.toks.map tkey
  | 0, _, _, _, _, _, _, h => by cases h
  | f + 1, p, q, hk, ht, hin, ho, h => by
    intro h7 f' P hoP hPs hr hpos hf'
    have hkp := hk.pos
    have hln : B.length - P.pos = t.length - p.pos := by
      have := congrArg List.length hr
      rwa [List.length_drop, List.length_drop] at this
    have hP := inok_ps hPs
    unfold linesF at h
    by_cases hp : p.pos = t.length
    · rw [if_pos hp] at h
      cases h
      refine ⟨_, lines_end (by omega) (by omega), ?_⟩
      rw [come0_self hin, ht]
      simp
    rw [if_neg hp] at h
    have hpB : ¬ P.pos = B.length := by omega
    split at h
    · cases h
    rename_i r hline
    have hk1 := spok_skip hk
    obtain ⟨hrk, hrp⟩ := lineF_ok hk hline
    have hro : r.opn = 0 := by
      obtain ⟨_, _, _, e, _⟩ := lineF_rt (.inl rfl) hk ho hline (rt_self t p hkp)
      exact e
    -- how much is skipped
    have hs1 : skp P.opn B.length (B.drop P.pos) = skp p.opn t.length (t.drop p.pos) := by
      rw [hr, ho, hoP]
      exact skp_fuel _ _ _ _ (by rw [List.length_drop]; omega) (by rw [List.length_drop]; omega)
    generalize hi : skp p.opn t.length (t.drop p.pos) = i at hs1
    have hps : (p.skip t).pos = p.pos + i := by show p.pos + _ = _; rw [hi]
    have hPsk : (P.skip B).pos = P.pos + i := by show P.pos + _ = _; rw [hs1]
    have hskle := hk1.pos
    have hrs : B.drop (P.skip B).pos = t.drop (p.skip t).pos := by rw [hPsk, hps, ← List.drop_drop, ← List.drop_drop, hr]
    have hline2 := hline
    unfold lineF at hline
    rw [hi] at hline
    split at hline
    · cases hline
    rename_i q1 hq1
    split at hline
    · cases hline
    rename_i hno
    have hq1o : q1.opn = 0 := by omega
    by_cases he : endL t (p.skip t) = true
    · -- a line without a token
      have e1 : q1 = p.skip t := by
        rw [toks_end (by omega) he] at hq1
        cases hq1
        rfl
      subst e1
      rw [if_neg (show ¬ p.toks.length < (p.skip t).toks.length from Nat.lt_irrefl _)] at hline
      cases hline
      have heB : endL B (P.skip B) = true := by
        unfold endL at he ⊢
        rw [hrs]
        rcases (Bool.or_eq_true _ _).mp he with h1 | h1
        · rw [decide_eq_true_eq] at h1
          rw [show decide ((P.skip B).pos = B.length) = true by rw [decide_eq_true_eq]; omega]
          rfl
        · rw [h1, Bool.or_true]
      have hlB : lineF B P = .ok (P.skip B) := by
        rw [line_ok (q := P.skip B) (toks_end (by omega) heB)]
        rw [show (P.skip B).opn = 0 from hoP, if_neg (Nat.lt_irrefl 0), if_neg (show ¬ P.toks.length < (P.skip B).toks.length from Nat.lt_irrefl _)]
      have hkey : ((P.skip B).come 0).toks.map tkey = (P.come 0).toks.map tkey := come0_keys rfl rfl
      by_cases hre : (p.skip t).pos = t.length
      · rw [if_pos hre] at h
        cases h
        have hB : (P.skip B).pos = B.length := by omega
        refine ⟨_, (lines_last (by omega) hpB hlB hB).trans (lines_end (by omega) hB), ?_⟩
        rw [hkey, come0_self (show (p.skip t).ins = [0] from hin), show (p.skip t).toks = [] from ht]
        simp
      · rw [if_neg hre] at h
        have hB : ¬ (P.skip B).pos = B.length := by omega
        obtain ⟨q', k1, k2⟩ := late f { p.skip t with pos := (p.skip t).pos + 1 } q (spok_step (q := p.skip t) ⟨hk1.pos, hk1.ins, hk1.i31, hk1.o30, Nat.le_succ_of_le hk1.cnt⟩ (by omega)) ht hin ho h h7 (f' - 1) { P.skip B with pos := (P.skip B).pos + 1 } hoP hPs (by show B.drop ((P.skip B).pos + 1) = t.drop ((p.skip t).pos + 1); rw [← List.drop_drop, ← List.drop_drop, hrs]) (by show (P.skip B).pos + 1 ≤ _; omega) (by show B.length - ((P.skip B).pos + 1) < f' - 1; omega)
        refine ⟨q', (lines_go (by omega) hpB hlB hB).trans k1, ?_⟩
        rw [k2, show (({ P.skip B with pos := (P.skip B).pos + 1 } : Sp).come 0).toks.map tkey = (P.come 0).toks.map tkey from come0_keys rfl rfl]
    · have he0 : endL t (p.skip t) = false := by simpa using he
      have hp2 : (p.skip t).pos < t.length := by
        unfold endL at he
        simp only [Bool.or_eq_true, decide_eq_true_eq, not_or] at he
        omega
      have hr0 : refu t (p.skip t) i = 0 := by
        by_cases hz : refu t (p.skip t) i = 0
        · exact hz
        · rw [toks_ref (by omega) he0 hz] at hq1; cases hq1
      -- the first token
      have htk : ∃ t1, tok1 t ((p.skip t).come i) = .ok t1 := by
        cases hz : tok1 t ((p.skip t).come i) with
        | error x => rw [toks_bad (by omega) he0 hr0 hz] at hq1; cases hq1
        | ok t1 => exact ⟨t1, rfl⟩
      obtain ⟨t1, ht1⟩ := htk
      obtain ⟨a, b⟩ := turn_ok hk1 hp2 hr0 ht1
      have hq1b := hq1
      rw [toks_go (by omega) he0 hr0 ht1] at hq1
      obtain ⟨c1, c2, _⟩ := come_ok hk1.ins i
      obtain ⟨_, n1, tk, _, _, m2, _, m4, _, _, _, _, _⟩ := tok1_rt (x := []) (L' := t) (p' := (p.skip t).come i) (.inl rfl) (List.append_nil _).symm (by rw [c1]; exact hp2) ht1
      obtain ⟨u1, hu1⟩ := toksF_pre a hq1 hq1o
      have hu1' : q1.toks.map tkey = (((p.skip t).come i).toks.map tkey ++ [tkey tk]) ++ u1 := by rw [hu1, show (t1.skip t).toks = t1.toks from rfl, m4, List.map_append]; rfl
      have hlen1 : 0 < q1.toks.length := by
        have := congrArg List.length hu1'
        simp at this
        omega
      rw [if_pos (show p.toks.length < q1.toks.length by rw [ht]; exact hlen1)] at hline
      cases hline
      have hkq1 := (toksF_ok t _ _ _ _ a hq1).1
      -- this line begins where the source's lines begin
      have hpre : ∃ u2, q.toks.map tkey = q1.toks.map tkey ++ u2 := by
        have e6 : (q1.add 6).toks.map tkey = q1.toks.map tkey ++ [(6, [], 0)] := by show (q1.toks ++ [_]).map tkey = _; rw [List.map_append]; rfl
        by_cases hre : (q1.add 6).pos = t.length
        · rw [if_pos hre] at h
          cases h
          obtain ⟨u, w1, _⟩ := ((rt_self t (q1.add 6) hkq1.pos).come 0).toks
          exact ⟨_, by rw [w1, e6, List.append_assoc]⟩
        · rw [if_neg hre] at h
          have hqp : q1.pos ≤ t.length := hkq1.pos
          have hne : ¬ q1.pos = t.length := hre
          obtain ⟨u, w1⟩ := linesF_pre (spok_step hrk (by show q1.pos < _; omega)) h hro
          exact ⟨_, by rw [w1]; show (q1.add 6).toks.map tkey ++ u = _; rw [e6, List.append_assoc]⟩
      have hi0 : i = 0 := by
        rcases Nat.eq_zero_or_pos i with e | e
        · exact e
        · exfalso
          apply h7
          obtain ⟨u2, hu2⟩ := hpre
          have htop : (p.skip t).top = 0 := by unfold Sp.top; rw [show (p.skip t).ins = [0] from hin]; rfl
          have hcm : ((p.skip t).come i).toks.map tkey = [(7, [], 0)] := by
            have e1 : (p.skip t).come i = ({ p.skip t with ins := i :: (p.skip t).ins } : Sp).add 7 := by
              show outF i _ _ = _
              rw [if_pos (by rw [htop]; exact e)]
              exact outF_stop i _ _ (by show ¬ i < i; exact Nat.lt_irrefl _)
            rw [e1]
            show ((p.skip t).toks ++ [_]).map tkey = _
            rw [show (p.skip t).toks = [] from ht]
            rfl
          rw [hu2, hu1', hcm]
          rfl
      subst hi0
      have hcs : (p.skip t).come 0 = p.skip t := come0_self hin
      have heB : endL B (P.skip B) = false := by
        unfold endL at he0 ⊢
        rw [hrs]
        rw [Bool.or_eq_false_iff] at he0 ⊢
        exact ⟨by rw [decide_eq_false_iff_not]; omega, he0.2⟩
      have hPskI : Lw.Ps (P.skip B).ins := hPs
      have hQi := come0_ins hPskI
      obtain ⟨d1, d2, d3, _⟩ := come_ok (inok_ps hPskI) 0
      have hrB : refu B (P.skip B) 0 = 0 := refu_late hrs ho hoP (inok_ps hPskI) hr0
      have hQr : B.drop ((P.skip B).come 0).pos = t.drop (p.skip t).pos := by rw [d1]; exact hrs
      have hQo : ((P.skip B).come 0).opn = 0 := by rw [d2]; exact hoP
      have hrQ : refu B ((P.skip B).come 0) 0 = 0 := refu_late hQr ho hQo d3 hr0
      have hRt : Rt [] (((P.skip B).come 0).toks.map tkey) [] 0 t B (p.skip t) ((P.skip B).come 0) :=
        ⟨by rw [hQr, List.append_nil], by rw [d1]; omega, by rw [hQi]; exact hin.symm, by rw [hQo]; exact ho.symm, [], by rw [show (p.skip t).toks = [] from ht]; rfl, (List.append_nil _).symm⟩
      have heQ : endL B ((P.skip B).come 0) = false := by unfold endL at heB ⊢; rw [d1]; exact heB
      rcases toksF_rt (sk_nl (.inl rfl)) (.inl rfl) (fun _ _ h => h) _ 0 (p.skip t) q1 hk1 trivial hq1b hq1o (B.length + 1) ((P.skip B).come 0) hRt (by omega) with ⟨f2, i2, q1', j1, _, j3, j4⟩ | ⟨j1, _⟩
      · have hen := toksF_end _ _ _ _ hq1
        have hen' := j4.ends (.inl rfl) hkq1.pos hen
        rw [toks_end j1 hen'] at j3
        -- the same from the line's begin
        have hsame : toksF B (B.length + 1) 0 (P.skip B) = .ok q1' := by
          rw [← j3]
          unfold toksF
          rw [heB, heQ, hrB, hrQ, come0_self hQi]
          simp only [Bool.false_eq_true, if_false, ne_eq, not_true_eq_false]
        have hq1'o : q1'.opn = 0 := by rw [j4.opn, hq1o]
        obtain ⟨u, w1, w2⟩ := j4.toks
        have hcl := (come_ok (inok_ps hPskI) 0).2.2.2
        have hTl : P.toks.length < q1'.toks.length := by
          have e1 := congrArg List.length w1
          have e2 := congrArg List.length w2
          rw [List.length_map, List.nil_append] at e1
          rw [List.length_map, List.length_append, List.length_map] at e2
          have e3 : P.toks.length ≤ ((P.skip B).come 0).toks.length := by
            obtain ⟨u, w1, _⟩ := ((rt_self B (P.skip B) (by omega)).come 0).toks
            have e4 := congrArg List.length w1
            rw [List.length_map, List.length_append, List.length_map] at e4
            have e5 : (P.skip B).toks.length = P.toks.length := rfl
            omega
          omega
        have hlB : lineF B P = .ok (q1'.add 6) := by
          rw [line_ok (q := q1') (by rw [hs1]; exact hsame), hq1'o, if_neg (Nat.lt_irrefl 0), if_pos hTl]
        have hRr := j4.add 6
        have hkey : ((P.skip B).come 0).toks.map tkey = (P.come 0).toks.map tkey := come0_keys rfl rfl
        have hll := hRr.len
        have hlp := hRr.pos
        have hrp2 : (q1.add 6).pos ≤ t.length := hkq1.pos
        have hfin : ∀ q2 q2', q.toks = q2.toks → Rt [] (((P.skip B).come 0).toks.map tkey) [] 0 t B q2 q2' → q2'.toks.map tkey = (P.come 0).toks.map tkey ++ q.toks.map tkey := fun q2 q2' e hR => by
          obtain ⟨u, w1, w2⟩ := hR.toks
          rw [w2, hkey, e, w1, List.nil_append]
        by_cases hre : (q1.add 6).pos = t.length
        · rw [if_pos hre] at h
          cases h
          have hB : (q1'.add 6).pos = B.length := by simp at hll; omega
          exact ⟨_, (lines_last (by omega) hpB hlB hB).trans (lines_end (by omega) hB), hfin _ _ rfl (hRr.come 0)⟩
        · rw [if_neg hre] at h
          have hB : ¬ (q1'.add 6).pos = B.length := by simp at hll; omega
          obtain ⟨q', k1, k2⟩ := linesF_rt f { q1.add 6 with pos := (q1.add 6).pos + 1 } q (spok_step hrk (by omega)) hro h (f' - 1) { q1'.add 6 with pos := (q1'.add 6).pos + 1 } (hRr.step (by omega)) (by show B.length - ((q1'.add 6).pos + 1) < f' - 1; simp at hll; omega)
          exact ⟨q', (lines_go (by omega) hpB hlB hB).trans k1, hfin _ _ rfl k2⟩
      · exact absurd rfl j1
/-- The tokens of a source behind another one are those of both. -/
theorem split_join {s t : List UInt8} {ls lt : List Tk} (hs : splitL s = .ok ls) (ht : splitL t = .ok lt) (h7 : hdK (lt.map tkey) ≠ 7) : ∃ lb, splitL (s ++ 10 :: t) = .ok lb ∧ lb.map tkey = ls.map tkey ++ lt.map tkey := by
  have k0 : ∀ L : List UInt8, SpOk L ⟨0, [], [0], 0⟩ 1 := fun L => ⟨Nat.zero_le _, ⟨by simp, rfl⟩, by decide, by decide, by decide⟩
  unfold splitL at hs ht ⊢
  split at hs
  · cases hs
  rename_i qs hqs
  cases hs
  split at ht
  · cases ht
  rename_i qt hqt
  cases ht
  have hR : Rt [] [] (10 :: t) 0 s (s ++ 10 :: t) ⟨0, [], [0], 0⟩ ⟨0, [], [0], 0⟩ := ⟨rfl, Nat.zero_le _, rfl, rfl, [], rfl, rfl⟩
  obtain ⟨q0, q0', f2, j1, j2, j3, j4, j5, j6, j7, j8⟩ := linesF_one (s.length + 1) ⟨0, [], [0], 0⟩ qs (k0 s) ⟨fun i h => (by cases h), by rfl, Nat.zero_le _, ⟨[], rfl, fun y h => by cases h⟩⟩ rfl rfl hqs ((s ++ 10 :: t).length + 1) ⟨0, [], [0], 0⟩ hR (by omega)
  have hl := j6.len
  have hps := j6.pos
  have hB : (s ++ 10 :: t).length = s.length + (t.length + 1) := by rw [List.length_append, List.length_cons]
  rw [List.length_cons] at hl
  obtain ⟨q', k1, k2⟩ := late (t := t) (B := s ++ 10 :: t) (t.length + 1) ⟨0, [], [0], 0⟩ qt (k0 t) rfl rfl rfl hqt h7 f2 { q0' with pos := q0'.pos + 1 } (by show q0'.opn = 0; rw [j6.opn, j3]) (by show Lw.Ps q0'.ins; rw [j6.ins]; exact j4) (by
      show (s ++ 10 :: t).drop (q0'.pos + 1) = t
      rw [← List.drop_drop, j6.rest, j2, List.drop_length]
      rfl) (by show q0'.pos + 1 ≤ _; omega) j7
  rw [j8, k1]
  refine ⟨_, rfl, ?_⟩
  rw [k2, j1]
  congr 1
  obtain ⟨u, w1, w2⟩ := j6.toks
  exact come0_keys (p := q0) (p' := { q0' with pos := q0'.pos + 1 }) j6.ins (by show q0'.toks.map tkey = q0.toks.map tkey; rw [w1, w2])
end Go.Proofs.YtcaeeackccgclaaGreatDoor

/- An expression in brackets: its tokens, plain. -/
namespace Go.Proofs.YtcaeeackccgclaaGreatDoor
open Go.RowKit Go.Shelf

/-- No line's end, nothing that is left out. -/
def Pn (r : List UInt8) : Prop := ∀ c ∈ r, c.toNat ≠ 10 ∧ c.toNat ≠ 35
theorem pn_drop (r : List UInt8) (n : Nat) (h : Pn r) : Pn (r.drop n) := fun c hc => h c (List.mem_of_mem_drop hc)
theorem pn_hd {r : List UInt8} (h : Pn r) : (r.getD 0 0).toNat ≠ 10 ∧ (r.getD 0 0).toNat ≠ 35 := by
  cases r with
  | nil => exact ⟨by decide, by decide⟩
  | cons c r => exact h c List.mem_cons_self
theorem bl_br (o : Nat) : ∀ r : List UInt8, Pn r → rch (isBl (o + 1)) (r ++ [41]) = rch (isBl o) r
  | [], _ => by
    show (bif isBl (o + 1) 41 then _ else 0) = 0
    have : isBl (o + 1) 41 = false := by
      unfold isBl
      rw [show decide ((41 : UInt8).toNat = 32) = false by decide, show decide ((41 : UInt8).toNat = 10) = false by decide]
      rfl
    rw [this]
    rfl
  | c :: r, h => by
    have h10 : decide (c.toNat = 10) = false := by simpa using (h c List.mem_cons_self).1
    have e : isBl (o + 1) c = isBl o c := by unfold isBl; rw [h10]; simp
    show (bif isBl (o + 1) c then rch (isBl (o + 1)) (r ++ [41]) + 1 else 0) = (bif isBl o c then rch (isBl o) r + 1 else 0)
    rw [e, bl_br o r fun x hx => h x (List.mem_cons_of_mem _ hx)]
theorem sk_br : Sk Pn [41] 1 := fun o r hr _ => by
  have h1 := bl_br o r hr
  have hle := rch_le (isBl o) r
  have hd := pn_hd (pn_drop r (rch (isBl o) r) hr)
  have e2 := skp_stop (o + 1) (r ++ [41]).length (r ++ [41]) (by
    rw [h1, List.drop_append_of_le_length hle]
    cases hz : r.drop (rch (isBl o) r) with
    | nil => decide
    | cons c t => rw [hz] at hd; exact hd.2)
  exact e2.trans (h1.trans (skp_stop o r.length r hd.2).symm)
theorem tl_br : Tl [41] := .inr (by show isDg 41 = false ∧ isNm 41 = false ∧ (41 : UInt8).toNat ≠ 61 ∧ (41 : UInt8).toNat ≠ 47; decide)
theorem skp_sp (o f : Nat) (r : List UInt8) (hf : r.length + 1 ≤ f) : skp o f (32 :: r) = skp o f r + 1 := by
  have h0 : isBl o 32 = true := by unfold isBl; rw [show decide ((32 : UInt8).toNat = 32) = true by decide]; rfl
  have h1 : rch (isBl o) (32 :: r) = rch (isBl o) r + 1 := by show (bif isBl o 32 then _ else 0) = _; rw [h0]; rfl
  by_cases h : ((r.drop (rch (isBl o) r)).getD 0 0).toNat = 35
  · rw [skp_go o f r (by omega) h, skp_go o f (32 :: r) (by simpa using hf) (by rw [h1]; exact h), h1]
    show rch (isBl o) r + 1 + rch isNl (r.drop (rch (isBl o) r)) + skp o f ((32 :: r).drop (rch (isBl o) r + 1 + rch isNl (r.drop (rch (isBl o) r)))) = _
    rw [show rch (isBl o) r + 1 + rch isNl (r.drop (rch (isBl o) r)) = (rch (isBl o) r + rch isNl (r.drop (rch (isBl o) r))) + 1 by omega, List.drop_succ_cons]
    omega
  · rw [skp_stop o f r h, skp_stop o f (32 :: r) (by rw [h1]; exact h), h1]
theorem skp_no (o f : Nat) (c : UInt8) (r : List UInt8) (h : isBl o c = false) (h35 : c.toNat ≠ 35) : skp o f (c :: r) = 0 := by
  have h1 : rch (isBl o) (c :: r) = 0 := by show (bif isBl o c then _ else 0) = 0; rw [h]; rfl
  rw [skp_stop o f (c :: r) (by rw [h1]; exact h35), h1]
def tx : Tk := ⟨1, [120], 0, 0⟩
def te : Tk := ⟨4, [61], 0, 2⟩
def tp : Tk := ⟨4, [40], 0, 4⟩
/-- The first two tokens. -/
theorem pre2 (r : List UInt8) (f : Nat) (hf : r.length + 4 < f) : toksF (120 :: 32 :: 61 :: 32 :: r) f 0 ⟨0, [], [0], 0⟩ = toksF (120 :: 32 :: 61 :: 32 :: r) (f - 2) 0 (Sp.skip (120 :: 32 :: 61 :: 32 :: r) ⟨4, [tx, te], [0], 0⟩) := by
  have hn : (120 :: 32 :: 61 :: 32 :: r).length = r.length + 4 := rfl
  have e1 : endL (120 :: 32 :: 61 :: 32 :: r) ⟨0, [], [0], 0⟩ = false := by
    unfold endL
    rw [Bool.or_eq_false_iff]
    exact ⟨by rw [decide_eq_false_iff_not]; show ¬ 0 = _; rw [hn]; omega, rfl⟩
  have r1 : refu (120 :: 32 :: 61 :: 32 :: r) ⟨0, [], [0], 0⟩ 0 = 0 := rfl
  have t1 : tok1 (120 :: 32 :: 61 :: 32 :: r) ((⟨0, [], [0], 0⟩ : Sp).come 0) = .ok ⟨1, [tx], [0], 0⟩ := rfl
  have s1 : Sp.skip (120 :: 32 :: 61 :: 32 :: r) ⟨1, [tx], [0], 0⟩ = ⟨2, [tx], [0], 0⟩ := by
    show (⟨1 + skp 0 _ (32 :: 61 :: 32 :: r), [tx], [0], 0⟩ : Sp) = _
    rw [skp_sp 0 _ _ (by rw [hn]; simp), skp_no 0 _ 61 _ (by decide) (by decide)]
  have e2 : endL (120 :: 32 :: 61 :: 32 :: r) ⟨2, [tx], [0], 0⟩ = false := by
    unfold endL
    rw [Bool.or_eq_false_iff]
    exact ⟨by rw [decide_eq_false_iff_not]; show ¬ 2 = _; rw [hn]; omega, rfl⟩
  have r2 : refu (120 :: 32 :: 61 :: 32 :: r) ⟨2, [tx], [0], 0⟩ 0 = 0 := rfl
  have t2 : tok1 (120 :: 32 :: 61 :: 32 :: r) ((⟨2, [tx], [0], 0⟩ : Sp).come 0) = .ok ⟨3, [tx, te], [0], 0⟩ := rfl
  have s2 : Sp.skip (120 :: 32 :: 61 :: 32 :: r) ⟨3, [tx, te], [0], 0⟩ = Sp.skip (120 :: 32 :: 61 :: 32 :: r) ⟨4, [tx, te], [0], 0⟩ := by
    show (⟨3 + skp 0 _ (32 :: r), [tx, te], [0], 0⟩ : Sp) = ⟨4 + skp 0 _ r, [tx, te], [0], 0⟩
    rw [skp_sp 0 _ _ (by rw [hn]; omega)]
    congr 1
    omega
  rw [toks_go (f := f) (i := 0) (by rw [hn]; show r.length + 4 - 0 < f; omega) e1 r1 t1, s1]
  show toksF _ (f - 1) 0 ⟨2, [tx], [0], 0⟩ = _
  rw [toks_go (f := f - 1) (i := 0) (by rw [hn]; show r.length + 4 - 2 < f - 1; omega) e2 r2 t2, s2]
  rfl
/-- The bracket that opens. -/
theorem pre3 (r : List UInt8) (f : Nat) (hf : r.length + 5 < f) : toksF (120 :: 32 :: 61 :: 32 :: 40 :: r) f 0 ⟨0, [], [0], 0⟩ = toksF (120 :: 32 :: 61 :: 32 :: 40 :: r) (f - 3) 0 (Sp.skip (120 :: 32 :: 61 :: 32 :: 40 :: r) ⟨5, [tx, te, tp], [0], 1⟩) := by
  have hn : (120 :: 32 :: 61 :: 32 :: 40 :: r).length = r.length + 5 := rfl
  have s0 : Sp.skip (120 :: 32 :: 61 :: 32 :: 40 :: r) ⟨4, [tx, te], [0], 0⟩ = ⟨4, [tx, te], [0], 0⟩ := by
    show (⟨4 + skp 0 _ (40 :: r), [tx, te], [0], 0⟩ : Sp) = _
    rw [skp_no 0 _ 40 _ (by decide) (by decide)]
  have e1 : endL (120 :: 32 :: 61 :: 32 :: 40 :: r) ⟨4, [tx, te], [0], 0⟩ = false := by
    unfold endL
    rw [Bool.or_eq_false_iff]
    exact ⟨by rw [decide_eq_false_iff_not]; show ¬ 4 = _; rw [hn]; omega, rfl⟩
  have hs : sgn (40 :: r) = 1 := by
    have h2 : two2 (40 :: r) = false := by
      cases r with
      | nil => rfl
      | cons c t =>
        show ([[61, 61], [33, 61], [60, 61], [47, 47]] : List (List Nat)).contains [40, c.toNat] = false
        simp
    unfold sgn
    rw [h2]
    rfl
  have hb : beg (40 :: r) = true := by
    unfold beg
    rw [hs]
    rfl
  have r1 : refu (120 :: 32 :: 61 :: 32 :: 40 :: r) ⟨4, [tx, te], [0], 0⟩ 0 = 0 := by
    show (if beg (40 :: r) = false ∨ (isCls 40 = true ∧ (0 : Nat) = 0) then 1 else if (0 : Nat) < 0 ∧ (0 : Nat) ∉ [0] then 4 else if isDg 40 = true ∧ noInt (40 :: r) = true then 3 else if (isOpn 40 = true ∧ (0 : Nat) = 30) ∨ ((0 : Nat) < 0 ∧ 30 < [0].length) then 2 else 0) = 0
    rw [hb]
    rfl
  have t1 : tok1 (120 :: 32 :: 61 :: 32 :: 40 :: r) ((⟨4, [tx, te], [0], 0⟩ : Sp).come 0) = .ok ⟨5, [tx, te, tp], [0], 1⟩ := by
    show tok1 (120 :: 32 :: 61 :: 32 :: 40 :: r) ⟨4, [tx, te], [0], 0⟩ = _
    unfold tok1
    show (if (40 : UInt8).toNat = 34 then _ else if isDg 40 = true then _ else if isLt 40 = true then _ else Except.ok (⟨4 + sgn (40 :: r), [tx, te] ++ [⟨4, (40 :: r).take (sgn (40 :: r)), 0, 4⟩], [0], if isOpn 40 = true then 0 + 1 else _⟩ : Sp)) = _
    rw [if_neg (by decide), if_neg (by decide), if_neg (by decide), if_pos (by decide), hs]
    rfl
  rw [pre2 (40 :: r) f (by simpa using hf), s0]
  rw [toks_go (f := f - 2) (i := 0) (by rw [hn]; show r.length + 5 - 4 < f - 2; omega) e1 r1 t1]
  rfl
theorem toksF_ins {L : List UInt8} : ∀ (f : Nat) (p q : Sp), SpOk L p 1 → p.pos ≤ L.length → toksF L f p.top p = .ok q → q.ins = p.ins
  | 0, _, _, _, _, h => by cases h
  | f + 1, p, q, hk, hp, h => by
    unfold toksF at h
    split at h
    · cases h; rfl
    rename_i he
    split at h
    · cases h
    rename_i hr
    split at h
    · cases h
    rename_i t ht
    have hp2 : p.pos < L.length := by
      unfold endL at he
      simp only [Bool.or_eq_true, decide_eq_true_eq, not_or] at he
      omega
    have hr0 : refu L p p.top = 0 := by
      by_cases hz : refu L p p.top = 0
      · exact hz
      · exact absurd hz hr
    rw [Lw.come_same] at ht
    obtain ⟨a, b⟩ := turn_ok hk hp2 hr0 (by rw [Lw.come_same]; exact ht)
    obtain ⟨_, n1, tk, _, _, m2, _, m4, _, _, k7, _, _⟩ := tok1_rt (x := []) (L' := L) (p' := p) (.inl rfl) (List.append_nil _).symm hp2 ht
    exact (toksF_ins f _ q a a.pos h).trans k7
/-- The closing bracket, and the end. -/
theorem close_end {L : List UInt8} {p : Sp} {f : Nat} (hr : L.drop p.pos = [41]) (hp : p.pos ≤ L.length) (ho : p.opn = 1) (hf : 1 < f) : toksF L f p.top p = .ok ⟨p.pos + 1, p.toks ++ [⟨4, [41], 0, p.pos⟩], p.ins, 0⟩ := by
  have hl : L.length = p.pos + 1 := by
    have := congrArg List.length hr
    rw [List.length_drop] at this
    simp at this
    omega
  have e1 : endL L p = false := by
    unfold endL
    rw [hr, Bool.or_eq_false_iff]
    exact ⟨by rw [decide_eq_false_iff_not]; omega, by decide⟩
  have r1 : refu L p p.top = 0 := by
    unfold refu
    rw [hr, ho]
    dsimp only
    have h1 : ¬ (beg [41] = false ∨ (isCls (([41] : List UInt8).getD 0 0) = true ∧ 1 = 0)) := by decide
    have h2 : ¬ (p.top < p.top ∧ p.top ∉ p.ins) := fun e => absurd e.1 (Nat.lt_irrefl _)
    have h3 : ¬ (isDg (([41] : List UInt8).getD 0 0) = true ∧ noInt [41] = true) := by decide
    have h4 : ¬ ((isOpn (([41] : List UInt8).getD 0 0) = true ∧ 1 = 30) ∨ (p.top < p.top ∧ 30 < p.ins.length)) := by
      rintro (e | e)
      · exact absurd e.2 (by decide)
      · exact absurd e.1 (Nat.lt_irrefl _)
    rw [if_neg h1, if_neg h2, if_neg h3, if_neg h4]
  have t1 : tok1 L (p.come p.top) = .ok ⟨p.pos + 1, p.toks ++ [⟨4, [41], 0, p.pos⟩], p.ins, 0⟩ := by
    rw [Lw.come_same]
    unfold tok1
    rw [hr, ho]
    rfl
  have s1 : Sp.skip L ⟨p.pos + 1, p.toks ++ [⟨4, [41], 0, p.pos⟩], p.ins, 0⟩ = ⟨p.pos + 1, p.toks ++ [⟨4, [41], 0, p.pos⟩], p.ins, 0⟩ := by
    show (⟨p.pos + 1 + skp 0 L.length (L.drop (p.pos + 1)), _, _, _⟩ : Sp) = _
    rw [show L.drop (p.pos + 1) = [] from List.drop_eq_nil_of_le (by omega), show skp 0 L.length [] = 0 by cases L.length <;> rfl]
  rw [toks_go (by omega) e1 r1 t1, s1]
  exact toks_end (by show L.length - (p.pos + 1) < _; omega) (by unfold endL; show (decide (p.pos + 1 = L.length) || _) = true; rw [show decide (p.pos + 1 = L.length) = true by rw [decide_eq_true_eq]; omega]; rfl)
end Go.Proofs.YtcaeeackccgclaaGreatDoor

/- Two parsers side by side: expressions, whole. -/
namespace Go.Proofs.YtcaeeackccgclaaGreatDoor

/-- Where nothing begins, no expression comes. -/
theorem no_begin {E : Ps → Px Ex} {p : Ps} (h1 : sAtom p = false) (h2 : p.sees [[110, 111, 116], [45]] = false) {a : Ex} {q : Ps} (e : orE E p = some (.ok (a, q))) : False := by
  obtain ⟨z, hz, h3⟩ := orE_tt (d := 30) (E := E) (fun p hp => by have := hp.gt; have := hp.le; omega) p (.inr ⟨h1, h2⟩)
  rw [hz] at e
  have := (h3 a q (Option.some.inj e)).2.2
  have := this.gt
  have := (h3 a q (Option.some.inj e)).2.2.le
  omega
theorem no_neg {E : Ps → Px Ex} {f : Nat} {p : Ps} (hf : p.toks.length < f) (h1 : sAtom p = false) (h2 : p.sees [[110, 111, 116], [45]] = false) {a : Ex} {q : Ps} (e : ngL E f p = some (.ok (a, q))) : False := by
  obtain ⟨z, hz, h3⟩ := ngL_tt (d := 30) (E := E) (fun p hp => by have := hp.gt; have := hp.le; omega) f p (.inr ⟨h1, h2⟩) hf
  rw [hz] at e
  have := (h3 a q (Option.some.inj e)).2.2.gt
  have := (h3 a q (Option.some.inj e)).2.2.le
  omega
theorem no_un {E : Ps → Px Ex} {f : Nat} {p : Ps} (hf : p.toks.length < f) (h1 : sAtom p = false) (h2 : p.sees [[45]] = false) {a : Ex} {q : Ps} (e : unL E f p = some (.ok (a, q))) : False := by
  obtain ⟨z, hz, h3⟩ := unL_tt (d := 30) (E := E) (fun p hp => by have := hp.gt; have := hp.le; omega) f p (.inr ⟨h1, h2⟩) hf
  rw [hz] at e
  have := (h3 a q (Option.some.inj e)).2.2.gt
  have := (h3 a q (Option.some.inj e)).2.2.le
  omega
section
variable {v v' : List Tk} {k D : Nat} {p p' q q' : Ps}
theorem Ry.atom (h : Ry v v' k D p p') (hB : Bd v v') (hl : v.length + 1 ≤ p.toks.length) : sAtom p' = sAtom p := by
  have hk1 : p'.nx.kind = p.nx.kind := congrArg (·.1) (h.key hl)
  unfold sAtom
  rw [hk1, h.sees hB _ (.inr hl)]
/-- One deeper: told alike, or too deep on the other side. -/
theorem deep_so (h : Ry v v' k D p p') (hB : Bd v v') {l : List (List UInt8)} {m m' : Ps → Px Ex} {g : Ex → Ex} (hM : ∀ p, Mo 1 p (m p)) (hn : sAtom p.inn = false → p.inn.sees l = false → ∀ a q, m p.inn = some (.ok (a, q)) → False) (hm : Ry v v' k D p.inn p'.inn → So v v' k D (m p.inn) (m' p'.inn)) :
    So v v' k D (bnd (rfD l p) fun _ q => bnd (inner m q) fun x q => ok (g x) q) (bnd (rfD l p') fun _ q => bnd (inner m' q) fun x q => ok (g x) q) := by
  have hmo : Mo 1 p (bnd (rfD l p) fun _ q => bnd (inner m q) fun x q => ok (g x) q) := mo_le (mo_bnd (k := 0) (j := 1) (rfD_mo l p) fun _ q => mo_le (mo_bnd (k := 1) (j := 0) (inner_mo (hM q.inn)) fun x r => mo_ok _) (by omega)) (by omega)
  refine so_pos hmo fun hl => ?_
  have hs := h.sees hB l (.inr hl)
  have ha := h.atom hB hl
  have hd := h.deep
  intro a q e hq
  have hbg : (sAtom p || p.sees l) = true := by
    cases hb : (sAtom p || p.sees l) with
    | true => rfl
    | false =>
      exfalso
      rw [Bool.or_eq_false_iff] at hb
      rcases bnd_some e with ⟨x, _, hx⟩ | ⟨_, q1, h1, h2⟩
      · cases hx
      · have hq1 : q1 = p := by
          unfold rfD guIf at h1
          rw [hb.1, hb.2] at h1
          simp only [Bool.or_self, Bool.false_and, cond_false] at h1
          cases h1
          rfl
        subst hq1
        rcases bnd_some h2 with ⟨x, _, hx⟩ | ⟨a1, q2, h3, _⟩
        · cases hx
        · obtain ⟨_, h4⟩ := iff_some h3
          rcases bnd_some h4 with ⟨x, _, hx⟩ | ⟨a2, q3, h5, _⟩
          · cases hx
          · exact hn hb.1 hb.2 a2 q3 h5
  have hp30 : ¬ p.deep = 30 := fun e30 => by
    unfold rfD guIf at e
    rw [hbg, show (p.deep == 30) = true by rw [e30]; rfl] at e
    cases e
  have hp : rfD l p = ok () p := by
    unfold rfD guIf
    rw [show (p.deep == 30) = false by simpa using hp30, Bool.and_false]
    rfl
  by_cases h30 : p'.deep = 30
  · refine .inr ⟨by omega, p'.nx.pos, ?_⟩
    unfold rfD guIf
    rw [ha, hs, hbg, show (p'.deep == 30) = true by rw [h30]; rfl]
    rfl
  · have hp' : rfD l p' = ok () p' := by
      unfold rfD guIf
      rw [show (p'.deep == 30) = false by simpa using h30, Bool.and_false]
      rfl
    rw [hp] at e
    rw [hp']
    have hle := h.d30
    have hR : Ry v v' k D p.inn p'.inn := ⟨h.cut, by show p'.deep + 1 = p.deep + 1 + k; omega, by show p'.deep + 1 ≤ 30; omega, by show D ≤ p'.deep + 1; have := h.lo; omega, h.blk, h.inD⟩
    replace e : (bnd (inner m p) fun x q => ok (g x) q) = some (.ok (a, q)) := e
    show (∃ q', (bnd (inner m' p') fun x q => ok (g x) q) = some (.ok (a, q')) ∧ _) ∨ (k ≠ 0 ∧ ∃ x, (bnd (inner m' p') fun x q => ok (g x) q) = some (.error (2, x)))
    rcases bnd_some e with ⟨x, _, hx⟩ | ⟨a1, q1, h1, h2⟩
    · cases hx
    cases h2
    obtain ⟨hd1, h3⟩ := iff_some h1
    rcases bnd_some h3 with ⟨x, _, hx⟩ | ⟨a2, q2, h4, h5⟩
    · cases hx
    obtain ⟨hd2, h6⟩ := iff_some h5
    cases h6
    have hmo2 := hM p.inn a1 q2 h4
    have hdq : q2.deep = p.deep + 1 := hmo2.2
    have hin : inner m' p' = bnd (m' p'.inn) fun e q => iff (decide (1 ≤ q.deep)) (ok e q.out) := by
      unfold inner
      rw [show decide (p'.deep < 1000) = true by rw [decide_eq_true_eq]; omega]
      rfl
    rw [hin]
    rcases hm hR a1 q2 h4 hq with ⟨q2', h7, h8⟩ | ⟨h7, x, h8⟩
    · rw [h7]
      have hdq' := h8.deep
      refine .inl ⟨q2'.out, ?_, ⟨h8.cut, ?_, ?_, ?_, h8.blk, h8.inD⟩⟩
      · show (bnd (iff (decide (1 ≤ q2'.deep)) (ok a1 q2'.out)) fun x q => ok (g x) q) = _
        rw [show decide (1 ≤ q2'.deep) = true by rw [decide_eq_true_eq]; omega]
        rfl
      · show q2'.deep - 1 = q2.deep - 1 + k
        omega
      · show q2'.deep - 1 ≤ 30
        have := h8.d30
        omega
      · show D ≤ q2'.deep - 1
        have := h.lo
        omega
    · rw [h8]
      exact .inr ⟨h7, x, rfl⟩
end
end Go.Proofs.YtcaeeackccgclaaGreatDoor

/- Two parsers side by side: what they come to, all expressions. -/
namespace Go.Proofs.YtcaeeackccgclaaGreatDoor

section
variable {v v' : List Tk} {k D : Nat} {E E' : Ps → Px Ex}
theorem kdE_so (hE : ∀ p p', Ry v v' k D p p' → So v v' k D (E p) (E' p')) (s : Ex) {p p' : Ps} (h : Ry v v' k D p p') : So v v' k D (kdE E s p) (kdE E' s p') :=
  so_bnd (hE p p' h) (fun _ _ => mo_ok _) fun _ _ _ _ hq => so_ok _ hq
theorem caE_so (hB : Bd v v') (hM : ∀ p, Mo 1 p (E p)) (hE : ∀ p p', Ry v v' k D p p' → So v v' k D (E p) (E' p')) (s : Ex) (p p' : Ps) (h : Ry v v' k D p p') : So v v' k D (caE E s p) (caE E' s p') := by
  refine so_pos (caE_mo hM s p) fun hl => ?_
  unfold caE
  refine so_iff ?_
  rw [h.sSet hB hl]
  cases sSet p with
  | true =>
    refine so_bnd (tkN_so h s.names) (fun x q => mo_le (mo_bnd (k := 1) (j := 1) (tkS_mo _ q) fun _ r => kdE_mo hM _ r) (Nat.zero_le _)) fun x q q' _ hq => ?_
    exact so_bnd (tkS_so hq [61]) (fun _ r => mo_le (kdE_mo hM _ r) (Nat.zero_le _)) fun _ r r' _ hr => kdE_so hE _ hr
  | false => exact so_bnd (guIf_so h _ 1) (fun _ q => mo_le (kdE_mo hM s q) (Nat.zero_le _)) fun _ q q' _ hq => kdE_so hE s hq
theorem eaR_so (hB : Bd v v') (s : Ex) {p p' : Ps} (h : Ry v v' k D p p') : So v v' k D (eaR s p) (eaR s p') := by
  unfold eaR
  rw [h.sees hB [[93]] (.inl (by simp))]
  exact so_bnd (guIf_so h _ 1) (fun _ q => mo_ok s) fun _ q q' _ hq => so_ok s hq
theorem eaF_so (hB : Bd v v') (hM : ∀ p, Mo 1 p (E p)) (hE : ∀ p p', Ry v v' k D p p' → So v v' k D (E p) (E' p')) (s : Ex) {p p' : Ps} (h : Ry v v' k D p p') : So v v' k D (eaF E s p) (eaF E' s p') := by
  have hR : ∀ s p, Mo 0 p (eaR s p) := fun s p => mo_le (mo_bnd (k := 0) (j := 0) (guIf_mo _ _ p) fun _ q => mo_ok s) (Nat.zero_le _)
  unfold eaF
  rw [h.sees hB [[105, 102]] (.inl (by simp))]
  cases hs : p.sees [[105, 102]] with
  | false => exact eaR_so hB s h
  | true =>
    refine so_pos (mo_adv (k := 0) hs (mo_le (mo_bnd (k := 1) (j := 0) (kdE_mo hM s p.adv) fun s q => hR s q) (Nat.zero_le _))) fun hl => ?_
    exact so_bnd (kdE_so hE s (h.adv hl)) (fun s q => hR s q) fun r q q' _ hq => eaR_so hB r hq
theorem eaE_so (hB : Bd v v') (hM : ∀ p, Mo 1 p (E p)) (hE : ∀ p p', Ry v v' k D p p' → So v v' k D (E p) (E' p')) (s : Ex) {p p' : Ps} (h : Ry v v' k D p p') : So v v' k D (eaE E s p) (eaE E' s p') := by
  unfold eaE
  refine tkK_so h 1 (by decide) (fun t q => mo_le (mo_bnd (k := 1) (j := 0) (tkS_mo _ q) fun _ r => mo_le (mo_bnd (k := 1) (j := 0) (kdE_mo hM _ r) fun s q => eaF_mo hM s q) (Nat.zero_le _)) (Nat.zero_le _)) fun t t' q q' et hq => ?_
  rw [show t'.text = t.text from congrArg (·.2.1) et]
  refine so_bnd (tkS_so hq _) (fun _ r => mo_le (mo_bnd (k := 1) (j := 0) (kdE_mo hM _ r) fun s q => eaF_mo hM s q) (Nat.zero_le _)) fun _ r r' _ hr => ?_
  exact so_bnd (kdE_so hE _ hr) (fun s q => eaF_mo hM s q) fun s q q' _ hq => eaF_so hB hM hE s hq
theorem liE_so (hB : Bd v v') (hM : ∀ p, Mo 1 p (E p)) (hE : ∀ p p', Ry v v' k D p p' → So v v' k D (E p) (E' p')) (s : Ex) (p p' : Ps) (h : Ry v v' k D p p') : So v v' k D (liE E s p) (liE E' s p') := by
  have hF : ∀ (r : Ex) (q : Ps), Mo 0 q (bif decide (r.kids.length = 1) && q.sees [[102, 111, 114]] then eaE E r q.adv else ok r q) := fun r q => by
    cases hs : decide (r.kids.length = 1) && q.sees [[102, 111, 114]] with
    | false => exact mo_ok r
    | true => exact mo_le (mo_adv (k := 1) ((Bool.and_eq_true _ _).mp hs).2 (eaE_mo hM r q.adv)) (Nat.zero_le _)
  unfold liE
  refine so_iff (so_bnd (kdE_so hE s h) hF fun r q q' _ hq => ?_)
  rw [hq.sees hB [[102, 111, 114]] (.inl (by simp))]
  cases hs : decide (r.kids.length = 1) && q.sees [[102, 111, 114]] with
  | false => exact so_ok r hq
  | true =>
    refine so_pos (mo_le (mo_adv (k := 1) ((Bool.and_eq_true _ _).mp hs).2 (eaE_mo hM r q.adv)) (by omega)) fun hl => ?_
    exact eaE_so hB hM hE r (hq.adv hl)
theorem diE_so (hM : ∀ p, Mo 1 p (E p)) (hE : ∀ p p', Ry v v' k D p p' → So v v' k D (E p) (E' p')) (s : Ex) (p p' : Ps) (h : Ry v v' k D p p') : So v v' k D (diE E s p) (diE E' s p') := by
  unfold diE
  refine so_iff (so_bnd (kdE_so hE s h) (fun r q => mo_le (mo_bnd (k := 1) (j := 1) (tkS_mo _ q) fun _ q2 => kdE_mo hM r q2) (Nat.zero_le _)) fun r q q' _ hq => ?_)
  exact so_bnd (tkS_so hq [58]) (fun _ q2 => mo_le (kdE_mo hM r q2) (Nat.zero_le _)) fun _ q2 q2' _ hq2 => kdE_so hE r hq2
theorem sgA_so (hB : Bd v v') (hM : ∀ p, Mo 1 p (E p)) (hE : ∀ p p', Ry v v' k D p p' → So v v' k D (E p) (E' p')) {p p' : Ps} (h : Ry v v' k D p p') : So v v' k D (sgA E p) (sgA E' p') := by
  refine so_pos (sgA_mo hM p) fun hl => ?_
  unfold sgA
  rw [h.sees hB _ (.inr hl), h.sees hB _ (.inr hl), h.sees hB _ (.inr hl), h.sees hB _ (.inr hl), h.sees hB _ (.inr hl)]
  cases h1 : p.sees [[84, 114, 117, 101]] with
  | true => exact so_ok _ (h.adv hl)
  | false =>
  cases h2 : p.sees [[70, 97, 108, 115, 101]] with
  | true => exact so_ok _ (h.adv hl)
  | false =>
  cases h3 : p.sees [[78, 111, 110, 101]] with
  | true => exact so_ok _ (h.adv hl)
  | false =>
  cases h4 : p.sees [[91]] with
  | true => exact lsL_so (fun s p => mo_le (liE_mo hM s p) (Nat.zero_le _)) (liE_so hB hM hE) _ _ _ _ _ _ (h.adv hl) (Nat.lt_succ_self _)
  | false =>
  cases h5 : p.sees [[123]] with
  | true => exact lsL_so (fun s p => mo_le (diE_mo hM s p) (Nat.zero_le _)) (diE_so hM hE) _ _ _ _ _ _ (h.adv hl) (Nat.lt_succ_self _)
  | false =>
    refine so_bnd (tkS_so h [40]) (fun _ q => mo_le (mo_bnd (k := 1) (j := 0) (hM q) fun e r => mo_le (mo_bnd (k := 1) (j := 0) (tkS_mo _ r) fun _ s => mo_ok e) (Nat.zero_le _)) (Nat.zero_le _)) fun _ q q' _ hq => ?_
    refine so_bnd (hE q q' hq) (fun e r => mo_le (mo_bnd (k := 1) (j := 0) (tkS_mo _ r) fun _ s => mo_ok e) (Nat.zero_le _)) fun e r r' _ hr => ?_
    exact so_bnd (tkS_so hr [41]) (fun _ s => mo_ok e) fun _ s s' _ hs => so_ok e hs
theorem atm_so (hB : Bd v v') (hM : ∀ p, Mo 1 p (E p)) (hE : ∀ p p', Ry v v' k D p p' → So v v' k D (E p) (E' p')) {p p' : Ps} (h : Ry v v' k D p p') : So v v' k D (atm E p) (atm E' p') := by
  refine so_pos (atm_mo hM p) fun hl => ?_
  have hk := h.key hl
  have hk1 : p'.nx.kind = p.nx.kind := congrArg (·.1) hk
  have hk2 : p'.nx.text = p.nx.text := congrArg (·.2.1) hk
  have hk3 : p'.nx.num = p.nx.num := congrArg (·.2.2) hk
  unfold atm
  rw [hk1, hk2, hk3]
  cases h1 : p.nx.kind == 1 with
  | true => exact so_ok _ (h.adv hl)
  | false =>
  cases h2 : p.nx.kind == 2 with
  | true => exact so_ok _ (h.adv hl)
  | false =>
  cases h3 : p.nx.kind == 3 with
  | true => exact so_ok _ (h.adv hl)
  | false => exact sgA_so hB hM hE h
theorem psL_so (hB : Bd v v') (hM : ∀ p, Mo 1 p (E p)) (hE : ∀ p p', Ry v v' k D p p' → So v v' k D (E p) (E' p')) : ∀ (f f' : Nat) (e : Ex) (p p' : Ps), Ry v v' k D p p' → p'.toks.length < f' → So v v' k D (psL E f e p) (psL E' f' e p')
  | 0, _, _, _, _, _, _ => fun a q e => by cases e
  | f + 1, 0, _, _, _, _, h => by omega
  | f + 1, f' + 1, e, p, p', h, hf => by
    unfold psL
    rw [h.sees hB [[40]] (.inl (by simp)), h.sees hB [[91]] (.inl (by simp))]
    cases h1 : p.sees [[40]] with
    | true =>
      have hm : Mo 2 p (bnd (lst [41] (caE E) ⟨10, 0, [], [e], []⟩ p.adv) fun x q => iff (less q p) (psL E f x q)) := mo_adv (k := 1) h1 (mo_le (mo_bnd (k := 1) (j := 0) (lsL_mo (fun s p => mo_le (caE_mo hM s p) (Nat.zero_le _)) _ _ _ _) fun x q => mo_iff (psL_mo hM f x q)) (by omega))
      refine so_pos (mo_le hm (by omega)) fun hl => ?_
      refine so_bnd (lsL_so (fun s p => mo_le (caE_mo hM s p) (Nat.zero_le _)) (caE_so hB hM hE) _ _ _ _ _ _ (h.adv hl) (Nat.lt_succ_self _)) (fun x q => mo_iff (psL_mo hM f x q)) fun x q q' _ hq => ?_
      intro a z ez hz
      obtain ⟨hb, e2⟩ := iff_some ez
      have hls := h.less hq hb
      rw [hls]
      exact psL_so hB hM hE f f' x q q' hq (by unfold Go.Proofs.YtcaeeackccgclaaGreatDoor.less at hls; rw [decide_eq_true_eq] at hls; omega) a z e2 hz
    | false =>
    cases h2 : p.sees [[91]] with
    | true =>
      have hF : ∀ (x : Ex) (q : Ps), Mo 0 q (bnd (tkS [93] q) fun _ q => iff (less q p) (psL E f ⟨11, 0, [], [e, x], []⟩ q)) := fun x q => mo_le (mo_bnd (k := 1) (j := 0) (tkS_mo _ q) fun _ r => mo_iff (psL_mo hM f _ r)) (Nat.zero_le _)
      have hm : Mo 2 p (bnd (E p.adv) fun x q => bnd (tkS [93] q) fun _ q => iff (less q p) (psL E f ⟨11, 0, [], [e, x], []⟩ q)) := mo_adv (k := 1) h2 (mo_le (mo_bnd (k := 1) (j := 0) (hM _) hF) (by omega))
      refine so_pos (mo_le hm (by omega)) fun hl => ?_
      refine so_bnd (hE _ _ (h.adv hl)) hF fun x q q' _ hq => ?_
      refine so_bnd (tkS_so hq [93]) (fun _ r => mo_iff (psL_mo hM f _ r)) fun _ r r' _ hr => ?_
      intro a z ez hz
      obtain ⟨hb, e2⟩ := iff_some ez
      have hls := h.less hr hb
      rw [hls]
      exact psL_so hB hM hE f f' _ r r' hr (by unfold Go.Proofs.YtcaeeackccgclaaGreatDoor.less at hls; rw [decide_eq_true_eq] at hls; omega) a z e2 hz
    | false => exact so_ok e h
theorem pst_so (hB : Bd v v') (hM : ∀ p, Mo 1 p (E p)) (hE : ∀ p p', Ry v v' k D p p' → So v v' k D (E p) (E' p')) {p p' : Ps} (h : Ry v v' k D p p') : So v v' k D (pst E p) (pst E' p') :=
  so_bnd (atm_so hB hM hE h) (fun e q => psL_mo hM _ e q) fun e q q' _ hq => psL_so hB hM hE _ _ e q q' hq (Nat.lt_succ_self _)
theorem unL_so (hB : Bd v v') (hM : ∀ p, Mo 1 p (E p)) (hE : ∀ p p', Ry v v' k D p p' → So v v' k D (E p) (E' p')) : ∀ (f f' : Nat) (p p' : Ps), Ry v v' k D p p' → p.toks.length < f → p'.toks.length < f' → So v v' k D (unL E f p) (unL E' f' p')
  | 0, _, _, _, _, h, _ => by omega
  | f + 1, 0, _, _, _, _, h => by omega
  | f + 1, f' + 1, p, p', h, hf, hf' => by
    refine so_pos (unL_mo hM (f + 1) p) fun hl => ?_
    unfold unL
    rw [h.sees hB [[45]] (.inr hl)]
    cases h1 : p.sees [[45]] with
    | false => exact pst_so hB hM hE h
    | true =>
      have ha := (sees_adv h1).2
      have hv := (h.adv hl).len
      have hv0 := h.len
      exact deep_so (h.adv hl) hB (g := fun x => ⟨13, 0, [], [x], []⟩) (unL_mo hM f) (fun a b x q e => no_un (by show p.adv.toks.length < f; omega) a b e) (fun hR => unL_so hB hM hE f f' _ _ hR (by show p.adv.toks.length < f; omega) (by show p'.adv.toks.length < f'; omega))
theorem sum_so (hB : Bd v v') (hM : ∀ p, Mo 1 p (E p)) (hE : ∀ p p', Ry v v' k D p p' → So v v' k D (E p) (E' p')) {p p' : Ps} (h : Ry v v' k D p p') : So v v' k D (sum E p) (sum E' p') :=
  jn_so hB (by simp) (fun p => jn_mo (fun p => unL_mo hM _ p) p) (fun p p' h => jn_so hB (by simp) (fun p => unL_mo hM _ p) (fun p p' h => unL_so hB hM hE _ _ p p' h (Nat.lt_succ_self _) (Nat.lt_succ_self _)) p p' h) p p' h
theorem cmp_so (hB : Bd v v') (hM : ∀ p, Mo 1 p (E p)) (hE : ∀ p p', Ry v v' k D p p' → So v v' k D (E p) (E' p')) {p p' : Ps} (h : Ry v v' k D p p') : So v v' k D (cmp E p) (cmp E' p') := by
  have hS : ∀ p, Mo 1 p (sum E p) := fun p => jn_mo (fun p => jn_mo (fun p => unL_mo hM _ p) p) p
  have hF : ∀ (e : Ex) (q : Ps), Mo 0 q (bif q.sees [[61, 61], [33, 61], [60], [60, 61], [105, 110]] then bnd (sum E q.adv) fun x r => ok ⟨14, 0, q.nx.text, [e, x], []⟩ r else ok e q) := fun e q => by
    cases hs : q.sees [[61, 61], [33, 61], [60], [60, 61], [105, 110]] with
    | false => exact mo_ok e
    | true => exact mo_le (mo_adv (k := 1) hs (mo_le (mo_bnd (k := 1) (j := 0) (hS q.adv) fun x r => mo_ok _) (by omega))) (Nat.zero_le _)
  unfold cmp
  refine so_bnd (sum_so hB hM hE h) hF fun e q q' _ hq => ?_
  rw [hq.sees hB _ (.inl (by simp))]
  cases hs : q.sees [[61, 61], [33, 61], [60], [60, 61], [105, 110]] with
  | false => exact so_ok e hq
  | true =>
    refine so_pos (mo_le (mo_adv (k := 1) hs (mo_le (mo_bnd (k := 1) (j := 0) (hS q.adv) fun x r => mo_ok _) (by omega))) (by omega)) fun hl => ?_
    have ht : q'.nx.text = q.nx.text := congrArg (·.2.1) (hq.key hl)
    rw [ht]
    exact so_bnd (sum_so hB hM hE (hq.adv hl)) (fun x r => mo_ok _) fun x r r' _ hr => so_ok _ hr
theorem ngL_so (hB : Bd v v') (hM : ∀ p, Mo 1 p (E p)) (hE : ∀ p p', Ry v v' k D p p' → So v v' k D (E p) (E' p')) : ∀ (f f' : Nat) (p p' : Ps), Ry v v' k D p p' → p.toks.length < f → p'.toks.length < f' → So v v' k D (ngL E f p) (ngL E' f' p')
  | 0, _, _, _, _, h, _ => by omega
  | f + 1, 0, _, _, _, _, h => by omega
  | f + 1, f' + 1, p, p', h, hf, hf' => by
    refine so_pos (ngL_mo hM (f + 1) p) fun hl => ?_
    unfold ngL
    rw [h.sees hB [[110, 111, 116]] (.inr hl)]
    cases h1 : p.sees [[110, 111, 116]] with
    | false => exact cmp_so hB hM hE h
    | true =>
      have ha := (sees_adv h1).2
      have hv := (h.adv hl).len
      have hv0 := h.len
      exact deep_so (h.adv hl) hB (g := fun x => ⟨12, 0, [], [x], []⟩) (ngL_mo hM f) (fun a b x q e => no_neg (by show p.adv.toks.length < f; omega) a b e) (fun hR => ngL_so hB hM hE f f' _ _ hR (by show p.adv.toks.length < f; omega) (by show p'.adv.toks.length < f'; omega))
theorem orE_so (hB : Bd v v') (hM : ∀ p, Mo 1 p (E p)) (hE : ∀ p p', Ry v v' k D p p' → So v v' k D (E p) (E' p')) {p p' : Ps} (h : Ry v v' k D p p') : So v v' k D (orE E p) (orE E' p') :=
  jn_so hB (by simp) (fun p => jn_mo (fun p => ngL_mo hM _ p) p) (fun p p' h => jn_so hB (by simp) (fun p => ngL_mo hM _ p) (fun p p' h => ngL_so hB hM hE _ _ p p' h (Nat.lt_succ_self _) (Nat.lt_succ_self _)) p p' h) p p' h
end
/-- An expression on both sides. -/
theorem exF_so {v v' : List Tk} {k : Nat} (hB : Bd v v') : ∀ (n n' D : Nat) (p p' : Ps), Ry v v' k D p p' → 31 ≤ n' + p'.deep → So v v' k D (exF n p) (exF n' p')
  | 0, _, _, _, _, _, _ => fun a q e => by cases e
  | n + 1, 0, D, p, p', h, hn => by have := h.d30; omega
  | n + 1, n' + 1, D, p, p', h, hn => by
    have hx : ∀ (m : Nat) (q : Ps), exF (m + 1) q = bnd (rfD [[110, 111, 116], [45]] q) fun _ r => bnd (inner (orE (exF m)) r) fun x s => ok x s := fun m q => by
      show (bnd (rfD [[110, 111, 116], [45]] q) fun _ r => inner (orE (exF m)) r) = _
      congr 1
      funext _ r
      match inner (orE (exF m)) r with
      | none => rfl
      | some (.error x) => rfl
      | some (.ok (a, s)) => rfl
    rw [hx, hx]
    refine deep_so h hB (g := fun x => x) (orE_mo (exF_mo n)) (fun a b x q e => no_begin a b e) fun hR => ?_
    have hR2 : Ry v v' k (p'.deep + 1) p.inn p'.inn := ⟨hR.cut, hR.deep, hR.d30, Nat.le_refl _, hR.blk, hR.inD⟩
    have hS := orE_so hB (exF_mo n) (fun q q' hq => exF_so hB n n' (p'.deep + 1) q q' hq (by have := hq.lo; omega)) hR2
    intro a q e hq
    rcases hS a q e hq with ⟨q', h1, h2⟩ | h1
    · exact .inl ⟨q', h1, h2.cut, h2.deep, h2.d30, Nat.le_trans h.lo (Nat.le_trans (Nat.le_succ _) h2.lo), h2.blk, h2.inD⟩
    · exact .inr h1
end Go.Proofs.YtcaeeackccgclaaGreatDoor
