/- What stands ahead of a source matters to places alone, plain. -/
import Derived.Test.YtdfimmekhbkglaaDoorTkN
namespace Go.Proofs.YtdfimmekhbkglaaDoor
open Go.RowKit Go.Shelf

def shT (P : Nat) (t : Tk) : Tk := { t with pos := t.pos + P }
def shS (P : Nat) (p : Sp) : Sp := { p with pos := p.pos + P, toks := p.toks.map (shT P) }
def shE (P : Nat) : Except Ft Sp → Except Ft Sp
  | .error x => .error (x.1, x.2 + P)
  | .ok q => .ok (shS P q)

theorem drop_sh (pre L : List UInt8) (x : Nat) : (pre ++ L).drop (x + pre.length) = L.drop x := by
  rw [Nat.add_comm, ← List.drop_drop, List.drop_left]

theorem skp_fuel (o : Nat) : ∀ (f f' : Nat) (r : List UInt8), r.length ≤ f → r.length ≤ f' → skp o f r = skp o f' r := by
  intro f
  induction f with
  | zero =>
    intro f' r h h'
    have h0 : r = [] := List.length_eq_zero_iff.1 (by omega)
    subst h0
    cases f' with
    | zero => rfl
    | succ f' => rfl
  | succ f ih =>
    intro f' r h h'
    cases f' with
    | zero =>
      have h0 : r = [] := List.length_eq_zero_iff.1 (by omega)
      subst h0
      rfl
    | succ f' =>
      show (bif decide (((r.drop (rch (isBl o) r)).getD 0 0).toNat = 35) then _ else _) = (bif decide (((r.drop (rch (isBl o) r)).getD 0 0).toNat = 35) then _ else _)
      cases hc : decide (((r.drop (rch (isBl o) r)).getD 0 0).toNat = 35) with
      | false => rfl
      | true =>
        simp only [cond_true]
        have hc' : ((r.drop (rch (isBl o) r)).getD 0 0).toNat = 35 := by simpa using hc
        have hlen : 0 < (r.drop (rch (isBl o) r)).length := by
          rcases Nat.eq_zero_or_pos (r.drop (rch (isBl o) r)).length with e | e
          · rw [List.length_eq_zero_iff.1 e] at hc'; simp at hc'
          · exact e
        have h1 : 0 < rch isNl (r.drop (rch (isBl o) r)) := by
          refine rch_pos hlen ?_
          unfold isNl
          rw [hc']; decide
        rw [List.length_drop] at hlen
        rw [ih f' (r.drop (rch (isBl o) r + rch isNl (r.drop (rch (isBl o) r)))) (by rw [List.length_drop]; omega) (by rw [List.length_drop]; omega)]

theorem top_sh (P : Nat) (p : Sp) : (shS P p).top = p.top := rfl
theorem add_sh (P k : Nat) (p : Sp) : (shS P p).add k = shS P (p.add k) := by
  unfold shS Sp.add
  simp [shT]
theorem outF_sh (P i : Nat) : ∀ (f : Nat) (p : Sp), outF i f (shS P p) = shS P (outF i f p) := by
  intro f
  induction f with
  | zero => intro p; rfl
  | succ f ih =>
    intro p
    by_cases hi : i < p.top
    · rw [outF_step i f (shS P p) hi, outF_step i f p hi, ← ih]
      congr 1
      exact add_sh P 8 { p with ins := p.ins.drop 1 }
    · rw [outF_stop i _ (shS P p) hi, outF_stop i _ p hi]
theorem come_sh (P i : Nat) (p : Sp) : (shS P p).come i = shS P (p.come i) := by
  show outF i _ _ = shS P (outF i _ _)
  by_cases ht : p.top < i
  · rw [if_pos ht, if_pos (show (shS P p).top < i from ht)]
    have e : ({ shS P p with ins := i :: (shS P p).ins } : Sp).add 7 = shS P (({ p with ins := i :: p.ins } : Sp).add 7) := add_sh P 7 { p with ins := i :: p.ins }
    rw [e, outF_sh]
    rfl
  · rw [if_neg ht, if_neg (show ¬ (shS P p).top < i from ht)]
    exact outF_sh P i _ p

theorem txt_sh (P : Nat) : ∀ (f : Nat) (r said : List UInt8) (x : Nat), txt f r said (x + P) = (match txt f r said x with | .error y => .error (y + P) | .ok (t, y) => .ok (t, y + P)) := by
  intro f
  induction f with
  | zero => intro r said x; rfl
  | succ f ih =>
    intro r said x
    unfold txt
    simp only
    have e1 : x + P + 1 = x + 1 + P := by omega
    have e2 : x + P + 2 = x + 2 + P := by omega
    split
    · rfl
    split
    · simp only [e1]
    split
    · split
      · simp only [e1]
      split
      · rw [e2, ih]
      split
      · rw [e2, ih]
      split
      · rw [e2, ih]
      · simp only [e1]
    split
    · rfl
    · rw [show x + P + rch isPl r = x + rch isPl r + P from by omega, ih]

section
variable {pre L : List UInt8}
theorem refu_sh (p : Sp) (i : Nat) : refu (pre ++ L) (shS pre.length p) i = refu L p i := by
  have e : (pre ++ L).drop (shS pre.length p).pos = L.drop p.pos := drop_sh pre L p.pos
  unfold refu
  rw [e]
  rfl
theorem tok1_sh (p : Sp) : tok1 (pre ++ L) (shS pre.length p) = shE pre.length (tok1 L p) := by
  have e : (pre ++ L).drop (shS pre.length p).pos = L.drop p.pos := drop_sh pre L p.pos
  unfold tok1
  rw [e]
  simp only
  split
  · rw [show (shS pre.length p).pos + 1 = p.pos + 1 + pre.length from by show p.pos + pre.length + 1 = _; omega, txt_sh]
    cases txt ((L.drop p.pos).length + 1) ((L.drop p.pos).drop 1) [] (p.pos + 1) with
    | error x => rfl
    | ok y =>
      obtain ⟨t, y⟩ := y
      simp [shE, shS, shT]
  split
  · simp [shE, shS, shT]; omega
  split
  · simp [shE, shS, shT]; omega
  · simp [shE, shS, shT]; omega
theorem skip_sh (p : Sp) (hp : p.pos ≤ L.length) : (shS pre.length p).skip (pre ++ L) = shS pre.length (p.skip L) := by
  have e : (pre ++ L).drop (shS pre.length p).pos = L.drop p.pos := drop_sh pre L p.pos
  unfold Sp.skip
  rw [e, skp_fuel (shS pre.length p).opn (pre ++ L).length L.length (L.drop p.pos) (by rw [List.length_drop, List.length_append]; omega) (by rw [List.length_drop]; omega)]
  show ({ shS pre.length p with pos := p.pos + pre.length + skp p.opn L.length (L.drop p.pos) } : Sp) = _
  unfold shS
  simp
  omega
theorem endL_sh (p : Sp) : endL (pre ++ L) (shS pre.length p) = endL L p := by
  have e : (pre ++ L).drop (shS pre.length p).pos = L.drop p.pos := drop_sh pre L p.pos
  unfold endL
  rw [e]
  congr 1
  rw [List.length_append]
  show decide (p.pos + pre.length = pre.length + L.length) = _
  rw [decide_eq_decide]
  omega
theorem toksF_sh : ∀ (f f' i : Nat) (p : Sp), SpOk L p 1 → L.length - p.pos < f → L.length - p.pos < f' → toksF (pre ++ L) f' i (shS pre.length p) = shE pre.length (toksF L f i p) := by
  intro f
  induction f with
  | zero => intro f' i p _ h; omega
  | succ f ih =>
    intro f' i p hk h h'
    cases f' with
    | zero => omega
    | succ f' =>
      unfold toksF
      rw [endL_sh, refu_sh]
      split
      · rfl
      rename_i he
      have hp : p.pos < L.length := by
        have := hk.pos
        rcases Nat.lt_or_ge p.pos L.length with h1 | h1
        · exact h1
        · exfalso; apply he; unfold endL
          rw [show decide (p.pos = L.length) = true from by simp; omega]; rfl
      split
      · rfl
      rename_i hr
      have hr0 : refu L p i = 0 := by
        rcases Nat.eq_zero_or_pos (refu L p i) with e | e
        · exact e
        · exact absurd (by omega) hr
      rw [come_sh, tok1_sh]
      cases ht : tok1 L (p.come i) with
      | error x => rfl
      | ok q =>
        simp only [shE]
        obtain ⟨a, b⟩ := turn_ok hk hp hr0 ht
        have hqp : q.pos ≤ L.length := by
          obtain ⟨r1, r2, r3, r4, r5⟩ := refu_zero hr0
          obtain ⟨c1, c2, _⟩ := come_ok hk.ins i
          exact (tok1_ok ht (by rw [c1]; exact hp) (by rw [c1]; exact r1) (by rw [c1, c2]; intro ho; have := r4 ho; have := hk.o30; omega) (by rw [c2]; exact hk.o30)).2.1
        rw [skip_sh q hqp]
        exact ih f' _ (q.skip L) a (by omega) (by omega)
theorem lineF_sh (p : Sp) (hk : SpOk L p 1) : lineF (pre ++ L) (shS pre.length p) = shE pre.length (lineF L p) := by
  have e : (pre ++ L).drop (shS pre.length p).pos = L.drop p.pos := drop_sh pre L p.pos
  have hsk := skip_ok (L := L) hk.pos
  have hk1 : SpOk L (p.skip L) 1 := ⟨hsk.2, hk.ins.of rfl, hk.i31, hk.o30, by show p.toks.length + p.ins.length ≤ 4 * (p.skip L).pos + 1; have := hk.cnt; omega⟩
  unfold lineF
  rw [e, skip_sh p hk.pos, skp_fuel (shS pre.length p).opn (pre ++ L).length L.length (L.drop p.pos) (by rw [List.length_drop, List.length_append]; omega) (by rw [List.length_drop]; omega),
    toksF_sh (L.length + 1) ((pre ++ L).length + 1) _ (p.skip L) hk1 (by omega) (by rw [List.length_append]; omega)]
  show (match shE pre.length (toksF L (L.length + 1) (skp p.opn L.length (L.drop p.pos)) (p.skip L)) with | .error x => _ | .ok q => _) = _
  cases toksF L (L.length + 1) (skp p.opn L.length (L.drop p.pos)) (p.skip L) with
  | error x => rfl
  | ok q =>
    simp only [shE]
    have e1 : (shS pre.length q).opn = q.opn := rfl
    have e2 : (shS pre.length q).toks.length = q.toks.length := by unfold shS; simp
    have e3 : (shS pre.length p).toks.length = p.toks.length := by unfold shS; simp
    rw [e1, e2, e3]
    split
    · rfl
    · split
      · rw [add_sh]
      · rfl
theorem linesF_sh : ∀ (f f' : Nat) (p : Sp), SpOk L p 1 → L.length - p.pos < f → L.length - p.pos < f' → linesF (pre ++ L) f' (shS pre.length p) = shE pre.length (linesF L f p) := by
  intro f
  induction f with
  | zero => intro f' p _ h; omega
  | succ f ih =>
    intro f' p hk h h'
    cases f' with
    | zero => omega
    | succ f' =>
      have hpe : ∀ q : Sp, (shS pre.length q).pos = (pre ++ L).length ↔ q.pos = L.length := fun q => by
        rw [List.length_append]
        show (q.pos + pre.length = pre.length + L.length) ↔ _
        omega
      unfold linesF
      by_cases hp : p.pos = L.length
      · rw [if_pos hp, if_pos ((hpe p).2 hp), come_sh]; rfl
      · rw [if_neg hp, if_neg (fun e => hp ((hpe p).1 e)), lineF_sh p hk]
        cases hl : lineF L p with
        | error x => rfl
        | ok q =>
          simp only [shE]
          obtain ⟨b, c⟩ := lineF_ok hk hl
          by_cases hq0 : q.pos = L.length
          · rw [if_pos hq0, if_pos ((hpe q).2 hq0), come_sh]
          · rw [if_neg hq0, if_neg (fun e => hq0 ((hpe q).1 e))]
            have hb := b.pos
            have hq : ({ shS pre.length q with pos := (shS pre.length q).pos + 1 } : Sp) = shS pre.length { q with pos := q.pos + 1 } := by
              unfold shS
              simp
              omega
            rw [hq]
            exact ih f' { q with pos := q.pos + 1 } ⟨by show q.pos + 1 ≤ _; omega, b.ins.of rfl, b.i31, b.o30, by show q.toks.length + q.ins.length ≤ 4 * (q.pos + 1) + 1; have := b.cnt; omega⟩ (by show L.length - (q.pos + 1) < f; omega) (by show L.length - (q.pos + 1) < f'; omega)
end

/-- What stands ahead: blanks, a line's end, what is left out, a line's end. -/
def ahead1 : List UInt8 := [32, 32, 35, 32, 110, 111, 116, 104, 105, 110, 103]
def ahead (n : Nat) : List UInt8 := List.replicate n 32 ++ (10 :: (ahead1 ++ [10]))
theorem ahead_len (n : Nat) : (ahead n).length = n + 13 := by unfold ahead ahead1; simp

theorem rch_blanks (n : Nat) (r : List UInt8) : rch (isBl 0) (List.replicate n 32 ++ (10 :: r)) = n := by
  induction n with
  | zero => rfl
  | succ n ih =>
    show (bif isBl 0 32 then rch (isBl 0) (List.replicate n 32 ++ (10 :: r)) + 1 else 0) = _
    rw [ih]
    rfl
/-- A line in which nothing stands. -/
theorem line_none (L : List UInt8) (x k : Nat) (hx : skp 0 L.length (L.drop x) = k) (hc : ((L.drop (x + k)).getD 0 0).toNat = 10) : lineF L ⟨x, [], [0], 0⟩ = .ok ⟨x + k, [], [0], 0⟩ := by
  have hs : Sp.skip L ⟨x, [], [0], 0⟩ = ⟨x + k, [], [0], 0⟩ := by
    unfold Sp.skip
    simp only [hx]
  have ht : toksF L (L.length + 1) (skp 0 L.length (L.drop x)) ⟨x + k, [], [0], 0⟩ = .ok ⟨x + k, [], [0], 0⟩ := by
    unfold toksF
    rw [if_pos]
    unfold endL
    simp only [hc]
    simp
  unfold lineF
  rw [hs]
  simp only [ht]
  simp
theorem lines_ahead (n : Nat) (L : List UInt8) (f : Nat) : linesF (ahead n ++ L) (f + 2) ⟨0, [], [0], 0⟩ = linesF (ahead n ++ L) f ⟨n + 13, [], [0], 0⟩ := by
  have hlen : (ahead n ++ L).length = n + 13 + L.length := by rw [List.length_append, ahead_len]
  have d0 : (ahead n ++ L).drop 0 = List.replicate n 32 ++ (10 :: (ahead1 ++ (10 :: L))) := by unfold ahead; simp
  have dn : (ahead n ++ L).drop n = 10 :: (ahead1 ++ (10 :: L)) := by
    have : ahead n ++ L = List.replicate n 32 ++ (10 :: (ahead1 ++ (10 :: L))) := d0
    rw [this]
    have h : (List.replicate n (32 : UInt8)).length = n := List.length_replicate
    conv => lhs; arg 1; rw [← h]
    rw [List.drop_left]
  have dn1 : (ahead n ++ L).drop (n + 1) = ahead1 ++ (10 :: L) := by rw [← List.drop_drop, dn]; rfl
  have dn12 : (ahead n ++ L).drop (n + 1 + 11) = 10 :: L := by rw [← List.drop_drop, dn1]; rfl
  have s0 : skp 0 (ahead n ++ L).length ((ahead n ++ L).drop 0) = n := by
    rw [hlen, d0, show n + 13 + L.length = (n + 12 + L.length) + 1 from by omega]
    show (bif decide ((((List.replicate n 32 ++ (10 :: (ahead1 ++ (10 :: L)))).drop (rch (isBl 0) (List.replicate n 32 ++ (10 :: (ahead1 ++ (10 :: L)))))).getD 0 0).toNat = 35) then _ else rch (isBl 0) (List.replicate n 32 ++ (10 :: (ahead1 ++ (10 :: L))))) = n
    rw [rch_blanks]
    have h : (List.replicate n (32 : UInt8)).length = n := List.length_replicate
    have e : (List.replicate n (32 : UInt8) ++ (10 :: (ahead1 ++ (10 :: L)))).drop n = 10 :: (ahead1 ++ (10 :: L)) := by
      conv => lhs; arg 1; rw [← h]
      rw [List.drop_left]
    rw [e]
    rfl
  have l0 : lineF (ahead n ++ L) ⟨0, [], [0], 0⟩ = .ok ⟨n, [], [0], 0⟩ := by
    have := line_none (ahead n ++ L) 0 n s0 (by rw [Nat.zero_add, dn]; rfl)
    rwa [Nat.zero_add] at this
  have s1 : skp 0 (ahead n ++ L).length ((ahead n ++ L).drop (n + 1)) = 11 := by
    rw [hlen, dn1, show n + 13 + L.length = (n + 11 + L.length) + 1 + 1 from by omega]
    rfl
  have l1 : lineF (ahead n ++ L) ⟨n + 1, [], [0], 0⟩ = .ok ⟨n + 12, [], [0], 0⟩ := line_none (ahead n ++ L) (n + 1) 11 s1 (by rw [dn12]; rfl)
  rw [lines_go (f := f + 2) (by omega) (by show ¬ 0 = _; omega) l0 (by show ¬ n = _; omega)]
  show linesF (ahead n ++ L) (f + 1) ⟨n + 1, [], [0], 0⟩ = _
  rw [lines_go (f := f + 1) (by omega) (by show ¬ n + 1 = _; omega) l1 (by show ¬ n + 12 = _; omega)]
  rfl

theorem splitL_ahead (n : Nat) (L : List UInt8) : splitL (ahead n ++ L) = (match splitL L with | .error x => .error (x.1, x.2 + (n + 13)) | .ok l => .ok (l.map (shT (n + 13)))) := by
  have hlen : (ahead n ++ L).length = n + 13 + L.length := by rw [List.length_append, ahead_len]
  have h := linesF_sh (pre := ahead n) (L := L) (L.length + 1) (n + 12 + L.length) ⟨0, [], [0], 0⟩ ⟨Nat.zero_le _, ⟨by simp, rfl⟩, by decide, by decide, by decide⟩ (by show L.length - 0 < _; omega) (by show L.length - 0 < _; omega)
  have e : shS (ahead n).length ⟨0, [], [0], 0⟩ = ⟨n + 13, [], [0], 0⟩ := by unfold shS; rw [ahead_len]; simp
  rw [e] at h
  unfold splitL
  rw [hlen, show n + 13 + L.length + 1 = (n + 12 + L.length) + 2 from by omega, lines_ahead n L, h]
  cases linesF L (L.length + 1) ⟨0, [], [0], 0⟩ with
  | error x => simp only [shE, ahead_len]
  | ok q => simp only [shE, ahead_len]; rfl
end Go.Proofs.YtdfimmekhbkglaaDoor
