/- An expression in brackets is what it is without them, plain. -/
import Derived.Test.YtcaeeackccgclaaGreatDoorTb13
namespace Go.Proofs.YtcaeeackccgclaaGreatDoor
open Go.RowKit Go.Shelf

def kx : Nat × List UInt8 × Nat := (1, [120], 0)
def ke : Nat × List UInt8 × Nat := (4, [61], 0)
def kp : Nat × List UInt8 × Nat := (4, [40], 0)
def kc : Nat × List UInt8 × Nat := (4, [41], 0)
def kl : Nat × List UInt8 × Nat := (6, [], 0)
theorem spok0 (L : List UInt8) : SpOk L ⟨0, [], [0], 0⟩ 1 := ⟨Nat.zero_le _, ⟨by simp, rfl⟩, by decide, by decide, by decide⟩
theorem skip0 (r : List UInt8) : Sp.skip (120 :: r) ⟨0, [], [0], 0⟩ = ⟨0, [], [0], 0⟩ ∧ skp 0 (120 :: r).length ((120 :: r).drop 0) = 0 := by
  have h : skp 0 (120 :: r).length (120 :: r) = 0 := skp_no 0 _ 120 _ (by decide) (by decide)
  refine ⟨?_, h⟩
  show (⟨0 + skp 0 (120 :: r).length (120 :: r), [], [0], 0⟩ : Sp) = _
  rw [h]
/-- The tokens without brackets and with them. -/
theorem split_br {s : List UInt8} (hn : Pn s) {l : List Tk} (h : splitL (120 :: 32 :: 61 :: 32 :: s) = .ok l) :
    (∃ u l', l.map tkey = [kx, ke] ++ u ++ [kl] ∧ splitL (120 :: 32 :: 61 :: 32 :: 40 :: (s ++ [41])) = .ok l' ∧ l'.map tkey = [kx, ke, kp] ++ u ++ [kc, kl]) ∨ ∃ z, splitL (120 :: 32 :: 61 :: 32 :: 40 :: (s ++ [41])) = .error (2, z) := by
  have hnA : (120 :: 32 :: 61 :: 32 :: s).length = s.length + 4 := rfl
  have hnB : (120 :: 32 :: 61 :: 32 :: 40 :: (s ++ [41])).length = s.length + 6 := by simp
  generalize hA : 120 :: 32 :: 61 :: 32 :: s = A at h hnA
  generalize hB : 120 :: 32 :: 61 :: 32 :: 40 :: (s ++ [41]) = B at hnB ⊢
  obtain ⟨sA, iA⟩ : Sp.skip A ⟨0, [], [0], 0⟩ = ⟨0, [], [0], 0⟩ ∧ skp 0 A.length (A.drop 0) = 0 := by rw [← hA]; exact skip0 _
  obtain ⟨sB, iB⟩ : Sp.skip B ⟨0, [], [0], 0⟩ = ⟨0, [], [0], 0⟩ ∧ skp 0 B.length (B.drop 0) = 0 := by rw [← hB]; exact skip0 _
  have hPA : Pn A := by
    rw [← hA]
    intro c hc
    rcases List.mem_cons.1 hc with e | hc
    · rw [e]; decide
    rcases List.mem_cons.1 hc with e | hc
    · rw [e]; decide
    rcases List.mem_cons.1 hc with e | hc
    · rw [e]; decide
    rcases List.mem_cons.1 hc with e | hc
    · rw [e]; decide
    exact hn c hc
  -- the line without brackets
  unfold splitL at h
  split at h
  · cases h
  rename_i q hq
  cases h
  unfold linesF at hq
  rw [if_neg (show ¬ 0 = A.length by omega)] at hq
  split at hq
  · cases hq
  rename_i r hline
  unfold lineF at hline
  rw [show skp (⟨0, [], [0], 0⟩ : Sp).opn A.length (A.drop (⟨0, [], [0], 0⟩ : Sp).pos) = 0 from iA, sA] at hline
  split at hline
  · cases hline
  rename_i q1 hq1
  split at hline
  · cases hline
  rename_i hno
  have ho1 : q1.opn = 0 := by omega
  have hen := toksF_end _ _ _ _ hq1
  obtain ⟨kq1, _⟩ := toksF_ok A _ _ _ _ (spok0 A) hq1
  have hpe : q1.pos = A.length := by
    unfold endL at hen
    rcases (Bool.or_eq_true _ _).mp hen with e | e
    · simpa using e
    · exfalso
      have := (pn_hd (pn_drop A q1.pos hPA)).1
      simp only [decide_eq_true_eq] at e
      exact this e
  have hpre : toksF A (A.length + 1) 0 ⟨0, [], [0], 0⟩ = toksF A (A.length - 1) 0 (Sp.skip A ⟨4, [tx, te], [0], 0⟩) := by
    have := pre2 s (A.length + 1) (by omega)
    rw [hA] at this
    exact this
  rw [hpre] at hq1
  have k4 : SpOk A ⟨4, [tx, te], [0], 0⟩ 1 := ⟨by show 4 ≤ _; omega, ⟨by simp, rfl⟩, by decide, by decide, by decide⟩
  have k4s := spok_skip k4
  have hA4 : A.drop 4 = s := by rw [← hA]; rfl
  have hB5 : B.drop 5 = s ++ [41] := by rw [← hB]; rfl
  have hR0 : Rt [kx, ke] [kx, ke, kp] [41] 1 A B ⟨4, [tx, te], [0], 0⟩ ⟨5, [tx, te, tp], [0], 1⟩ := ⟨by show B.drop 5 = A.drop 4 ++ [41]; rw [hA4, hB5], by show 5 ≤ _; omega, rfl, rfl, [], rfl, rfl⟩
  have hR1 := hR0.skip sk_br (by show 4 ≤ _; omega) (by show Pn (A.drop 4); rw [hA4]; exact hn) (.inl rfl)
  have hpreB : toksF B (B.length + 1) 0 ⟨0, [], [0], 0⟩ = toksF B (B.length - 2) 0 (Sp.skip B ⟨5, [tx, te, tp], [0], 1⟩) := by
    have := pre3 (s ++ [41]) (B.length + 1) (by rw [List.length_append, List.length_singleton]; omega)
    rw [hB] at this
    exact this
  have hposB := hR1.pos
  have hl1 := hR1.len
  have hsB : 5 ≤ (Sp.skip B ⟨5, [tx, te, tp], [0], 1⟩).pos := Nat.le_add_right _ _
  have hins : q1.ins = [0] := toksF_ins _ (Sp.skip A ⟨4, [tx, te], [0], 0⟩) q1 k4s k4s.pos hq1
  rcases toksF_rt sk_br tl_br pn_drop _ 0 _ q1 k4s (pn_drop A _ hPA) hq1 ho1 (B.length - 2) _ hR1 (by omega) with ⟨f2, i2, q1', j1, j2, j3, j4⟩ | ⟨_, z, j2⟩
  · left
    have hr41 : B.drop q1'.pos = [41] := by rw [j4.rest, hpe, List.drop_length]; rfl
    have hi2 : i2 = q1'.top := by
      rw [j4.top]
      rcases j2 with ⟨e1, e2⟩ | e
      · rw [e2, e1]; rfl
      · exact e
    have hlr : B.length - q1'.pos = 1 := by have := congrArg List.length hr41; rw [List.length_drop] at this; exact this
    have hcl := close_end (f := f2) hr41 j4.pos (by rw [j4.opn, ho1]) (by omega)
    rw [hi2, hcl] at j3
    obtain ⟨u, u1, u2⟩ := j4.toks
    have hins' : q1'.ins = [0] := by rw [j4.ins, hins]
    have hposE : q1'.pos + 1 = B.length := by have := j4.pos; omega
    have hlB : lineF B ⟨0, [], [0], 0⟩ = .ok ((⟨q1'.pos + 1, q1'.toks ++ [⟨4, [41], 0, q1'.pos⟩], q1'.ins, 0⟩ : Sp).add 6) := by
      rw [line_ok (q := ⟨q1'.pos + 1, q1'.toks ++ [⟨4, [41], 0, q1'.pos⟩], q1'.ins, 0⟩) (by rw [sB]; show toksF B (B.length + 1) (skp 0 B.length (B.drop 0)) _ = _; rw [iB, hpreB, j3])]
      rw [if_neg (show ¬ 0 < 0 from Nat.lt_irrefl 0), if_pos (by show 0 < (q1'.toks ++ [_]).length; simp)]
    refine ⟨u, ((⟨q1'.pos + 1, q1'.toks ++ [⟨4, [41], 0, q1'.pos⟩], q1'.ins, 0⟩ : Sp).add 6).toks, ?_, ?_, ?_⟩
    · have hlen : 0 < q1.toks.length := by
        have := congrArg List.length u1
        rw [List.length_map] at this
        simp at this
        omega
      rw [if_pos (show (⟨0, [], [0], 0⟩ : Sp).toks.length < q1.toks.length from hlen)] at hline
      cases hline
      rw [if_pos (show (q1.add 6).pos = A.length from hpe)] at hq
      cases hq
      rw [come0_self (show (q1.add 6).ins = [0] from hins)]
      show (q1.toks ++ [_]).map tkey = _
      rw [List.map_append, u1]
      rfl
    · unfold splitL
      rw [lines_last (q := (⟨q1'.pos + 1, q1'.toks ++ [⟨4, [41], 0, q1'.pos⟩], q1'.ins, 0⟩ : Sp).add 6) (by omega) (show ¬ 0 = B.length by omega) hlB hposE, lines_end (by omega) hposE]
      rw [come0_self (show ((⟨q1'.pos + 1, q1'.toks ++ [⟨4, [41], 0, q1'.pos⟩], q1'.ins, 0⟩ : Sp).add 6).ins = [0] from hins')]
    · show ((q1'.toks ++ [_]) ++ [_]).map tkey = _
      rw [List.map_append, List.map_append, u2]
      simp [tkey, kc, kl]
  · right
    have hlB : lineF B ⟨0, [], [0], 0⟩ = .error (2, z) := line_err (by rw [sB]; show toksF B (B.length + 1) (skp 0 B.length (B.drop 0)) _ = _; rw [iB, hpreB, j2])
    refine ⟨z, ?_⟩
    unfold splitL
    rw [lines_bad (by omega) (show ¬ 0 = B.length by omega) hlB]
theorem srcL_ge {St : Ps → Px Sm} : ∀ (f : Nat) (a : List Sm) (p : Ps) (m : List Sm) (q : Ps), srcL St f a p = some (.ok (m, q)) → a.length ≤ m.length ∧ (p.toks ≠ [] → a.length + 1 ≤ m.length)
  | 0, _, _, _, _, e => by cases e
  | f + 1, a, p, m, q, e => by
    unfold srcL at e
    cases hz : decide (p.toks.length = 0) with
    | true =>
      rw [hz] at e
      cases e
      exact ⟨Nat.le_refl _, fun h => absurd (List.length_eq_zero_iff.1 (of_decide_eq_true hz)) h⟩
    | false =>
      rw [hz] at e
      obtain ⟨_, e2⟩ := iff_some e
      rcases bnd_some e2 with ⟨x, _, hx⟩ | ⟨s, r, _, h2⟩
      · cases hx
      obtain ⟨_, h3⟩ := iff_some h2
      have h4 := (srcL_ge f _ r m q h3).1
      rw [List.length_append, List.length_singleton] at h4
      exact ⟨by omega, fun _ => h4⟩
/-- Where no sign goes on, an atom is the whole expression. -/
theorem thru {E : Ps → Px Ex} {p : Ps} {z : Except Ft (Ex × Ps)} (h1 : p.sees [[110, 111, 116]] = false) (h2 : p.sees [[45]] = false) (ha : atm E p = some z) (hz : ∀ e q, z = .ok (e, q) → ∀ l, q.sees l = false) : orE E p = some z := by
  have hps : pst E p = some z := by
    unfold pst
    rw [ha]
    match z, hz with
    | .error x, _ => rfl
    | .ok (e, q), hz =>
      show psL E (q.toks.length + 1) e q = _
      unfold psL
      rw [hz e q rfl, hz e q rfl]
      rfl
  have hun : una E p = some z := by
    unfold una unL
    rw [h2]
    exact hps
  have hj : ∀ (part : Ps → Px Ex) (l : List (List UInt8)), part p = some z → jn part l p = some z := fun part l hp => by
    unfold jn
    rw [hp]
    match z, hz with
    | .error x, _ => rfl
    | .ok (e, q), hz =>
      show jnL part l (q.toks.length + 1) e q = _
      unfold jnL
      rw [hz e q rfl]
      rfl
  have hcm : cmp E p = some z := by
    unfold cmp
    rw [show sum E p = some z from hj _ _ (hj _ _ hun)]
    match z, hz with
    | .error x, _ => rfl
    | .ok (e, q), hz =>
      show (bif q.sees _ then _ else _) = _
      rw [hz e q rfl]
      rfl
  have hng : neg E p = some z := by
    unfold neg ngL
    rw [h1]
    exact hcm
  exact hj _ _ (hj _ _ hng)
theorem sees4 {p : Ps} {t : Tk} {r : List Tk} (hp : p.toks = t :: r) (l : List (List UInt8)) : p.sees l = ((t.kind == 4 || t.kind == 5) && l.contains t.text) := by
  unfold Ps.sees isS
  rw [nx_of hp]
def advE : Except Ft (Ex × Ps) → Except Ft (Ex × Ps)
  | .error x => .error x
  | .ok (e, q) => .ok (e, q.adv)
def outE : Except Ft (Ex × Ps) → Except Ft (Ex × Ps)
  | .error x => .error x
  | .ok (e, q) => .ok (e, q.adv.out)
/-- A bracket, an expression, a bracket. -/
theorem ex_br {n : Nat} {p : Ps} {t : Tk} {r : List Tk} (hp : p.toks = t :: r) (ht : tkey t = kp) (hd : p.deep = 0) {z : Except Ft (Ex × Ps)} (he : exF n p.inn.adv = some z) (hz : ∀ e q, z = .ok (e, q) → ∃ c d s, q.toks = c :: d :: s ∧ tkey c = kc ∧ d.kind = 6 ∧ 1 ≤ q.deep) :
    exF (n + 1) p = some (outE z) := by
  have hk : t.kind = 4 := congrArg (·.1) ht
  have hx : t.text = [40] := congrArg (·.2.1) ht
  have hs : ∀ (q : Ps) l, q.toks = t :: r → q.sees l = l.contains [40] := fun q l hq => by rw [sees4 hq, hk, hx]; rfl
  have ha : atm (exF n) p.inn = some (advE z) := by
    have hn : p.inn.nx = t := nx_of (p := p.inn) hp
    unfold atm
    rw [hn, hk]
    show sgA (exF n) p.inn = _
    unfold sgA tkS
    rw [hs p.inn _ hp, hs p.inn _ hp, hs p.inn _ hp, hs p.inn _ hp, hs p.inn _ hp, hs p.inn _ hp]
    show bnd (exF n p.inn.adv) (fun e q => bnd (tkS [41] q) fun _ q => ok e q) = _
    rw [he]
    match z, hz with
    | .error x, _ => rfl
    | .ok (e, q), hz =>
      obtain ⟨c, d, s, hq, hc, _, _⟩ := hz e q rfl
      show bnd (tkS [41] q) _ = _
      have : tkS [41] q = ok () q.adv := by
        unfold tkS
        rw [sees4 hq, show c.kind = 4 from congrArg (·.1) hc, show c.text = [41] from congrArg (·.2.1) hc]
        rfl
      rw [this]
      rfl
  have hor := thru (E := exF n) (p := p.inn) (by rw [hs p.inn _ hp]; decide) (by rw [hs p.inn _ hp]; decide) ha (fun e q hq l => by
    match z, hz, hq with
    | .ok (e2, q2), hz, hq =>
      cases hq
      obtain ⟨c, d, s, hq3, _, hd6, _⟩ := hz _ _ rfl
      have : q2.adv.toks = d :: s := by show q2.toks.drop 1 = _; rw [hq3]; rfl
      rw [sees4 this, hd6]
      rfl)
  show bnd (rfD [[110, 111, 116], [45]] p) (fun _ q => inner (orE (exF n)) q) = _
  have hr : rfD [[110, 111, 116], [45]] p = ok () p := by
    unfold rfD guIf
    rw [hd, show ((0 : Nat) == 30) = false by decide, Bool.and_false]
    rfl
  rw [hr]
  show inner (orE (exF n)) p = _
  unfold inner
  rw [show decide (p.deep < 1000) = true by rw [hd]; decide, hor]
  match z, hz with
  | .error x, _ => rfl
  | .ok (e, q), hz =>
    obtain ⟨_, _, _, _, _, _, h1⟩ := hz e q rfl
    show iff (decide (1 ≤ q.adv.deep)) (ok e q.adv.out) = _
    rw [show decide (1 ≤ q.adv.deep) = true by rw [decide_eq_true_eq]; exact h1]
    rfl
theorem keys3 {l : List Tk} {a b c : Nat × List UInt8 × Nat} {u : List (Nat × List UInt8 × Nat)} (h : l.map tkey = [a, b] ++ u ++ [c]) : ∃ t1 t2 v t3, l = t1 :: t2 :: (v ++ [t3]) ∧ tkey t1 = a ∧ tkey t2 = b ∧ v.map tkey = u ∧ tkey t3 = c := by
  match l, h with
  | t1 :: t2 :: r, h =>
    simp only [List.map_cons, List.cons_append, List.nil_append, List.cons.injEq] at h
    obtain ⟨h1, h2, h3⟩ := h
    obtain ⟨v, w, e1, e2, e3⟩ := List.map_eq_append_iff.1 h3
    match w, e3 with
    | [t3], e3 => exact ⟨t1, t2, v, t3, by rw [e1], h1, h2, e2, by simpa using e3⟩
  | [], h => cases h
  | [x], h => simp at h
theorem keys5 {l : List Tk} {a b c d e : Nat × List UInt8 × Nat} {u : List (Nat × List UInt8 × Nat)} (h : l.map tkey = [a, b, c] ++ u ++ [d, e]) : ∃ t1 t2 t3 v t4 t5, l = t1 :: t2 :: t3 :: (v ++ [t4, t5]) ∧ tkey t1 = a ∧ tkey t2 = b ∧ tkey t3 = c ∧ v.map tkey = u ∧ tkey t4 = d ∧ tkey t5 = e := by
  match l, h with
  | t1 :: t2 :: t3 :: r, h =>
    simp only [List.map_cons, List.cons_append, List.nil_append, List.cons.injEq] at h
    obtain ⟨h1, h2, h2', h3⟩ := h
    obtain ⟨v, w, e1, e2, e3⟩ := List.map_eq_append_iff.1 h3
    match w, e3 with
    | [t4, t5], e3 =>
      simp only [List.map_cons, List.map_nil, List.cons.injEq] at e3
      exact ⟨t1, t2, t3, v, t4, t5, by rw [e1], h1, h2, h2', e2, e3.1, e3.2.1⟩
  | [], h => cases h
  | [x], h => simp at h
  | [x, y], h => simp at h
theorem bnd_ok {α β γ : Type} (m : Px α) (g : α → β) (f : β → Ps → Px γ) : bnd (bnd m fun e q => ok (g e) q) f = bnd m fun e q => f (g e) q := by
  match m with
  | none => rfl
  | some (.error x) => rfl
  | some (.ok (a, q)) => rfl
/-- What is set to x. -/
theorem set_stm {E : Ps → Px Ex} {B : Ps → Px (List Sm)} {p : Ps} {t1 t2 : Tk} {r : List Tk} (hp : p.toks = t1 :: t2 :: r) (h1 : tkey t1 = kx) (h2 : tkey t2 = ke) : stmF E B p = bnd (E p.adv.adv) fun e q => bnd (tkK 6 q) fun _ q => ok ⟨3, [120], [], e, [], []⟩ q := by
  have hk1 : t1.kind = 1 := congrArg (·.1) h1
  have hx1 : t1.text = [120] := congrArg (·.2.1) h1
  have hk2 : t2.kind = 4 := congrArg (·.1) h2
  have hx2 : t2.text = [61] := congrArg (·.2.1) h2
  have hs : ∀ l, p.sees l = false := fun l => by rw [sees4 hp, hk1]; rfl
  have hset : sSet p = true := by
    unfold sSet
    rw [hp]
    show (t1.kind == 1 && isS t2 [[61]]) = true
    unfold isS
    rw [hk1, hk2, hx2]
    rfl
  have ha : p.adv.toks = t2 :: r := by show p.toks.drop 1 = _; rw [hp]; rfl
  unfold stmF smlF
  rw [hs, hs, hs, hs, hs, hs, hset]
  show bnd (setS E p) _ = _
  unfold setS
  have e1 : tkK 1 p = ok t1 p.adv := by unfold tkK; rw [nx_of hp, hk1]; rfl
  have e2 : tkS [61] p.adv = ok () p.adv.adv := by unfold tkS; rw [sees4 ha, hk2, hx2]; rfl
  rw [e1]
  show bnd (bnd (tkS [61] p.adv) _) _ = _
  rw [e2]
  show bnd (bnd (E p.adv.adv) fun e q => ok (⟨3, t1.text, [], e, [], []⟩ : Sm) q) _ = _
  rw [bnd_ok (E p.adv.adv) (fun e => (⟨3, t1.text, [], e, [], []⟩ : Sm)), hx1]
theorem par_br {s : List UInt8} (hn : Pn s) {l : List Sm} (h : parT (120 :: 32 :: 61 :: 32 :: s) = .ok l) (h1 : l.length = 1) : parT (120 :: 32 :: 61 :: 32 :: 40 :: (s ++ [41])) = .ok l ∨ ∃ z, parT (120 :: 32 :: 61 :: 32 :: 40 :: (s ++ [41])) = .error (2, z) := by
  have hsp := fun l => split_br (s := s) hn (l := l)
  have hnA : (120 :: 32 :: 61 :: 32 :: s).length = s.length + 4 := rfl
  generalize hB : 120 :: 32 :: 61 :: 32 :: 40 :: (s ++ [41]) = B at hsp ⊢
  generalize 120 :: 32 :: 61 :: 32 :: s = A at hsp h hnA
  unfold parT at h
  split at h
  · cases h
  rename_i toks hs
  split at h
  · cases h
  · cases h
  rename_i l1 q hq
  cases h
  by_cases h6 : B.length ≤ 6000
  case neg =>
    refine .inr ⟨0, ?_⟩
    unfold parT splitA
    rw [if_neg h6]
  have hB6 : B.length = s.length + 6 := by rw [← hB]; simp
  have hs0 : splitL A = .ok toks := by
    have h6A : A.length ≤ 6000 := by omega
    unfold splitA at hs
    rwa [if_pos h6A] at hs
  rcases hsp _ hs0 with ⟨u, l', k1, k2, k3⟩ | ⟨z, k⟩
  case inr =>
    refine .inr ⟨z, ?_⟩
    unfold parT splitA
    rw [if_pos h6, k]
  have hsB : splitA B = .ok l' := by unfold splitA; rw [if_pos h6]; exact k2
  obtain ⟨t1, t2, v, t3, rfl, a1, a2, a3, a4⟩ := keys3 k1
  obtain ⟨b1, b2, b3, v', b4, b5, rfl, c1, c2, c3, c4, c5, c6⟩ := keys5 k3
  -- the statement without brackets
  unfold srcF srcL at hq
  rw [show decide ((⟨t1 :: t2 :: (v ++ [t3]), A.length, 0, false, 0⟩ : Ps).toks.length = 0) = false by simp, cond_false] at hq
  obtain ⟨_, e2⟩ := iff_some hq
  rcases bnd_some e2 with ⟨x, _, hx⟩ | ⟨sm, r, e3, e4⟩
  · cases hx
  obtain ⟨_, e5⟩ := iff_some e4
  have hr0 : r.toks = [] := by
    cases hz : r.toks with
    | nil => rfl
    | cons a b =>
      have := (srcL_ge _ _ _ _ _ e5).2 (by rw [hz]; simp)
      simp at this
      omega
  have hl : l = [sm] := by
    have h9 : ∀ f, srcL (stD (exF 40) 40) (f + 1) [sm] r = ok [sm] r := fun f => by unfold srcL; rw [hr0]; rfl
    have e6 : srcL (stD (exF 40) 40) ((v ++ [t3]).length + 1 + 1) ([] ++ [sm]) r = some (.ok (l, q)) := e5
    rw [List.nil_append, h9] at e6
    cases e6
    rfl
  have e7 : stmF (exF 40) (blF (stD (exF 40) 39)) ⟨t1 :: t2 :: (v ++ [t3]), A.length, 0, false, 0⟩ = some (.ok (sm, r)) := e3
  rw [set_stm (p := ⟨t1 :: t2 :: (v ++ [t3]), A.length, 0, false, 0⟩) rfl a1 a2] at e7
  rcases bnd_some e7 with ⟨x, _, hx⟩ | ⟨e, q2, e8, e9⟩
  · cases hx
  rcases bnd_some e9 with ⟨x, _, hx⟩ | ⟨d, r2, e10, e11⟩
  · cases hx
  cases e11
  have hq2 : q2.toks = [d] := by
    unfold tkK at e10
    cases hc : q2.nx.kind == 6 with
    | false => rw [hc] at e10; cases e10
    | true =>
      rw [hc] at e10
      cases e10
      have h12 : q2.toks.drop 1 = [] := hr0
      match hz : q2.toks with
      | [] => rw [nx_nil hz] at hc; cases hc
      | y :: ys =>
        rw [hz] at h12
        have : ys = [] := h12
        rw [this, nx_of hz]
  have h3k : t3.kind = 6 := congrArg (·.1) a4
  have h4k : b4.kind = 4 := congrArg (·.1) c5
  have h4x : b4.text = [41] := congrArg (·.2.1) c5
  have h5k : b5.kind = 6 := congrArg (·.1) c6
  have hBd : Bd [t3] [b4, b5] := fun l hl => by
    show isS t3 l = isS b4 l
    unfold isS
    rw [h3k, h4k, h4x]
    show false = l.contains [41]
    rw [eq_comm]
    simpa using hl
  generalize hp2 : (⟨t1 :: t2 :: (v ++ [t3]), A.length, 0, false, 0⟩ : Ps).adv.adv = p2 at e8
  have hR : Ry [t3] [b4, b5] 1 1 p2 (⟨b1 :: b2 :: b3 :: (v' ++ [b4, b5]), B.length, 0, false, 0⟩ : Ps).adv.adv.inn.adv := by
    rw [← hp2]
    exact ⟨⟨v, v', rfl, rfl, by rw [a3, c4]⟩, rfl, by show 0 + 1 ≤ 30; omega, Nat.le_refl _, rfl, rfl⟩
  have hd2 : q2.deep = 0 := by rw [(exF_mo 40 p2 e q2 e8).2, ← hp2]; rfl
  have hSo := exF_so hBd 40 39 1 p2 _ hR (by show 31 ≤ 39 + 1; decide) e q2 e8 (by rw [hq2]; exact Nat.le_refl 1)
  have hstart : ∀ z, exF 40 (⟨b1 :: b2 :: b3 :: (v' ++ [b4, b5]), B.length, 0, false, 0⟩ : Ps).adv.adv = some z → stD (exF 40) 40 ⟨b1 :: b2 :: b3 :: (v' ++ [b4, b5]), B.length, 0, false, 0⟩ = bnd (some z) fun e q => bnd (tkK 6 q) fun _ q => ok ⟨3, [120], [], e, [], []⟩ q := fun z hz => by
    have := set_stm (E := exF 40) (B := blF (stD (exF 40) 39)) (p := ⟨b1 :: b2 :: b3 :: (v' ++ [b4, b5]), B.length, 0, false, 0⟩) rfl c1 c2
    rw [hz] at this
    exact this
  rcases hSo with ⟨q', f1, f2⟩ | ⟨_, x, f1⟩
  · left
    have hq' : q'.toks = [b4, b5] := by
      obtain ⟨y, y', g1, g2, g3⟩ := f2.cut
      rw [hq2] at g1
      have hy : y = [] := by
        have := congrArg List.length g1
        rw [List.length_append] at this
        simp at this
        exact this
      subst hy
      have hy' : y' = [] := by
        cases y' with
        | nil => rfl
        | cons a b => cases g3
      rw [g2, hy']
      rfl
    have hx := ex_br (n := 39) (p := (⟨b1 :: b2 :: b3 :: (v' ++ [b4, b5]), B.length, 0, false, 0⟩ : Ps).adv.adv) (t := b3) (r := v' ++ [b4, b5]) rfl c3 rfl f1 (fun e2 q3 h9 => by cases h9; exact ⟨b4, b5, [], hq', c5, h5k, by rw [f2.deep, hd2]; decide⟩)
    have hst := hstart _ hx
    have hto : q'.adv.out.toks = [b5] := by show q'.toks.drop 1 = _; rw [hq']; rfl
    have h12 : tkK 6 q'.adv.out = ok b5 q'.adv.out.adv := by unfold tkK; rw [nx_of hto, h5k]; rfl
    have hst2 : stD (exF 40) 40 ⟨b1 :: b2 :: b3 :: (v' ++ [b4, b5]), B.length, 0, false, 0⟩ = ok ⟨3, [120], [], e, [], []⟩ q'.adv.out.adv := by
      rw [hst]
      show bnd (tkK 6 q'.adv.out) _ = _
      rw [h12]
      rfl
    have hend : q'.adv.out.adv.toks = [] := by show q'.adv.out.toks.drop 1 = _; rw [hto]; rfl
    unfold parT
    rw [hsB]
    have hsrc : srcF (exF 40) ⟨b1 :: b2 :: b3 :: (v' ++ [b4, b5]), B.length, 0, false, 0⟩ = ok [⟨3, [120], [], e, [], []⟩] q'.adv.out.adv := by
      unfold srcF srcL
      rw [show decide ((⟨b1 :: b2 :: b3 :: (v' ++ [b4, b5]), B.length, 0, false, 0⟩ : Ps).toks.length = 0) = false by simp, cond_false]
      show iff true (bnd (stD (exF 40) 40 _) _) = _
      rw [hst2]
      show iff (less q'.adv.out.adv _) _ = _
      unfold less
      rw [hend]
      show srcL _ ((v' ++ [b4, b5]).length + 1 + 1 + 1) _ _ = _
      unfold srcL
      rw [hend]
      rfl
    show (match srcF (exF 40) ⟨b1 :: b2 :: b3 :: (v' ++ [b4, b5]), B.length, 0, false, 0⟩ with | none => _ | some (.error x) => _ | some (.ok (l, _)) => _) = _
    rw [hsrc, hl]
    rfl
  · right
    have hx := ex_br (n := 39) (p := (⟨b1 :: b2 :: b3 :: (v' ++ [b4, b5]), B.length, 0, false, 0⟩ : Ps).adv.adv) (t := b3) (r := v' ++ [b4, b5]) rfl c3 rfl f1 (fun e2 q3 h9 => by cases h9)
    have hst := hstart _ hx
    refine ⟨x, ?_⟩
    unfold parT
    rw [hsB]
    have hsrc : srcF (exF 40) ⟨b1 :: b2 :: b3 :: (v' ++ [b4, b5]), B.length, 0, false, 0⟩ = some (.error (2, x)) := by
      unfold srcF srcL
      rw [show decide ((⟨b1 :: b2 :: b3 :: (v' ++ [b4, b5]), B.length, 0, false, 0⟩ : Ps).toks.length = 0) = false by simp, cond_false]
      show iff true (bnd (stD (exF 40) 40 _) _) = _
      rw [hst]
      rfl
    show (match srcF (exF 40) ⟨b1 :: b2 :: b3 :: (v' ++ [b4, b5]), B.length, 0, false, 0⟩ with | none => _ | some (.error x) => _ | some (.ok (l, _)) => _) = _
    rw [hsrc]
end Go.Proofs.YtcaeeackccgclaaGreatDoor
