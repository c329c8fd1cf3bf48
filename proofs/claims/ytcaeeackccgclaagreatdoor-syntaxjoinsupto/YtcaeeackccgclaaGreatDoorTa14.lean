/- A source behind another one: its tokens are those of both (whole). -/
import Derived.Test.YtcaeeackccgclaaGreatDoorTa13
namespace Go.Proofs.YtcaeeackccgclaaGreatDoor
open Go.RowKit Go.Shelf

theorem inok_ps {p : Sp} (h : Lw.Ps p.ins) : InOk p := by
  obtain ⟨ys, e, hy⟩ := h
  exact ⟨by rw [e]; simp, by rw [e]; simp⟩
theorem come0_ins {p : Sp} (h : Lw.Ps p.ins) : (p.come 0).ins = [0] := by
  have h1 := Lw.come_zero h
  have h2 := (come_ok (inok_ps h) 0).2.2.1.bot
  match hp : (p.come 0).ins, h1 with
  | [a], _ =>
    rw [hp] at h2
    simp at h2
    rw [h2]
theorem come0_self {p : Sp} (h : p.ins = [0]) : p.come 0 = p := by
  have : p.top = 0 := by unfold Sp.top; rw [h]; rfl
  have h2 := Lw.come_same p
  rwa [this] at h2
theorem rt_self (L : List UInt8) (p : Sp) (hp : p.pos ≤ L.length) : Rt (p.toks.map tkey) (p.toks.map tkey) [] 0 L L p p :=
  ⟨(List.append_nil _).symm, hp, rfl, rfl, [], (List.append_nil _).symm, (List.append_nil _).symm⟩
/-- Tokens that were there stay ahead. -/
theorem toksF_pre {L : List UInt8} {f i : Nat} {p q : Sp} (hk : SpOk L p 1) (h : toksF L f i p = .ok q) (ho : q.opn = 0) : ∃ u, q.toks.map tkey = p.toks.map tkey ++ u := by
  have hkq := (toksF_ok L _ _ _ _ hk h).1
  rcases toksF_rt (sk_nl (.inl rfl)) (.inl rfl) (fun _ _ h => h) f i p q hk trivial h ho (L.length + 1) p (rt_self L p hk.pos) (by omega) with ⟨f2, i2, q', j1, _, j3, j4⟩ | ⟨j1, _⟩
  · obtain ⟨u, h1, _⟩ := j4.toks
    exact ⟨u, h1⟩
  · exact absurd rfl j1
theorem linesF_pre {L : List UInt8} {f : Nat} {p q : Sp} (hk : SpOk L p 1) (h : linesF L f p = .ok q) (ho : p.opn = 0) : ∃ u, q.toks.map tkey = p.toks.map tkey ++ u := by
  obtain ⟨q', _, j4⟩ := linesF_rt f p q hk ho h (L.length + 1) p (rt_self L p hk.pos) (by omega)
  obtain ⟨u, h1, _⟩ := j4.toks
  exact ⟨u, h1⟩
/-- The first token's kind. -/
def hdK (l : List (Nat × List UInt8 × Nat)) : Nat := match l with
  | [] => 0
  | t :: _ => t.1
theorem refu_late {L L' : List UInt8} {p p' : Sp} {i : Nat} (hr : L'.drop p'.pos = L.drop p.pos) (ho : p.opn = 0) (ho' : p'.opn = 0) (hi : InOk p') (h : refu L p i = 0) : refu L' p' 0 = 0 := by
  have h0 : 0 ∈ p'.ins := List.mem_of_getLast? hi.bot
  unfold refu at h ⊢
  rw [hr, ho']
  simp only [ho] at h ⊢
  split at h
  · cases h
  rename_i h1
  rw [if_neg h1]
  split at h
  · cases h
  split at h
  · cases h
  rename_i h3
  rw [if_neg (fun e => e.2 h0), if_neg h3, if_neg (by simp)]
/-- Behind another source: the first token of this one comes at the line's begin. -/
theorem late {t B : List UInt8} : ∀ (f : Nat) (p q : Sp), SpOk t p 1 → p.toks = [] → p.ins = [0] → p.opn = 0 → linesF t f p = .ok q → hdK (q.toks.map tkey) ≠ 7 → ∀ (f' : Nat) (P : Sp), P.opn = 0 → Lw.Ps P.ins → B.drop P.pos = t.drop p.pos → P.pos ≤ B.length → B.length - P.pos < f' →
    ∃ q', linesF B f' P = .ok q' ∧ q'.toks.map tkey = (P.come 0).toks.map tkey ++ q.toks.map tkey
  | 0, _, _, _, _, _, _, h => by cases h
  | f + 1, p, q, hk, ht, hin, ho, h => by
    intro h7 f' P hoP hPs hr hpos hf'
    have hkp := hk.pos
    have hln : B.length - P.pos = t.length - p.pos := by
      have := congrArg List.length hr
      rwa [List.length_drop, List.length_drop] at this
    have hP := inok_ps hPs
    unfold linesF at h
    by_cases hp : p.pos = t.length
    · rw [if_pos hp] at h
      cases h
      refine ⟨_, lines_end (by omega) (by omega), ?_⟩
      rw [come0_self hin, ht]
      simp
    rw [if_neg hp] at h
    have hpB : ¬ P.pos = B.length := by omega
    split at h
    · cases h
    rename_i r hline
    have hk1 := spok_skip hk
    obtain ⟨hrk, hrp⟩ := lineF_ok hk hline
    have hro : r.opn = 0 := by
      obtain ⟨_, _, _, e, _⟩ := lineF_rt (.inl rfl) hk ho hline (rt_self t p hkp)
      exact e
    -- how much is skipped
    have hs1 : skp P.opn B.length (B.drop P.pos) = skp p.opn t.length (t.drop p.pos) := by
      rw [hr, ho, hoP]
      exact skp_fuel _ _ _ _ (by rw [List.length_drop]; omega) (by rw [List.length_drop]; omega)
    generalize hi : skp p.opn t.length (t.drop p.pos) = i at hs1
    have hps : (p.skip t).pos = p.pos + i := by show p.pos + _ = _; rw [hi]
    have hPsk : (P.skip B).pos = P.pos + i := by show P.pos + _ = _; rw [hs1]
    have hskle := hk1.pos
    have hrs : B.drop (P.skip B).pos = t.drop (p.skip t).pos := by rw [hPsk, hps, ← List.drop_drop, ← List.drop_drop, hr]
    have hline2 := hline
    unfold lineF at hline
    rw [hi] at hline
    split at hline
    · cases hline
    rename_i q1 hq1
    split at hline
    · cases hline
    rename_i hno
    have hq1o : q1.opn = 0 := by omega
    by_cases he : endL t (p.skip t) = true
    · -- a line without a token
      have e1 : q1 = p.skip t := by
        rw [toks_end (by omega) he] at hq1
        cases hq1
        rfl
      subst e1
      rw [if_neg (show ¬ p.toks.length < (p.skip t).toks.length from Nat.lt_irrefl _)] at hline
      cases hline
      have heB : endL B (P.skip B) = true := by
        unfold endL at he ⊢
        rw [hrs]
        rcases (Bool.or_eq_true _ _).mp he with h1 | h1
        · rw [decide_eq_true_eq] at h1
          rw [show decide ((P.skip B).pos = B.length) = true by rw [decide_eq_true_eq]; omega]
          rfl
        · rw [h1, Bool.or_true]
      have hlB : lineF B P = .ok (P.skip B) := by
        rw [line_ok (q := P.skip B) (toks_end (by omega) heB)]
        rw [show (P.skip B).opn = 0 from hoP, if_neg (Nat.lt_irrefl 0), if_neg (show ¬ P.toks.length < (P.skip B).toks.length from Nat.lt_irrefl _)]
      have hkey : ((P.skip B).come 0).toks.map tkey = (P.come 0).toks.map tkey := come0_keys rfl rfl
      by_cases hre : (p.skip t).pos = t.length
      · rw [if_pos hre] at h
        cases h
        have hB : (P.skip B).pos = B.length := by omega
        refine ⟨_, (lines_last (by omega) hpB hlB hB).trans (lines_end (by omega) hB), ?_⟩
        rw [hkey, come0_self (show (p.skip t).ins = [0] from hin), show (p.skip t).toks = [] from ht]
        simp
      · rw [if_neg hre] at h
        have hB : ¬ (P.skip B).pos = B.length := by omega
        obtain ⟨q', k1, k2⟩ := late f { p.skip t with pos := (p.skip t).pos + 1 } q (spok_step (q := p.skip t) ⟨hk1.pos, hk1.ins, hk1.i31, hk1.o30, Nat.le_succ_of_le hk1.cnt⟩ (by omega)) ht hin ho h h7 (f' - 1) { P.skip B with pos := (P.skip B).pos + 1 } hoP hPs (by show B.drop ((P.skip B).pos + 1) = t.drop ((p.skip t).pos + 1); rw [← List.drop_drop, ← List.drop_drop, hrs]) (by show (P.skip B).pos + 1 ≤ _; omega) (by show B.length - ((P.skip B).pos + 1) < f' - 1; omega)
        refine ⟨q', (lines_go (by omega) hpB hlB hB).trans k1, ?_⟩
        rw [k2, show (({ P.skip B with pos := (P.skip B).pos + 1 } : Sp).come 0).toks.map tkey = (P.come 0).toks.map tkey from come0_keys rfl rfl]
    · have he0 : endL t (p.skip t) = false := by simpa using he
      have hp2 : (p.skip t).pos < t.length := by
        unfold endL at he
        simp only [Bool.or_eq_true, decide_eq_true_eq, not_or] at he
        omega
      have hr0 : refu t (p.skip t) i = 0 := by
        by_cases hz : refu t (p.skip t) i = 0
        · exact hz
        · rw [toks_ref (by omega) he0 hz] at hq1; cases hq1
      -- the first token
      have htk : ∃ t1, tok1 t ((p.skip t).come i) = .ok t1 := by
        cases hz : tok1 t ((p.skip t).come i) with
        | error x => rw [toks_bad (by omega) he0 hr0 hz] at hq1; cases hq1
        | ok t1 => exact ⟨t1, rfl⟩
      obtain ⟨t1, ht1⟩ := htk
      obtain ⟨a, b⟩ := turn_ok hk1 hp2 hr0 ht1
      have hq1b := hq1
      rw [toks_go (by omega) he0 hr0 ht1] at hq1
      obtain ⟨c1, c2, _⟩ := come_ok hk1.ins i
      obtain ⟨_, n1, tk, _, _, m2, _, m4, _, _, _, _, _⟩ := tok1_rt (x := []) (L' := t) (p' := (p.skip t).come i) (.inl rfl) (List.append_nil _).symm (by rw [c1]; exact hp2) ht1
      obtain ⟨u1, hu1⟩ := toksF_pre a hq1 hq1o
      have hu1' : q1.toks.map tkey = (((p.skip t).come i).toks.map tkey ++ [tkey tk]) ++ u1 := by rw [hu1, show (t1.skip t).toks = t1.toks from rfl, m4, List.map_append]; rfl
      have hlen1 : 0 < q1.toks.length := by
        have := congrArg List.length hu1'
        simp at this
        omega
      rw [if_pos (show p.toks.length < q1.toks.length by rw [ht]; exact hlen1)] at hline
      cases hline
      have hkq1 := (toksF_ok t _ _ _ _ a hq1).1
      -- this line begins where the source's lines begin
      have hpre : ∃ u2, q.toks.map tkey = q1.toks.map tkey ++ u2 := by
        have e6 : (q1.add 6).toks.map tkey = q1.toks.map tkey ++ [(6, [], 0)] := by show (q1.toks ++ [_]).map tkey = _; rw [List.map_append]; rfl
        by_cases hre : (q1.add 6).pos = t.length
        · rw [if_pos hre] at h
          cases h
          obtain ⟨u, w1, _⟩ := ((rt_self t (q1.add 6) hkq1.pos).come 0).toks
          exact ⟨_, by rw [w1, e6, List.append_assoc]⟩
        · rw [if_neg hre] at h
          have hqp : q1.pos ≤ t.length := hkq1.pos
          have hne : ¬ q1.pos = t.length := hre
          obtain ⟨u, w1⟩ := linesF_pre (spok_step hrk (by show q1.pos < _; omega)) h hro
          exact ⟨_, by rw [w1]; show (q1.add 6).toks.map tkey ++ u = _; rw [e6, List.append_assoc]⟩
      have hi0 : i = 0 := by
        rcases Nat.eq_zero_or_pos i with e | e
        · exact e
        · exfalso
          apply h7
          obtain ⟨u2, hu2⟩ := hpre
          have htop : (p.skip t).top = 0 := by unfold Sp.top; rw [show (p.skip t).ins = [0] from hin]; rfl
          have hcm : ((p.skip t).come i).toks.map tkey = [(7, [], 0)] := by
            have e1 : (p.skip t).come i = ({ p.skip t with ins := i :: (p.skip t).ins } : Sp).add 7 := by
              show outF i _ _ = _
              rw [if_pos (by rw [htop]; exact e)]
              exact outF_stop i _ _ (by show ¬ i < i; exact Nat.lt_irrefl _)
            rw [e1]
            show ((p.skip t).toks ++ [_]).map tkey = _
            rw [show (p.skip t).toks = [] from ht]
            rfl
          rw [hu2, hu1', hcm]
          rfl
      subst hi0
      have hcs : (p.skip t).come 0 = p.skip t := come0_self hin
      have heB : endL B (P.skip B) = false := by
        unfold endL at he0 ⊢
        rw [hrs]
        rw [Bool.or_eq_false_iff] at he0 ⊢
        exact ⟨by rw [decide_eq_false_iff_not]; omega, he0.2⟩
      have hPskI : Lw.Ps (P.skip B).ins := hPs
      have hQi := come0_ins hPskI
      obtain ⟨d1, d2, d3, _⟩ := come_ok (inok_ps hPskI) 0
      have hrB : refu B (P.skip B) 0 = 0 := refu_late hrs ho hoP (inok_ps hPskI) hr0
      have hQr : B.drop ((P.skip B).come 0).pos = t.drop (p.skip t).pos := by rw [d1]; exact hrs
      have hQo : ((P.skip B).come 0).opn = 0 := by rw [d2]; exact hoP
      have hrQ : refu B ((P.skip B).come 0) 0 = 0 := refu_late hQr ho hQo d3 hr0
      have hRt : Rt [] (((P.skip B).come 0).toks.map tkey) [] 0 t B (p.skip t) ((P.skip B).come 0) :=
        ⟨by rw [hQr, List.append_nil], by rw [d1]; omega, by rw [hQi]; exact hin.symm, by rw [hQo]; exact ho.symm, [], by rw [show (p.skip t).toks = [] from ht]; rfl, (List.append_nil _).symm⟩
      have heQ : endL B ((P.skip B).come 0) = false := by unfold endL at heB ⊢; rw [d1]; exact heB
      rcases toksF_rt (sk_nl (.inl rfl)) (.inl rfl) (fun _ _ h => h) _ 0 (p.skip t) q1 hk1 trivial hq1b hq1o (B.length + 1) ((P.skip B).come 0) hRt (by omega) with ⟨f2, i2, q1', j1, _, j3, j4⟩ | ⟨j1, _⟩
      · have hen := toksF_end _ _ _ _ hq1
        have hen' := j4.ends (.inl rfl) hkq1.pos hen
        rw [toks_end j1 hen'] at j3
        -- the same from the line's begin
        have hsame : toksF B (B.length + 1) 0 (P.skip B) = .ok q1' := by
          rw [← j3]
          unfold toksF
          rw [heB, heQ, hrB, hrQ, come0_self hQi]
          simp only [Bool.false_eq_true, if_false, ne_eq, not_true_eq_false]
        have hq1'o : q1'.opn = 0 := by rw [j4.opn, hq1o]
        obtain ⟨u, w1, w2⟩ := j4.toks
        have hcl := (come_ok (inok_ps hPskI) 0).2.2.2
        have hTl : P.toks.length < q1'.toks.length := by
          have e1 := congrArg List.length w1
          have e2 := congrArg List.length w2
          rw [List.length_map, List.nil_append] at e1
          rw [List.length_map, List.length_append, List.length_map] at e2
          have e3 : P.toks.length ≤ ((P.skip B).come 0).toks.length := by
            obtain ⟨u, w1, _⟩ := ((rt_self B (P.skip B) (by omega)).come 0).toks
            have e4 := congrArg List.length w1
            rw [List.length_map, List.length_append, List.length_map] at e4
            have e5 : (P.skip B).toks.length = P.toks.length := rfl
            omega
          omega
        have hlB : lineF B P = .ok (q1'.add 6) := by
          rw [line_ok (q := q1') (by rw [hs1]; exact hsame), hq1'o, if_neg (Nat.lt_irrefl 0), if_pos hTl]
        have hRr := j4.add 6
        have hkey : ((P.skip B).come 0).toks.map tkey = (P.come 0).toks.map tkey := come0_keys rfl rfl
        have hll := hRr.len
        have hlp := hRr.pos
        have hrp2 : (q1.add 6).pos ≤ t.length := hkq1.pos
        have hfin : ∀ q2 q2', q.toks = q2.toks → Rt [] (((P.skip B).come 0).toks.map tkey) [] 0 t B q2 q2' → q2'.toks.map tkey = (P.come 0).toks.map tkey ++ q.toks.map tkey := fun q2 q2' e hR => by
          obtain ⟨u, w1, w2⟩ := hR.toks
          rw [w2, hkey, e, w1, List.nil_append]
        by_cases hre : (q1.add 6).pos = t.length
        · rw [if_pos hre] at h
          cases h
          have hB : (q1'.add 6).pos = B.length := by simp at hll; omega
          exact ⟨_, (lines_last (by omega) hpB hlB hB).trans (lines_end (by omega) hB), hfin _ _ rfl (hRr.come 0)⟩
        · rw [if_neg hre] at h
          have hB : ¬ (q1'.add 6).pos = B.length := by simp at hll; omega
          obtain ⟨q', k1, k2⟩ := linesF_rt f { q1.add 6 with pos := (q1.add 6).pos + 1 } q (spok_step hrk (by omega)) hro h (f' - 1) { q1'.add 6 with pos := (q1'.add 6).pos + 1 } (hRr.step (by omega)) (by show B.length - ((q1'.add 6).pos + 1) < f' - 1; simp at hll; omega)
          exact ⟨q', (lines_go (by omega) hpB hlB hB).trans k1, hfin _ _ rfl k2⟩
      · exact absurd rfl j1
/-- The tokens of a source behind another one are those of both. -/
theorem split_join {s t : List UInt8} {ls lt : List Tk} (hs : splitL s = .ok ls) (ht : splitL t = .ok lt) (h7 : hdK (lt.map tkey) ≠ 7) : ∃ lb, splitL (s ++ 10 :: t) = .ok lb ∧ lb.map tkey = ls.map tkey ++ lt.map tkey := by
  have k0 : ∀ L : List UInt8, SpOk L ⟨0, [], [0], 0⟩ 1 := fun L => ⟨Nat.zero_le _, ⟨by simp, rfl⟩, by decide, by decide, by decide⟩
  unfold splitL at hs ht ⊢
  split at hs
  · cases hs
  rename_i qs hqs
  cases hs
  split at ht
  · cases ht
  rename_i qt hqt
  cases ht
  have hR : Rt [] [] (10 :: t) 0 s (s ++ 10 :: t) ⟨0, [], [0], 0⟩ ⟨0, [], [0], 0⟩ := ⟨rfl, Nat.zero_le _, rfl, rfl, [], rfl, rfl⟩
  obtain ⟨q0, q0', f2, j1, j2, j3, j4, j5, j6, j7, j8⟩ := linesF_one (s.length + 1) ⟨0, [], [0], 0⟩ qs (k0 s) ⟨fun i h => (by cases h), by rfl, Nat.zero_le _, ⟨[], rfl, fun y h => by cases h⟩⟩ rfl rfl hqs ((s ++ 10 :: t).length + 1) ⟨0, [], [0], 0⟩ hR (by omega)
  have hl := j6.len
  have hps := j6.pos
  have hB : (s ++ 10 :: t).length = s.length + (t.length + 1) := by rw [List.length_append, List.length_cons]
  rw [List.length_cons] at hl
  obtain ⟨q', k1, k2⟩ := late (t := t) (B := s ++ 10 :: t) (t.length + 1) ⟨0, [], [0], 0⟩ qt (k0 t) rfl rfl rfl hqt h7 f2 { q0' with pos := q0'.pos + 1 } (by show q0'.opn = 0; rw [j6.opn, j3]) (by show Lw.Ps q0'.ins; rw [j6.ins]; exact j4) (by
      show (s ++ 10 :: t).drop (q0'.pos + 1) = t
      rw [← List.drop_drop, j6.rest, j2, List.drop_length]
      rfl) (by show q0'.pos + 1 ≤ _; omega) j7
  rw [j8, k1]
  refine ⟨_, rfl, ?_⟩
  rw [k2, j1]
  congr 1
  obtain ⟨u, w1, w2⟩ := j6.toks
  exact come0_keys (p := q0) (p' := { q0' with pos := q0'.pos + 1 }) j6.ins (by show q0'.toks.map tkey = q0.toks.map tkey; rw [w1, w2])
end Go.Proofs.YtcaeeackccgclaaGreatDoor

/- Two sources, one behind the other, have the statements of both. -/
namespace Go.Proofs.YtcaeeackccgclaaGreatDoor
open Go.RowKit Go.Shelf

/-- Whether one is in a definition stays as it was. -/
def Ki {α : Type} (p : Ps) (m : Px α) : Prop := ∀ a q, m = some (.ok (a, q)) → q.inD = p.inD
section
variable {α β : Type} {k : Nat} {p : Ps}
theorem ki_tt {m : Px α} {J : α → Ps → Prop} (h : Tt k p m J) : Ki p m := fun a q e => by
  obtain ⟨z, hz, h2⟩ := h
  rw [hz] at e
  exact (h2 a q (Option.some.inj e)).1.inD
theorem ki_bnd {m : Px α} {f : α → Ps → Px β} {J : α → Ps → Prop} (hT : Ts k p m J) (h : Ki p m) (g : ∀ a q, SI q → q.blk = p.blk → q.inD = p.inD → Ki q (f a q)) : Ki p (bnd m f) := fun b r e => by
  rcases bnd_some e with ⟨x, _, hx⟩ | ⟨a, q, h1, h2⟩
  · cases hx
  · obtain ⟨z, hz, h3⟩ := hT
    have h1' := h1
    rw [hz] at h1'
    obtain ⟨hsi, hb, _, _⟩ := h3 a q (Option.some.inj h1')
    have hi := h a q h1
    exact (g a q hsi hb hi b r h2).trans hi
theorem ki_ok (a : α) : Ki p (ok a p) := fun b q e => by cases e; rfl
theorem ki_gu (n : Nat) : Ki p (gu p n : Px α) := fun b q e => by cases e
theorem ki_iff {b : Bool} {m : Px α} (h : Ki p m) : Ki p (iff b m) := fun a q e => h a q (iff_some e).2
theorem tkS_ki (x : List UInt8) (p : Ps) : Ki p (tkS x p) := ki_tt (tkS_tt x p)
theorem tkK_ki (n : Nat) (p : Ps) : Ki p (tkK n p) := fun a q e => by
  unfold tkK at e
  cases hc : p.nx.kind == n with
  | false => rw [hc] at e; cases e
  | true => rw [hc] at e; cases e; rfl
theorem guIf_ki (b : Bool) (c : Nat) (p : Ps) : Ki p (guIf b c p) := ki_tt (guIf_tt b c p)
end
section
variable {E : Ps → Px Ex}
theorem givS_ki (hE : ∀ p, SI p → Ts 1 p (E p) Any) (hK : ∀ p, SI p → Ki p (E p)) {p : Ps} (hp : SI p) : Ki p (givS E p) := by
  unfold givS
  refine ki_bnd (guIf_ts _ 4 hp) (guIf_ki _ 4 p) fun _ q hq _ _ => ?_
  refine ki_bnd (tkS_ts _ hq) (tkS_ki _ q) fun _ q hq _ _ => ?_
  cases q.nx.kind == 6 with
  | true => exact ki_ok _
  | false => exact ki_bnd (hE q hq) (hK q hq) fun e q _ _ _ => ki_ok _
theorem setS_ki (hE : ∀ p, SI p → Ts 1 p (E p) Any) (hK : ∀ p, SI p → Ki p (E p)) {p : Ps} (hp : SI p) : Ki p (setS E p) := by
  unfold setS
  refine ki_bnd (tkK_ts 1 hp (by decide) (by decide) (by decide)) (tkK_ki 1 p) fun t q hq _ _ => ?_
  refine ki_bnd (tkS_ts _ hq) (tkS_ki _ q) fun _ q hq _ _ => ?_
  exact ki_bnd (hE q hq) (hK q hq) fun e q _ _ _ => ki_ok _
theorem ldL_ki : ∀ (f : Nat) (l : List (List UInt8)) (p : Ps), SI p → Ki p (ldL f l p)
  | 0, _, _, _ => fun a q e => by cases e
  | f + 1, l, p, hp => by
    unfold ldL
    cases hc : decide (0 < l.length) && p.sees [[41]] with
    | true => exact ki_ok l
    | false =>
      refine ki_iff (ki_bnd (tkS_ts _ hp) (tkS_ki _ p) fun _ q hq _ _ => ?_)
      refine ki_bnd (guIf_ts _ 1 hq) (guIf_ki _ 1 q) fun _ r hr _ _ => ?_
      exact ki_bnd (tkK_ts 3 hr (by decide) (by decide) (by decide)) (tkK_ki 3 r) fun t s hs _ _ => ki_iff (ldL_ki f _ s hs)
theorem loadS_ki {p : Ps} (hp : SI p) : Ki p (loadS p) := by
  unfold loadS
  refine ki_bnd (guIf_ts _ 4 hp) (guIf_ki _ 4 p) fun _ q hq _ _ => ?_
  refine ki_bnd (tkS_ts _ hq) (tkS_ki _ q) fun _ q hq _ _ => ?_
  refine ki_bnd (tkS_ts _ hq) (tkS_ki _ q) fun _ q hq _ _ => ?_
  refine ki_bnd (tkK_ts 3 hq (by decide) (by decide) (by decide)) (tkK_ki 3 q) fun t q hq _ _ => ?_
  refine ki_bnd (ldL_ts _ [] q hq (by have := hq.few; simp; omega) (Nat.lt_succ_self _)) (ldL_ki _ [] q hq) fun l q hq _ _ => ?_
  exact ki_bnd (tkS_ts _ hq) (tkS_ki _ q) fun _ q _ _ _ => ki_ok _
theorem smlF_ki (hE : ∀ p, SI p → Ts 1 p (E p) Any) (hK : ∀ p, SI p → Ki p (E p)) {p : Ps} (hp : SI p) : Ki p (smlF E p) := by
  unfold smlF
  cases h0 : p.sees [[112, 97, 115, 115]] with
  | true => exact fun a q e => by cases e; rfl
  | false =>
  cases h1 : p.sees [[114, 101, 116, 117, 114, 110]] with
  | true => exact givS_ki hE hK hp
  | false =>
  cases h2 : p.sees [[108, 111, 97, 100]] with
  | true => exact loadS_ki hp
  | false =>
  cases h3 : sSet p with
  | true => exact setS_ki hE hK hp
  | false => exact ki_bnd (hE p hp) (hK p hp) fun e q _ _ _ => ki_ok _
end
/-- One is in a definition in a block alone. -/
def Dz (p : Ps) : Prop := p.blk = 0 → p.inD = false
theorem blL_ki {St : Ps → Px Sm} {b : Nat} (hb0 : b ≠ 0) (hT : ∀ p, SI p → p.blk = b → Ts 1 p (St p) Any) (hSt : ∀ p, SI p → p.blk = b → Ki p (St p)) : ∀ (f : Nat) (l : List Sm) (p : Ps), SI p → p.blk = b → Ki p (blL St f l p)
  | 0, _, _, _, _ => fun a q e => by cases e
  | f + 1, l, p, hp, hb => by
    unfold blL
    cases p.nx.kind == 8 with
    | true => exact ki_ok l
    | false => exact ki_iff (ki_bnd (hT p hp hb) (hSt p hp hb) fun s q hq hqb _ => ki_iff (blL_ki hb0 hT hSt f _ q hq (hqb.trans hb)))
theorem blF_ki {St : Ps → Px Sm} {p : Ps} (hp : SI p) (hT : ∀ q, SI q → q.blk = p.blk + 1 → Ts 1 q (St q) Any) (hSt : ∀ q, SI q → q.blk = p.blk + 1 → Ki q (St q)) : Ki p (blF St p) := by
  unfold blF
  refine ki_bnd (tkS_ts _ hp) (tkS_ki _ p) fun _ q hq hqb _ => ?_
  refine ki_bnd (tkK_ts 6 hq (by decide) (by decide) (by decide)) (tkK_ki 6 q) fun _ r hr hrb _ => ?_
  intro b z e
  rcases bnd_some e with ⟨x, _, hx⟩ | ⟨t7, r2, h1, h2⟩
  · cases hx
  have hk7 : r.nx.kind = 7 := by
    unfold tkK at h1
    cases hc : r.nx.kind == 7 with
    | false => rw [hc] at h1; cases h1
    | true => simpa using hc
  have e7 : tkK 7 r = ok r.nx r.adv := by unfold tkK; rw [hk7]; rfl
  rw [e7] at h1
  cases h1
  obtain ⟨hB, _⟩ := si_bin hr hk7
  obtain ⟨_, h3⟩ := iff_some h2
  rcases bnd_some h3 with ⟨x, _, hx⟩ | ⟨l, q2, h4, h5⟩
  · cases hx
  obtain ⟨_, h7⟩ := iff_some h5
  rcases bnd_some h7 with ⟨x, _, hx⟩ | ⟨t8, q3, h8, h9⟩
  · cases hx
  cases h9
  have hbb : r.adv.bin.blk = p.blk + 1 := by show r.blk + 1 = _; rw [hrb, hqb]
  have i1 : q2.inD = r.inD := blL_ki (Nat.succ_ne_zero _) hT hSt _ [] r.adv.bin hB hbb _ q2 h4
  have i2 : z.inD = q2.inD := tkK_ki 8 q2.bout _ z h8
  exact i2.trans i1
section
variable {E : Ps → Px Ex} {B : Ps → Px (List Sm)}
theorem stmF_ki (hE : ∀ p, SI p → Ts 1 p (E p) Any) (hK : ∀ p, SI p → Ki p (E p)) {p : Ps} (hp : SI p) (hz : Dz p) (hBT : ∀ q, SI q → q.blk = p.blk → Ts 1 q (B q) Any) (hB : ∀ q, SI q → q.blk = p.blk → Ki q (B q)) : Ki p (stmF E B p) := by
  unfold stmF
  cases h0 : p.sees [[105, 102]] with
  | true =>
    show Ki p (condS E B p)
    unfold condS
    refine ki_bnd (tkS_ts _ hp) (tkS_ki _ p) fun _ q hq b1 _ => ?_
    refine ki_bnd (hE q hq) (hK q hq) fun e r hr b2 _ => ?_
    refine ki_bnd (hBT r hr (b2.trans b1)) (hB r hr (b2.trans b1)) fun bl s hs b3 _ => ?_
    cases he : s.sees [[101, 108, 115, 101]] with
    | false => exact ki_ok _
    | true =>
      have h4 := hs.nx (sees_adv he).1
      have b4 : s.adv.blk = p.blk := b3.trans (b2.trans b1)
      intro a q ea
      exact ki_bnd (p := s.adv) (hBT s.adv h4 b4) (hB s.adv h4 b4) (fun c t _ _ _ => ki_ok _) a q ea
  | false =>
  cases h1 : p.sees [[102, 111, 114]] with
  | true =>
    show Ki p (loopS E B p)
    unfold loopS
    refine ki_bnd (tkS_ts _ hp) (tkS_ki _ p) fun _ q hq b1 _ => ?_
    refine ki_bnd (tkK_ts 1 hq (by decide) (by decide) (by decide)) (tkK_ki 1 q) fun t r hr b2 _ => ?_
    refine ki_bnd (tkS_ts _ hr) (tkS_ki _ r) fun _ s hs b3 _ => ?_
    refine ki_bnd (hE s hs) (hK s hs) fun e u hu b4 _ => ?_
    have b5 := b4.trans (b3.trans (b2.trans b1))
    exact ki_bnd (hBT u hu b5) (hB u hu b5) fun bl v _ _ _ => ki_ok _
  | false =>
  cases h2 : p.sees [[100, 101, 102]] with
  | true =>
    show Ki p (defS B p)
    intro a z e
    unfold defS at e
    rcases bnd_some e with ⟨x, _, hx⟩ | ⟨_, q, e1, e2⟩
    · cases hx
    have hb0 : p.blk = 0 ∧ q = p := by
      unfold guIf at e1
      cases hd : decide (0 < p.blk) with
      | true => rw [hd] at e1; cases e1
      | false => rw [hd] at e1; cases e1; exact ⟨by rw [decide_eq_false_iff_not] at hd; omega, rfl⟩
    obtain ⟨hb0, rfl⟩ := hb0
    rcases bnd_some e2 with ⟨x, _, hx⟩ | ⟨_, q1, _, e3⟩
    · cases hx
    rcases bnd_some e3 with ⟨x, _, hx⟩ | ⟨_, q2, _, e4⟩
    · cases hx
    rcases bnd_some e4 with ⟨x, _, hx⟩ | ⟨_, q3, _, e5⟩
    · cases hx
    rcases bnd_some e5 with ⟨x, _, hx⟩ | ⟨_, q4, _, e6⟩
    · cases hx
    rcases bnd_some e6 with ⟨x, _, hx⟩ | ⟨_, q5, _, e7⟩
    · cases hx
    cases e7
    exact (hz hb0).symm
  | false =>
  refine ki_bnd (smlF_ts hE hp) (smlF_ki hE hK hp) fun s q hq _ _ => ?_
  exact ki_bnd (tkK_ts 6 hq (by decide) (by decide) (by decide)) (tkK_ki 6 q) fun _ r _ _ _ => ki_ok _
theorem stD_ki (hE : ∀ p, SI p → Ts 1 p (E p) Any) (hK : ∀ p, SI p → Ki p (E p)) : ∀ (n : Nat) (p : Ps), SI p → Dz p → 31 ≤ n + p.blk → Ki p (stD E n p)
  | 0, p, hp, _, h => by have := hp.blk; omega
  | n + 1, p, hp, hz, h => by
    unfold stD
    refine stmF_ki hE hK hp hz (fun q hq hb => blF_ts hq fun r hr hrb => stD_ts hE n r hr (by omega)) fun q hq hb => blF_ki hq (fun r hr hrb => stD_ts hE n r hr (by omega)) fun r hr hrb => stD_ki hE hK n r hr (fun h0 => by omega) (by omega)
end
theorem exF_ki {p : Ps} (hp : SI p) : Ki p (exF 40 p) := ki_tt (exF_tt 40 p (by rw [hp.deep]; omega) (by omega) hp.few)
theorem exF_ts {p : Ps} (hp : SI p) : Ts 1 p (exF 40 p) Any := (exF_tt 40 p (by rw [hp.deep]; omega) (by omega) hp.few).ts hp
theorem srcL_ki {St : Ps → Px Sm} (hT : ∀ p, SI p → Ts 1 p (St p) Any) (hSt : ∀ p, SI p → Dz p → Ki p (St p)) : ∀ (f : Nat) (l : List Sm) (p : Ps), SI p → p.blk = 0 → p.inD = false → Ki p (srcL St f l p)
  | 0, _, _, _, _, _ => fun a q e => by cases e
  | f + 1, l, p, hp, hb, hd => by
    unfold srcL
    cases decide (p.toks.length = 0) with
    | true => exact ki_ok l
    | false => exact ki_iff (ki_bnd (hT p hp) (hSt p hp (fun _ => hd)) fun s q hq hqb hqd => ki_iff (srcL_ki hT hSt f _ q hq (hqb.trans hb) (hqd.trans hd)))
/-- Where no statement begins, none comes. -/
theorem no_stm {n : Nat} {p : Ps} (h1 : p.nx.kind ≠ 1) (h2 : p.nx.kind ≠ 2) (h3 : p.nx.kind ≠ 3) (hs : p.sees [[105, 102], [102, 111, 114], [100, 101, 102], [112, 97, 115, 115], [114, 101, 116, 117, 114, 110], [108, 111, 97, 100], [84, 114, 117, 101], [70, 97, 108, 115, 101], [78, 111, 110, 101], [40], [91], [123], [110, 111, 116], [45]] = false) {a : Sm} {q : Ps} (e : stD (exF 40) (n + 1) p = some (.ok (a, q))) : False := by
  unfold stD stmF at e
  rw [sees_sub hs (m := [[105, 102]]) (by simp), sees_sub hs (m := [[102, 111, 114]]) (by simp), sees_sub hs (m := [[100, 101, 102]]) (by simp)] at e
  simp only [cond_false] at e
  rcases bnd_some e with ⟨x, _, hx⟩ | ⟨s, r, e1, _⟩
  · cases hx
  unfold smlF at e1
  have hss : sSet p = false := by
    unfold sSet
    match hp : p.toks with
    | [] => rfl
    | [t] => rfl
    | t :: u :: r =>
      rw [nx_of hp] at h1
      show (t.kind == 1 && _) = false
      rw [show (t.kind == 1) = false by simpa using h1]
      rfl
  rw [sees_sub hs (m := [[112, 97, 115, 115]]) (by simp), sees_sub hs (m := [[114, 101, 116, 117, 114, 110]]) (by simp), sees_sub hs (m := [[108, 111, 97, 100]]) (by simp), hss] at e1
  simp only [cond_false] at e1
  rcases bnd_some e1 with ⟨x, _, hx⟩ | ⟨s, r, e2, _⟩
  · cases hx
  have ha : sAtom p = false := by
    unfold sAtom
    rw [sees_sub hs (m := [[84, 114, 117, 101], [70, 97, 108, 115, 101], [78, 111, 110, 101], [40], [91], [123]]) (by simp)]
    simp [h1, h2, h3]
  have hn := sees_sub hs (m := [[110, 111, 116], [45]]) (by simp)
  have hx : ∀ m, exF (m + 1) p = bnd (rfD [[110, 111, 116], [45]] p) fun _ q => inner (orE (exF m)) q := fun m => rfl
  rw [hx 39] at e2
  rcases bnd_some e2 with ⟨x, _, hx⟩ | ⟨_, q1, e3, e4⟩
  · cases hx
  have hq1 : q1 = p := by
    unfold rfD guIf at e3
    rw [ha, hn] at e3
    simp only [Bool.or_self, Bool.false_and, cond_false] at e3
    cases e3
    rfl
  subst hq1
  obtain ⟨_, e5⟩ := iff_some e4
  rcases bnd_some e5 with ⟨x, _, hx⟩ | ⟨a2, q3, e6, _⟩
  · cases hx
  exact no_begin (p := q1.inn) ha hn e6
theorem srcF_first {p : Ps} {l : List Sm} {q : Ps} (e : srcF (exF 40) p = some (.ok (l, q))) (h : p.toks ≠ []) : ∃ a r, stD (exF 40) 40 p = some (.ok (a, r)) := by
  unfold srcF srcL at e
  rw [show decide (p.toks.length = 0) = false by rw [decide_eq_false_iff_not]; exact fun h0 => h (List.length_eq_zero_iff.1 h0), cond_false] at e
  obtain ⟨_, e2⟩ := iff_some e
  rcases bnd_some e2 with ⟨x, _, hx⟩ | ⟨a, r, e3, _⟩
  · cases hx
  · exact ⟨a, r, e3⟩
theorem ok_heads {p : Ps} {l : List Sm} {q : Ps} (e : srcF (exF 40) p = some (.ok (l, q))) : hdK (p.toks.map tkey) ≠ 7 ∧ hdS p.toks [[101, 108, 115, 101]] = false := by
  match hp : p.toks with
  | [] => exact ⟨by show (0 : Nat) ≠ 7; decide, rfl⟩
  | t :: r =>
    obtain ⟨a, q1, e1⟩ := srcF_first e (by rw [hp]; simp)
    have hnx := nx_of hp
    refine ⟨fun h7 => ?_, ?_⟩
    · have h7' : t.kind = 7 := h7
      refine no_stm (p := p) (by rw [hnx]; omega) (by rw [hnx]; omega) (by rw [hnx]; omega) ?_ e1
      unfold Ps.sees isS
      rw [hnx, h7']
      rfl
    · cases hh : hdS (t :: r) [[101, 108, 115, 101]] with
      | false => rfl
      | true =>
        exfalso
        have h1 : isS t [[101, 108, 115, 101]] = true := hh
        unfold isS at h1
        obtain ⟨h2, h3⟩ := (Bool.and_eq_true _ _).mp h1
        have hte : t.text = [101, 108, 115, 101] := by simpa using h3
        have hk : t.kind = 4 ∨ t.kind = 5 := by simpa using h2
        refine no_stm (p := p) (by rw [hnx]; omega) (by rw [hnx]; omega) (by rw [hnx]; omega) ?_ e1
        unfold Ps.sees isS
        rw [hnx, hte]
        rw [show ([[105, 102], [102, 111, 114], [100, 101, 102], [112, 97, 115, 115], [114, 101, 116, 117, 114, 110], [108, 111, 97, 100], [84, 114, 117, 101], [70, 97, 108, 115, 101], [78, 111, 110, 101], [40], [91], [123], [110, 111, 116], [45]] : List (List UInt8)).contains [101, 108, 115, 101] = false by decide, Bool.and_false]
/-- All statements of both. -/
theorem par_join {s t : List UInt8} {l m : List Sm} (hs : parT s = .ok l) (ht : parT t = .ok m) (hB : (s ++ 10 :: t).length ≤ 6000) : parT (s ++ 10 :: t) = .ok (l ++ m) := by
  unfold parT at hs ht ⊢
  have hBl : (s ++ 10 :: t).length = s.length + (t.length + 1) := by rw [List.length_append, List.length_cons]
  split at hs
  · cases hs
  rename_i ls hls
  split at ht
  · cases ht
  rename_i lt hlt
  split at hs
  · cases hs
  · cases hs
  rename_i l1 qs hqs
  cases hs
  split at ht
  · cases ht
  · cases ht
  rename_i m1 qt hqt
  cases ht
  have hSs := split_si hls
  have hSt := split_si hlt
  obtain ⟨h7, hel⟩ := ok_heads hqt
  have hls0 : splitL s = .ok ls := by unfold splitA at hls; rwa [if_pos (by omega)] at hls
  have hlt0 : splitL t = .ok lt := by unfold splitA at hlt; rwa [if_pos (by omega)] at hlt
  obtain ⟨lb, k1, k2⟩ := split_join hls0 hlt0 h7
  have hlb : splitA (s ++ 10 :: t) = .ok lb := by unfold splitA; rw [if_pos hB]; exact k1
  have hSb := split_si hlb
  rw [hlb]
  have hk1 : (lb.take ls.length).map tkey = ls.map tkey := by rw [List.map_take, k2, List.take_left' (by simp)]
  have hk2 : (lb.drop ls.length).map tkey = lt.map tkey := by rw [List.map_drop, k2, List.drop_left' (by simp)]
  generalize hV : lb.drop ls.length = V at hk2
  have hE : ∀ p, SI p → Ts 1 p (exF 40 p) Any := fun p hp => exF_ts hp
  have hdV : hdS V [[101, 108, 115, 101]] = false := by
    match V, lt, hk2, hel with
    | [], _, _, _ => rfl
    | a :: r, [], hk2, _ => cases hk2
    | a :: r, b :: r2, hk2, hel =>
      simp only [List.map_cons, List.cons.injEq] at hk2
      show isS a _ = false
      rw [isS_key hk2.1]
      exact hel
  have hT : ∀ p, SI p → Ts 1 p (stD (exF 40) 40 p) Any := fun p hp => stD_ts hE 40 p hp (by omega)
  have hR1 : Ry [] V 0 0 ⟨ls, s.length, 0, false, 0⟩ ⟨lb, (s ++ 10 :: t).length, 0, false, 0⟩ :=
    ⟨⟨ls, lb.take ls.length, (List.append_nil _).symm, by show lb = _; rw [← hV, List.take_append_drop], hk1.symm⟩, rfl, Nat.zero_le _, Nat.le_refl _, rfl, rfl⟩
  obtain ⟨n1, e1, f1⟩ := srcL_sq (v' := V) (St := stD (exF 40) 40) hT (fun p p' hp hR => stD_sq hE (fun p p' hp hR e q he hq => by obtain ⟨q', a, b⟩ := stm_exp (n := 40) (by omega) hp hR he hq; exact ⟨q', a, b⟩) hdV 40 p p' hp (by omega) hR) _ [] ⟨ls, s.length, 0, false, 0⟩ l qs hSs hqs
  have hfew := hSs.few
  have hfewt := hSt.few
  obtain ⟨f2, q1, g1, g2, g3, g4, g5, g6, g7⟩ := f1 [] (lb.length + 1) ⟨lb, (s ++ 10 :: t).length, 0, false, 0⟩ hR1 (Nat.lt_succ_self _) (by simp at hfew ⊢; omega)
  have hqd : qs.inD = false := srcL_ki hT (fun p hp hz => stD_ki hE (fun p hp => exF_ki hp) 40 p hp hz (by omega)) _ [] ⟨ls, s.length, 0, false, 0⟩ hSs rfl rfl l qs hqs
  have hR2 : Ry [] [] 0 0 ⟨lt, t.length, 0, false, 0⟩ q1 :=
    ⟨⟨lt, q1.toks, (List.append_nil _).symm, (List.append_nil _).symm, by rw [g3, hk2]⟩, by rw [g5], by rw [g5]; exact Nat.zero_le _, by rw [g5]; exact Nat.zero_le _, g6, by rw [g7, hqd]⟩
  obtain ⟨n2, e2, f3⟩ := srcL_sq (v' := []) (St := stD (exF 40) 40) hT (fun p p' hp hR => stD_sq hE (fun p p' hp hR e q he hq => by obtain ⟨q', a, b⟩ := stm_exp (n := 40) (by omega) hp hR he hq; exact ⟨q', a, b⟩) rfl 40 p p' hp (by omega) hR) _ [] ⟨lt, t.length, 0, false, 0⟩ m qt hSt hqt
  obtain ⟨f4, q2, j1, j2, j3, _, _, _, _⟩ := f3 ([] ++ n1) f2 q1 hR2 g1 (by simp at hfew hfewt g4 ⊢; omega)
  have hq2 : q2.toks = [] := by
    cases hz : q2.toks with
    | nil => rfl
    | cons a b => rw [hz] at j3; cases j3
  have hend : srcL (stD (exF 40) 40) f4 ([] ++ n1 ++ n2) q2 = some (.ok ([] ++ n1 ++ n2, q2)) := by
    cases f4 with
    | zero => exact absurd j1 (Nat.not_lt_zero _)
    | succ f4 =>
      unfold srcL
      rw [hq2]
      rfl
  have hall : srcF (exF 40) ⟨lb, (s ++ 10 :: t).length, 0, false, 0⟩ = some (.ok ([] ++ n1 ++ n2, q2)) := by
    unfold srcF
    exact g2.trans (j2.trans hend)
  simp only [hall]
  rw [e1, e2]
  rfl
end Go.Proofs.YtcaeeackccgclaaGreatDoor
