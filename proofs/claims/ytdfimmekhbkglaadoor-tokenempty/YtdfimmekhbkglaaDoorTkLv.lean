/- How far in tokens are, plain. -/
import Derived.Test.YtdfimmekhbkglaaDoorTkSd
namespace Go.Proofs.YtdfimmekhbkglaaDoor
open Go.RowKit Go.Shelf

def lvl (t : Tk) : Int := if t.kind = 7 then 1 else if t.kind = 8 then -1 else 0
def dep : List Tk → Int
  | [] => 0
  | t :: r => lvl t + dep r
theorem dep_snoc : ∀ (l : List Tk) (t : Tk), dep (l ++ [t]) = dep l + lvl t
  | [], t => by show lvl t + 0 = 0 + lvl t; omega
  | a :: r, t => by show lvl a + dep (r ++ [t]) = lvl a + dep r + lvl t; rw [dep_snoc r t]; omega
def lastP (l : List Tk) : Nat := match l.getLast? with | some t => t.pos | none => 0
def lastK (l : List Tk) : Nat := match l.getLast? with | some t => t.kind | none => 6
theorem lastP_snoc (l : List Tk) (t : Tk) : lastP (l ++ [t]) = t.pos := by unfold lastP; simp
theorem lastK_snoc (l : List Tk) (t : Tk) : lastK (l ++ [t]) = t.kind := by unfold lastK; simp

/-- A token may come behind these. -/
structure Nxt (n : Nat) (l : List Tk) (t : Tk) : Prop where
  rise : lastP l ≤ t.pos
  most : t.pos ≤ n
  d0 : 0 ≤ dep l + lvl t
  d30 : dep l + lvl t ≤ 30
  behind : t.kind = 7 ∨ t.kind = 8 → lastK l = 6 ∨ lastK l = 8
def AllNxt (n : Nat) (l : List Tk) : Prop := ∀ (i : Nat) (h : i < l.length), Nxt n (l.take i) l[i]
theorem AllNxt.snoc {n : Nat} {l : List Tk} (h : AllNxt n l) {t : Tk} (ht : Nxt n l t) : AllNxt n (l ++ [t]) := by
  intro i hi
  by_cases hl : i < l.length
  · have e1 : (l ++ [t]).take i = l.take i := by rw [List.take_append_of_le_length (by omega)]
    have e2 : (l ++ [t])[i] = l[i] := List.getElem_append_left hl
    rw [e1, e2]; exact h i hl
  · have hi2 : i = l.length := by simp at hi; omega
    subst hi2
    have e1 : (l ++ [t]).take l.length = l := by simp
    have e2 : (l ++ [t])[l.length] = t := by simp
    rw [e1, e2]; exact ht

/-- Nought at the bottom, and no other one. -/
def Ps (l : List Nat) : Prop := ∃ ys : List Nat, l = ys ++ [0] ∧ ∀ y ∈ ys, 0 < y
theorem Ps.pop {l : List Nat} (h : Ps l) (h2 : 2 ≤ l.length) : Ps (l.drop 1) := by
  obtain ⟨ys, rfl, hy⟩ := h
  cases ys with
  | nil => simp at h2
  | cons a r => exact ⟨r, rfl, fun y hm => hy y (List.mem_cons_of_mem _ hm)⟩
theorem Ps.push {l : List Nat} (h : Ps l) {i : Nat} (hi : 0 < i) : Ps (i :: l) := by
  obtain ⟨ys, rfl, hy⟩ := h
  refine ⟨i :: ys, rfl, fun y hm => ?_⟩
  rcases List.mem_cons.1 hm with e | e
  · rw [e]; exact hi
  · exact hy y e

structure Lv (n : Nat) (p : Sp) : Prop where
  all : AllNxt n p.toks
  deep : dep p.toks + 1 = (p.ins.length : Int)
  last : lastP p.toks ≤ p.pos
  ps : Ps p.ins

theorem Lv.snoc {n : Nat} {p q : Sp} (h : Lv n p) (t : Tk) (hq : q.toks = p.toks ++ [t]) (ht : Nxt n p.toks t) (hd : dep p.toks + lvl t + 1 = (q.ins.length : Int)) (hp : t.pos ≤ q.pos) (hps : Ps q.ins) : Lv n q :=
  ⟨by rw [hq]; exact h.all.snoc ht, by rw [hq, dep_snoc]; exact hd, by rw [hq, lastP_snoc]; exact hp, hps⟩

theorem outF_zero : ∀ (f : Nat) (p : Sp), Ps p.ins → p.ins.length ≤ f + 1 → (outF 0 f p).ins.length = 1 := by
  intro f
  induction f with
  | zero =>
    intro p h hl
    obtain ⟨ys, e, hy⟩ := h
    show p.ins.length = 1
    rw [e] at hl ⊢
    simp at hl ⊢
    exact hl
  | succ f ih =>
    intro p h hl
    by_cases hi : 0 < p.top
    · rw [outF_step 0 f p hi]
      have h2 : 2 ≤ p.ins.length := by
        obtain ⟨ys, e, hy⟩ := h
        cases ys with
        | nil => unfold Sp.top at hi; rw [e] at hi; simp at hi
        | cons a r => rw [e]; simp
      refine ih _ (h.pop h2) ?_
      show (p.ins.drop 1).length ≤ _
      rw [List.length_drop]; omega
    · rw [outF_stop 0 _ p hi]
      obtain ⟨ys, e, hy⟩ := h
      cases ys with
      | nil => rw [e]; rfl
      | cons a r =>
        exfalso; apply hi
        unfold Sp.top; rw [e]
        exact hy a List.mem_cons_self
theorem come_zero {p : Sp} (h : Ps p.ins) : (p.come 0).ins.length = 1 := by
  show (outF 0 _ (if p.top < 0 then _ else p)).ins.length = 1
  rw [if_neg (Nat.not_lt_zero _)]
  exact outF_zero _ p h (by omega)

theorem come_same (p : Sp) : p.come p.top = p := by
  show outF p.top _ (if p.top < p.top then _ else p) = p
  rw [if_neg (Nat.lt_irrefl _)]
  exact outF_stop _ _ _ (Nat.lt_irrefl _)

theorem outF_lv (n i : Nat) : ∀ (f : Nat) (p : Sp), InOk p → p.ins.length ≤ 31 → p.pos ≤ n → (lastK p.toks = 6 ∨ lastK p.toks = 8) → Lv n p → Lv n (outF i f p) ∧ p.toks.length ≤ (outF i f p).toks.length := by
  intro f
  induction f with
  | zero => intro p _ _ _ _ h; exact ⟨h, Nat.le_refl _⟩
  | succ f ih =>
    intro p hk h31 hp hl h
    by_cases hi : i < p.top
    · have h2 := hk.two i hi
      rw [outF_step i f p hi]
      have e1 : (({ p with ins := p.ins.drop 1 } : Sp).add 8).ins.length = p.ins.length - 1 := List.length_drop
      have e2 : (({ p with ins := p.ins.drop 1 } : Sp).add 8).toks.length = p.toks.length + 1 := by
        show (p.toks ++ [_]).length = _
        simp
      have hd := h.deep
      have a : Lv n (({ p with ins := p.ins.drop 1 } : Sp).add 8) := by
        refine h.snoc ⟨8, [], 0, p.pos⟩ rfl ⟨h.last, hp, ?_, ?_, fun _ => hl⟩ ?_ (Nat.le_refl _) (h.ps.pop h2)
        · show 0 ≤ dep p.toks + (-1); omega
        · show dep p.toks + (-1) ≤ 30; omega
        · show dep p.toks + (-1) + 1 = _; rw [e1]; omega
      obtain ⟨b, c⟩ := ih (({ p with ins := p.ins.drop 1 } : Sp).add 8) (hk.pop h2 _ rfl) (by omega) hp (.inr (by show lastK (p.toks ++ [_]) = 8; rw [lastK_snoc])) a
      exact ⟨b, by omega⟩
    · rw [outF_stop i _ p hi]
      exact ⟨h, Nat.le_refl _⟩
theorem come_lv {n : Nat} {p : Sp} (h : Lv n p) (hk : InOk p) (h31 : p.ins.length ≤ 31) (hp : p.pos ≤ n) (i : Nat) (h30 : p.top < i → p.ins.length ≤ 30) (hi : i = p.top ∨ lastK p.toks = 6) : Lv n (p.come i) ∧ p.toks.length ≤ (p.come i).toks.length := by
  rcases hi with rfl | hl
  · rw [come_same]; exact ⟨h, Nat.le_refl _⟩
  · show Lv n (outF i _ _) ∧ _ ≤ (outF i _ _).toks.length
    by_cases ht : p.top < i
    · rw [if_pos ht]
      rw [outF_stop i _ _ (by show ¬ i < i; exact Nat.lt_irrefl _)]
      have hd := h.deep
      have := h30 ht
      refine ⟨h.snoc ⟨7, [], 0, p.pos⟩ rfl ⟨h.last, hp, ?_, ?_, fun _ => .inl hl⟩ ?_ (Nat.le_refl _) (h.ps.push (by omega)), ?_⟩
      · show 0 ≤ dep p.toks + 1; omega
      · show dep p.toks + 1 ≤ 30; omega
      · show dep p.toks + 1 + 1 = ((i :: p.ins).length : Int); simp; omega
      · show _ ≤ (p.toks ++ [_]).length; simp
    · rw [if_neg ht]
      exact outF_lv n i _ p hk h31 hp (.inl hl) h
theorem tok1_lv {L : List UInt8} {p q : Sp} (h : tok1 L p = .ok q) (hs : Lv L.length p) (hk : p.ins.length ≤ 31) (hk1 : 1 ≤ p.ins.length) (hp : p.pos < L.length) (hpq : p.pos < q.pos) : Lv L.length q ∧ q.ins = p.ins ∧ q.toks.length = p.toks.length + 1 := by
  have hd := hs.deep
  have key : ∀ (k : Nat) (t : List UInt8) (m : Nat), 1 ≤ k → k ≤ 5 → q.toks = p.toks ++ [⟨k, t, m, p.pos⟩] → q.ins = p.ins → Lv L.length q ∧ q.ins = p.ins ∧ q.toks.length = p.toks.length + 1 := by
    intro k t m h1 h5 e ei
    have hl : lvl ⟨k, t, m, p.pos⟩ = 0 := by
      show (if k = 7 then (1 : Int) else if k = 8 then -1 else 0) = 0
      rw [if_neg (by omega), if_neg (by omega)]
    refine ⟨hs.snoc _ e ⟨hs.last, Nat.le_of_lt hp, ?_, ?_, fun hk => ?_⟩ ?_ (Nat.le_of_lt hpq) (by rw [ei]; exact hs.ps), ei, by rw [e]; simp⟩
    · rw [hl]; omega
    · rw [hl]; omega
    · exfalso; simp only at hk; omega
    · rw [hl, ei]; omega
  unfold tok1 at h
  simp only [at_drop] at h
  split at h
  · split at h
    · cases h
    · cases h; exact key 3 _ _ (by omega) (by omega) rfl rfl
  split at h
  · cases h; exact key 2 _ _ (by omega) (by omega) rfl rfl
  split at h
  · cases h
    refine key _ _ _ ?_ ?_ rfl rfl
    · cases isWd ((L.drop p.pos).take (rch isNm (L.drop p.pos))) <;> decide
    · cases isWd ((L.drop p.pos).take (rch isNm (L.drop p.pos))) <;> decide
  · cases h; exact key 4 _ _ (by omega) (by omega) rfl rfl

theorem txt_err : ∀ (f : Nat) (r said : List UInt8) (x y : Nat), txt f r said x = .error y → y ≤ x + r.length := by
  intro f
  induction f with
  | zero => intro r said x y h; cases h; omega
  | succ f ih =>
    intro r said x y h
    unfold txt at h
    by_cases h0 : r = []
    · simp only [h0, if_true] at h; cases h; omega
    simp only [h0, if_false] at h
    have hl : 0 < r.length := List.length_pos_iff.2 h0
    split at h
    · cases h
    split at h
    · split at h
      · cases h; omega
      rename_i h1
      have hl2 : 0 < (r.drop 1).length := List.length_pos_iff.2 h1
      rw [List.length_drop] at hl2
      split at h
      · have := ih _ _ _ _ h; rw [List.length_drop] at this; omega
      split at h
      · have := ih _ _ _ _ h; rw [List.length_drop] at this; omega
      split at h
      · have := ih _ _ _ _ h; rw [List.length_drop] at this; omega
      · cases h; omega
    split at h
    · cases h; omega
    · have h1 := rch_le isPl r
      have := ih _ _ _ _ h
      rw [List.length_drop] at this
      omega
theorem tok1_err {L : List UInt8} {p : Sp} {k z : Nat} (h : tok1 L p = .error (k, z)) (hp : p.pos < L.length) : z ≤ L.length := by
  unfold tok1 at h
  simp only [at_drop] at h
  split at h
  · split at h
    · rename_i y hy
      have := txt_err _ _ _ _ _ hy
      rw [List.length_drop, List.length_drop] at this
      cases h; omega
    · cases h
  split at h
  · cases h
  split at h
  · cases h
  · cases h

theorem toksF_lv (L : List UInt8) : ∀ (f i : Nat) (p : Sp), SpOk L p 1 → Lv L.length p → (i = p.top ∨ lastK p.toks = 6) →
    (∀ q, toksF L f i p = .ok q → Lv L.length q ∧ (q.toks = p.toks ∨ p.toks.length < q.toks.length)) ∧ (∀ k z, toksF L f i p = .error (k, z) → z ≤ L.length) := by
  intro f
  induction f with
  | zero => intro i p hk _ _; exact ⟨fun q h => (by cases h), fun k z h => by cases h; exact hk.pos⟩
  | succ f ih =>
    intro i p hk hs hi
    unfold toksF
    split
    · exact ⟨fun q h => by cases h; exact ⟨hs, .inl rfl⟩, fun k z h => by cases h⟩
    rename_i he
    have hp : p.pos < L.length := by
      have := hk.pos
      rcases Nat.lt_or_ge p.pos L.length with h1 | h1
      · exact h1
      · exfalso; apply he; unfold endL
        rw [show decide (p.pos = L.length) = true from by simp; omega]; rfl
    split
    · exact ⟨fun q h => (by cases h), fun k z h => by cases h; exact hk.pos⟩
    rename_i hr
    have hr0 : refu L p i = 0 := by
      rcases Nat.eq_zero_or_pos (refu L p i) with e | e
      · exact e
      · exact absurd (by omega) hr
    obtain ⟨r1, r2, r3, r4, r5⟩ := refu_zero hr0
    obtain ⟨c1, c2, c3, c4, c5⟩ := come_ok hk.ins i
    obtain ⟨v1, v2⟩ := come_lv hs hk.ins hk.i31 hk.pos i r5 hi
    have hi31 : (p.come i).ins.length ≤ 31 := by
      by_cases htp : p.top < i
      · rw [if_pos htp] at c4; have := r5 htp; omega
      · rw [if_neg htp] at c4; have := hk.i31; omega
    split
    · rename_i x hx
      refine ⟨fun q h => (by cases h), fun k z h => ?_⟩
      cases h
      exact tok1_err hx (by rw [c1]; exact hp)
    rename_i t ht
    obtain ⟨a, b⟩ := turn_ok hk hp hr0 ht
    obtain ⟨t1, t2, t3, t4, t5⟩ := tok1_ok ht (by rw [c1]; exact hp) (by rw [c1]; exact r1) (by rw [c1, c2]; intro ho; have := r4 ho; have := hk.o30; omega) (by rw [c2]; exact hk.o30)
    obtain ⟨g1, g2, g3⟩ := tok1_lv ht v1 hi31 (List.length_pos_iff.2 c3.ne) (by rw [c1]; exact hp) t1
    have g4 : Lv L.length (t.skip L) := ⟨g1.all, g1.deep, Nat.le_trans g1.last (skip_ok (L := L) t2).1, g1.ps⟩
    obtain ⟨h1, h2⟩ := ih (t.skip L).top (t.skip L) a g4 (.inl rfl)
    refine ⟨fun q hq => ?_, h2⟩
    obtain ⟨x, y⟩ := h1 q hq
    refine ⟨x, .inr ?_⟩
    rcases y with y | y
    · rw [y]; show _ < t.toks.length; omega
    · have : t.toks.length < q.toks.length := y; omega
theorem lineF_lv {L : List UInt8} {p : Sp} (hk : SpOk L p 1) (hs : Lv L.length p) (hl : lastK p.toks = 6) :
    (∀ q, lineF L p = .ok q → Lv L.length q ∧ lastK q.toks = 6) ∧ (∀ k z, lineF L p = .error (k, z) → z ≤ L.length) := by
  have hsk := skip_ok (L := L) hk.pos
  have hk1 : SpOk L (p.skip L) 1 := ⟨hsk.2, hk.ins.of rfl, hk.i31, hk.o30, by show p.toks.length + p.ins.length ≤ 4 * (p.skip L).pos + 1; have := hk.cnt; omega⟩
  have hs1 : Lv L.length (p.skip L) := ⟨hs.all, hs.deep, Nat.le_trans hs.last hsk.1, hs.ps⟩
  obtain ⟨A, B⟩ := toksF_lv L (L.length + 1) (skp p.opn L.length (L.drop p.pos)) (p.skip L) hk1 hs1 (.inr hl)
  unfold lineF
  split
  · rename_i x hx
    refine ⟨fun q h => (by cases h), fun k z h => ?_⟩
    cases h; exact B _ _ hx
  rename_i r hr
  obtain ⟨a1, a2⟩ := A r hr
  have b := (toksF_ok L _ _ _ _ hk1 hr).1
  split
  · exact ⟨fun q h => (by cases h), fun k z h => by cases h; exact b.pos⟩
  split
  · refine ⟨fun q h => ?_, fun k z h => by cases h⟩
    cases h
    have hd := a1.deep
    have h31 := b.i31
    have hne := List.length_pos_iff.2 b.ins.ne
    have hl0 : lvl ⟨6, [], 0, r.pos⟩ = 0 := rfl
    refine ⟨a1.snoc ⟨6, [], 0, r.pos⟩ rfl ⟨a1.last, b.pos, ?_, ?_, fun hk => ?_⟩ ?_ (Nat.le_refl _) a1.ps, by show lastK (r.toks ++ [_]) = 6; rw [lastK_snoc]⟩
    · rw [hl0]; omega
    · rw [hl0]; omega
    · exfalso; simp only at hk; omega
    · rw [hl0]; show dep r.toks + 0 + 1 = _; show _ = (r.ins.length : Int); omega
  · rename_i hn
    refine ⟨fun q h => ?_, fun k z h => by cases h⟩
    cases h
    rcases a2 with e | e
    · exact ⟨a1, by rw [e]; exact hl⟩
    · exact absurd e hn
theorem linesF_lv (L : List UInt8) : ∀ (f : Nat) (p : Sp), SpOk L p 1 → Lv L.length p → lastK p.toks = 6 →
    (∀ q, linesF L f p = .ok q → Lv L.length q ∧ dep q.toks = 0) ∧ (∀ k z, linesF L f p = .error (k, z) → z ≤ L.length) := by
  have fin : ∀ p : Sp, InOk p → p.ins.length ≤ 31 → p.pos ≤ L.length → Lv L.length p → lastK p.toks = 6 → Lv L.length (p.come 0) ∧ dep (p.come 0).toks = 0 := by
    intro p h1 h2 h3 h4 h5
    have a := (come_lv h4 h1 h2 h3 0 (fun h => by omega) (.inr h5)).1
    refine ⟨a, ?_⟩
    have hd := a.deep
    have : (p.come 0).ins.length = 1 := come_zero h4.ps
    omega
  intro f
  induction f with
  | zero => intro p hk _ _; exact ⟨fun q h => (by cases h), fun k z h => by cases h; exact hk.pos⟩
  | succ f ih =>
    intro p hk hs hl
    obtain ⟨A, B⟩ := lineF_lv hk hs hl
    unfold linesF
    split
    · refine ⟨fun q h => ?_, fun k z h => by cases h⟩
      cases h; exact fin p hk.ins hk.i31 hk.pos hs hl
    split
    · rename_i x hx
      refine ⟨fun q h => (by cases h), fun k z h => ?_⟩
      cases h; exact B _ _ hx
    rename_i r hr
    obtain ⟨a1, a2⟩ := A r hr
    obtain ⟨b, c⟩ := lineF_ok hk hr
    split
    · refine ⟨fun q h => ?_, fun k z h => by cases h⟩
      cases h; exact fin r b.ins b.i31 b.pos a1 a2
    · rename_i hne
      have := b.pos
      exact ih { r with pos := r.pos + 1 } ⟨by show r.pos + 1 ≤ _; omega, b.ins.of rfl, b.i31, b.o30, by show r.toks.length + r.ins.length ≤ 4 * (r.pos + 1) + 1; have := b.cnt; omega⟩ ⟨a1.all, a1.deep, by have := a1.last; show lastP r.toks ≤ r.pos + 1; omega, a1.ps⟩ a2
theorem splitL_lv (L : List UInt8) : (∀ l, splitL L = .ok l → AllNxt L.length l ∧ dep l = 0) ∧ (∀ k z, splitL L = .error (k, z) → z ≤ L.length) := by
  obtain ⟨A, B⟩ := linesF_lv L (L.length + 1) ⟨0, [], [0], 0⟩ ⟨Nat.zero_le _, ⟨by simp, rfl⟩, by decide, by decide, by decide⟩ ⟨fun i h => (by cases h), by rfl, Nat.zero_le _, ⟨[], rfl, fun y h => by cases h⟩⟩ rfl
  unfold splitL
  split
  · rename_i x hx
    refine ⟨fun q h => (by cases h), fun k z h => ?_⟩
    cases h; exact B _ _ hx
  · rename_i q hq
    obtain ⟨a, b⟩ := A q hq
    refine ⟨fun l h => ?_, fun k z h => by cases h⟩
    cases h; exact ⟨a.all, b⟩
end Go.Proofs.YtdfimmekhbkglaaDoor
