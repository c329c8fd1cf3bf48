/- Where tokens stand, plain. -/
import Derived.Test.YtdfimmekhbkglaaDoorTkN
namespace Go.Proofs.YtdfimmekhbkglaaDoor
open Go.RowKit Go.Shelf

/-- A token stands in its source. -/
structure Std (L : List UInt8) (t : Tk) : Prop where
  plain : t.kind = 1 ∨ t.kind = 2 ∨ t.kind = 4 ∨ t.kind = 5 → t.text ≠ [] ∧ t.pos + t.text.length ≤ L.length ∧ (L.drop t.pos).take t.text.length = t.text
  quote : t.kind = 3 → t.pos < L.length ∧ (L.getD t.pos 0).toNat = 34
  none_ : 6 ≤ t.kind → t.text = []
  num : t.kind ≠ 2 → t.num = 0
  kind : 1 ≤ t.kind ∧ t.kind ≤ 8
  pos : t.pos ≤ L.length
  small : t.num ≤ 9007199254740991
def AllStd (L : List UInt8) (p : Sp) : Prop := ∀ t ∈ p.toks, Std L t

theorem AllStd.snoc {L : List UInt8} {p q : Sp} (h : AllStd L p) (t : Tk) (ht : Std L t) (hq : q.toks = p.toks ++ [t]) : AllStd L q := by
  intro x hx
  rw [hq] at hx
  rcases List.mem_append.1 hx with hx | hx
  · exact h x hx
  · rw [List.mem_singleton.1 hx]; exact ht
theorem AllStd.add {L : List UInt8} {p : Sp} (h : AllStd L p) (k : Nat) (h1 : 6 ≤ k) (h2 : k ≤ 8) (hp : p.pos ≤ L.length) : AllStd L (p.add k) :=
  h.snoc ⟨k, [], 0, p.pos⟩ ⟨fun hk => by exfalso; simp only at hk; omega, fun hk => by exfalso; simp only at hk; omega, fun _ => rfl, fun _ => rfl, ⟨by show 1 ≤ k; omega, h2⟩, hp, by show 0 ≤ _; omega⟩ rfl
theorem outF_std (L : List UInt8) (i : Nat) : ∀ (f : Nat) (p : Sp), p.pos ≤ L.length → AllStd L p → AllStd L (outF i f p) := by
  intro f
  induction f with
  | zero => intro p _ h; exact h
  | succ f ih =>
    intro p hp h
    by_cases hi : i < p.top
    · rw [outF_step i f p hi]
      exact ih _ hp (AllStd.add (p := { p with ins := p.ins.drop 1 }) h 8 (by omega) (by omega) hp)
    · rw [outF_stop i _ p hi]; exact h
theorem come_std {L : List UInt8} {p : Sp} (h : AllStd L p) (hp : p.pos ≤ L.length) (i : Nat) : AllStd L (p.come i) := by
  show AllStd L (outF i _ _)
  by_cases ht : p.top < i
  · rw [if_pos ht]
    exact outF_std L i _ _ hp (AllStd.add (p := { p with ins := i :: p.ins }) h 7 (by omega) (by omega) hp)
  · rw [if_neg ht]
    exact outF_std L i _ _ hp h
theorem tok1_std {L : List UInt8} {p q : Sp} (h : tok1 L p = .ok q) (hs : AllStd L p) (hp : p.pos < L.length) (hb : beg (L.drop p.pos) = true) (hni : isDg (L.getD p.pos 0) = true → noInt (L.drop p.pos) = false) : AllStd L q := by
  have hdl : (L.drop p.pos).length = L.length - p.pos := List.length_drop
  have hrl : 0 < (L.drop p.pos).length := by omega
  have hpl : ∀ (k n : Nat) (m : Nat), 0 < m → m ≤ (L.drop p.pos).length → (k = 1 ∨ k = 2 ∧ n ≤ 9007199254740991 ∨ k = 4 ∨ k = 5) → (k ≠ 2 → n = 0) → Std L ⟨k, (L.drop p.pos).take m, n, p.pos⟩ := by
    intro k n m hm hml hk hn
    have hl : ((L.drop p.pos).take m).length = m := by rw [List.length_take, Nat.min_eq_left hml]
    refine ⟨fun _ => ⟨fun e => ?_, ?_, ?_⟩, fun hk3 => ?_, fun hk6 => ?_, hn, ?_, Nat.le_of_lt hp, ?_⟩
    · have := congrArg List.length e
      simp only [hl] at this
      simp at this
      omega
    · simp only [hl]; omega
    · simp only [hl]
    · simp only at hk3; omega
    · simp only at hk6; omega
    · simp only; omega
    · show n ≤ _
      by_cases h2 : k = 2
      · omega
      · rw [hn h2]; omega
  unfold tok1 at h
  simp only [at_drop] at h
  split at h
  · rename_i h34
    split at h
    · cases h
    · cases h
      exact hs.snoc _ ⟨fun hk => by exfalso; simp only at hk; omega, fun _ => ⟨hp, h34⟩, fun hk => by exfalso; simp only at hk; omega, fun _ => rfl, ⟨by show 1 ≤ 3; omega, by show 3 ≤ 8; omega⟩, Nat.le_of_lt hp, by show 0 ≤ _; omega⟩ rfl
  rename_i h34
  split at h
  · rename_i hd
    have h2 : 0 < rch isDg (L.drop p.pos) := rch_pos hrl (by rw [at_drop]; exact hd)
    have hv : valD 0 ((L.drop p.pos).take (rch isDg (L.drop p.pos))) ≤ 9007199254740991 := by
      have := hni hd
      unfold noInt at this
      simp at this
      exact this.1
    cases h
    exact hs.snoc _ (hpl 2 _ _ h2 (rch_le _ _) (.inr (.inl ⟨rfl, hv⟩)) (fun e => absurd rfl e)) rfl
  rename_i hd
  split at h
  · rename_i hlt
    have h2 : 0 < rch isNm (L.drop p.pos) := rch_pos hrl (by rw [at_drop]; unfold isNm; rw [hlt]; rfl)
    cases h
    refine hs.snoc _ (hpl _ 0 _ h2 (rch_le _ _) ?_ (fun _ => rfl)) rfl
    cases isWd ((L.drop p.pos).take (rch isNm (L.drop p.pos)))
    · exact .inl rfl
    · exact .inr (.inr (.inr rfl))
  rename_i hlt
  have h2 : 0 < sgn (L.drop p.pos) := beg_sign _ hb (by rw [at_drop]; exact h34) (by rw [at_drop]; simpa using hd) (by rw [at_drop]; simpa using hlt)
  cases h
  exact hs.snoc _ (hpl 4 0 _ h2 (sgn_le _ hrl) (.inr (.inr (.inl rfl))) (fun _ => rfl)) rfl

theorem toksF_std (L : List UInt8) : ∀ (f i : Nat) (p q : Sp), SpOk L p 1 → AllStd L p → toksF L f i p = .ok q → AllStd L q := by
  intro f
  induction f with
  | zero => intro i p q _ _ h; cases h
  | succ f ih =>
    intro i p q hk hs h
    unfold toksF at h
    split at h
    · cases h; exact hs
    rename_i he
    split at h
    · cases h
    rename_i hr
    split at h
    · cases h
    rename_i t ht
    have hp : p.pos < L.length := by
      have := hk.pos
      rcases Nat.lt_or_ge p.pos L.length with h1 | h1
      · exact h1
      · exfalso; apply he; unfold endL
        rw [show decide (p.pos = L.length) = true from by simp; omega]; rfl
    have hr0 : refu L p i = 0 := by
      rcases Nat.eq_zero_or_pos (refu L p i) with e | e
      · exact e
      · exact absurd (by omega) hr
    obtain ⟨r1, r2, r3, r4, r5⟩ := refu_zero hr0
    obtain ⟨a, _⟩ := turn_ok hk hp hr0 ht
    have hc := (come_ok hk.ins i).1
    have b : AllStd L t := tok1_std ht (come_std hs hk.pos i) (by rw [hc]; exact hp) (by rw [hc]; exact r1) (by rw [hc]; exact r3)
    exact ih _ _ _ a b h
theorem lineF_std {L : List UInt8} {p q : Sp} (hk : SpOk L p 1) (hs : AllStd L p) (h : lineF L p = .ok q) : AllStd L q := by
  have hsk := skip_ok (L := L) hk.pos
  have hk1 : SpOk L (p.skip L) 1 := ⟨hsk.2, hk.ins.of rfl, hk.i31, hk.o30, by show p.toks.length + p.ins.length ≤ 4 * (p.skip L).pos + 1; have := hk.cnt; omega⟩
  unfold lineF at h
  split at h
  · cases h
  rename_i r hr
  have a := toksF_std L _ _ _ _ hk1 hs hr
  have b := (toksF_ok L _ _ _ _ hk1 hr).1
  split at h
  · cases h
  split at h
  · cases h; exact a.add 6 (by omega) (by omega) b.pos
  · cases h; exact a
theorem linesF_std (L : List UInt8) : ∀ (f : Nat) (p q : Sp), SpOk L p 1 → AllStd L p → linesF L f p = .ok q → AllStd L q := by
  intro f
  induction f with
  | zero => intro p q _ _ h; cases h
  | succ f ih =>
    intro p q hk hs h
    unfold linesF at h
    split at h
    · cases h; exact come_std hs hk.pos 0
    split at h
    · cases h
    rename_i r hr
    have a := lineF_std hk hs hr
    obtain ⟨b, c⟩ := lineF_ok hk hr
    split at h
    · cases h; exact come_std a b.pos 0
    · rename_i hne
      have := b.pos
      exact ih { r with pos := r.pos + 1 } q ⟨by show r.pos + 1 ≤ _; omega, b.ins.of rfl, b.i31, b.o30, by show r.toks.length + r.ins.length ≤ 4 * (r.pos + 1) + 1; have := b.cnt; omega⟩ a h
theorem splitL_std {L : List UInt8} {l : List Tk} (h : splitL L = .ok l) : ∀ t ∈ l, Std L t := by
  unfold splitL at h
  split at h
  · cases h
  rename_i q hq
  cases h
  exact linesF_std L _ _ _ ⟨Nat.zero_le _, ⟨by simp, rfl⟩, by decide, by decide, by decide⟩ (fun t ht => by cases ht) hq
end Go.Proofs.YtdfimmekhbkglaaDoor
