/- What holds of the splitter all the way, plain. -/
import Derived.Test.YtdfimmekhbkglaaDoorTkO
import Derived.Test.YtdfimmekhbkglaaDoorTkK
import Derived.Test.YtdfimmekhbkglaaDoorTkG
namespace Go.Proofs.YtdfimmekhbkglaaDoor
open Go.RowKit Go.Shelf

/-- All is in bounds. -/
structure SpOk (L : List UInt8) (p : Sp) (k : Nat) : Prop where
  pos : p.pos ≤ L.length
  ins : InOk p
  i31 : p.ins.length ≤ 31
  o30 : p.opn ≤ 30
  cnt : p.toks.length + p.ins.length ≤ 4 * p.pos + k

theorem InOk.of {p q : Sp} (h : InOk p) (e : q.ins = p.ins) : InOk q := ⟨by rw [e]; exact h.ne, by rw [e]; exact h.bot⟩

theorem outF_ok (i : Nat) : ∀ (f : Nat) (p : Sp), InOk p → (outF i f p).pos = p.pos ∧ (outF i f p).opn = p.opn ∧ InOk (outF i f p) ∧ (outF i f p).ins.length ≤ p.ins.length ∧ (outF i f p).toks.length + (outF i f p).ins.length = p.toks.length + p.ins.length := by
  intro f
  induction f with
  | zero => intro p h; exact ⟨rfl, rfl, h, Nat.le_refl _, rfl⟩
  | succ f ih =>
    intro p h
    by_cases hi : i < p.top
    · have h2 := h.two i hi
      rw [outF_step i f p hi]
      obtain ⟨a, b, c, d, e⟩ := ih ({ p with ins := p.ins.drop 1 }.add 8) (h.pop h2 _ rfl)
      have e1 : (({ p with ins := p.ins.drop 1 } : Sp).add 8).ins.length = p.ins.length - 1 := List.length_drop
      have e2 : (({ p with ins := p.ins.drop 1 } : Sp).add 8).toks.length = p.toks.length + 1 := by
        show (p.toks ++ [_]).length = _
        simp
      exact ⟨a, b, c, by omega, by omega⟩
    · rw [outF_stop i _ p hi]
      exact ⟨rfl, rfl, h, Nat.le_refl _, rfl⟩

theorem come_ok {p : Sp} (h : InOk p) (i : Nat) : (p.come i).pos = p.pos ∧ (p.come i).opn = p.opn ∧ InOk (p.come i) ∧ (p.come i).ins.length ≤ p.ins.length + (if p.top < i then 1 else 0) ∧ (p.come i).toks.length + (p.come i).ins.length ≤ p.toks.length + p.ins.length + 2 := by
  show (outF i _ _).pos = _ ∧ (outF i _ _).opn = _ ∧ InOk (outF i _ _) ∧ (outF i _ _).ins.length ≤ _ ∧ (outF i _ _).toks.length + (outF i _ _).ins.length ≤ _
  by_cases ht : p.top < i
  · rw [if_pos ht, if_pos ht]
    obtain ⟨a, b, c, d, e⟩ := outF_ok i (({ p with ins := i :: p.ins } : Sp).add 7).ins.length (({ p with ins := i :: p.ins } : Sp).add 7) (h.push i _ rfl)
    have e1 : (({ p with ins := i :: p.ins } : Sp).add 7).ins.length = p.ins.length + 1 := rfl
    have e2 : (({ p with ins := i :: p.ins } : Sp).add 7).toks.length = p.toks.length + 1 := by
      show (p.toks ++ [_]).length = _
      simp
    exact ⟨a, b, c, by omega, by omega⟩
  · rw [if_neg ht, if_neg ht]
    obtain ⟨a, b, c, d, e⟩ := outF_ok i p.ins.length p h
    exact ⟨a, b, c, by omega, by omega⟩

theorem txt_pos : ∀ (f : Nat) (r said : List UInt8) (x : Nat) (t : List UInt8) (y : Nat), txt f r said x = .ok (t, y) → x < y ∧ y ≤ x + r.length := by
  intro f
  induction f with
  | zero => intro r said x t y h; cases h
  | succ f ih =>
    intro r said x t y h
    unfold txt at h
    by_cases h0 : r = []
    · simp only [h0, if_true] at h; cases h
    simp only [h0, if_false] at h
    have hl : 0 < r.length := List.length_pos_iff.2 h0
    split at h
    · cases h; omega
    split at h
    · split at h
      · cases h
      rename_i h1
      have hl2 : 0 < (r.drop 1).length := List.length_pos_iff.2 h1
      rw [List.length_drop] at hl2
      split at h
      · have := ih _ _ _ _ _ h; rw [List.length_drop] at this; omega
      split at h
      · have := ih _ _ _ _ _ h; rw [List.length_drop] at this; omega
      split at h
      · have := ih _ _ _ _ _ h; rw [List.length_drop] at this; omega
      · cases h
    split at h
    · cases h
    · have h1 := rch_le isPl r
      have := ih _ _ _ _ _ h
      rw [List.length_drop] at this
      omega

theorem opn_le (a b : Bool) (n : Nat) (h : a = true → n < 30) (h' : n ≤ 30) : (if a = true then n + 1 else if b = true then n - 1 else n) ≤ 30 := by
  cases a with
  | true => have := h rfl; simp only [if_true]; omega
  | false =>
    cases b with
    | true => simp; omega
    | false => simpa using h'
/-- A token that may begin here goes on by a byte or more. -/
theorem tok1_ok {L : List UInt8} {p q : Sp} (h : tok1 L p = .ok q) (hp : p.pos < L.length) (hb : beg (L.drop p.pos) = true) (hm : isOpn (L.getD p.pos 0) = true → p.opn < 30) (ho : p.opn ≤ 30) :
    p.pos < q.pos ∧ q.pos ≤ L.length ∧ q.ins = p.ins ∧ q.toks.length = p.toks.length + 1 ∧ q.opn ≤ 30 := by
  have hdl : (L.drop p.pos).length = L.length - p.pos := List.length_drop
  have hrl : 0 < (L.drop p.pos).length := by omega
  unfold tok1 at h
  simp only [at_drop] at h
  split at h
  · split at h
    · cases h
    · rename_i t y ht
      have := txt_pos _ _ _ _ _ _ ht
      rw [List.length_drop] at this
      cases h
      exact ⟨by show p.pos < y; omega, by show y ≤ _; omega, rfl, by show (p.toks ++ [_]).length = _; simp, ho⟩
  rename_i h34
  split at h
  · rename_i hd
    have h1 := rch_le isDg (L.drop p.pos)
    have h2 : 0 < rch isDg (L.drop p.pos) := rch_pos hrl (by rw [at_drop]; exact hd)
    cases h
    exact ⟨by show p.pos < p.pos + _; omega, by show p.pos + _ ≤ _; omega, rfl, by show (p.toks ++ [_]).length = _; simp, ho⟩
  rename_i hd
  split at h
  · rename_i hlt
    have h1 := rch_le isNm (L.drop p.pos)
    have h2 : 0 < rch isNm (L.drop p.pos) := rch_pos hrl (by rw [at_drop]; unfold isNm; rw [hlt]; rfl)
    cases h
    exact ⟨by show p.pos < p.pos + _; omega, by show p.pos + _ ≤ _; omega, rfl, by show (p.toks ++ [_]).length = _; simp, ho⟩
  rename_i hlt
  have h1 := sgn_le _ hrl
  have h2 : 0 < sgn (L.drop p.pos) := by
    unfold beg at hb
    rw [at_drop] at hb
    rw [show isDg (L.getD p.pos 0) = false from by simpa using hd, show isLt (L.getD p.pos 0) = false from by simpa using hlt] at hb
    simp at hb
    rcases hb with hb | hb
    · exact absurd hb h34
    · exact hb
  cases h
  refine ⟨by show p.pos < p.pos + _; omega, by show p.pos + _ ≤ _; omega, rfl, by show (p.toks ++ [_]).length = _; simp, ?_⟩
  exact opn_le _ _ _ hm ho

theorem skip_ok {L : List UInt8} {p : Sp} (hp : p.pos ≤ L.length) : p.pos ≤ (p.skip L).pos ∧ (p.skip L).pos ≤ L.length := by
  have := skp_len p.opn L.length (L.drop p.pos)
  rw [List.length_drop] at this
  exact ⟨Nat.le_add_right _ _, by show p.pos + _ ≤ _; omega⟩

/-- What is not refused may be. -/
theorem refu_zero {L : List UInt8} {p : Sp} {i : Nat} (h : refu L p i = 0) : beg (L.drop p.pos) = true ∧ (isCls (L.getD p.pos 0) = true → 0 < p.opn) ∧ (isDg (L.getD p.pos 0) = true → noInt (L.drop p.pos) = false) ∧ (isOpn (L.getD p.pos 0) = true → p.opn ≠ 30) ∧ (p.top < i → p.ins.length ≤ 30) := by
  unfold refu at h
  simp only [at_drop] at h
  split at h
  · cases h
  rename_i h1
  split at h
  · cases h
  split at h
  · cases h
  rename_i h3
  split at h
  · cases h
  rename_i h4
  refine ⟨?_, fun hc => ?_, fun hd => ?_, fun hop e => h4 (.inl ⟨hop, e⟩), fun ht => ?_⟩
  · cases hb : beg (L.drop p.pos) with
    | true => rfl
    | false => exact absurd (.inl hb) h1
  · rcases Nat.eq_zero_or_pos p.opn with e | e
    · exact absurd (.inr ⟨hc, e⟩) h1
    · exact e
  · cases hn : noInt (L.drop p.pos) with
    | false => rfl
    | true => exact absurd ⟨hd, hn⟩ h3
  · rcases Nat.lt_or_ge 30 p.ins.length with e | e
    · exact absurd (.inr ⟨ht, e⟩) h4
    · exact e

/-- A turn of a line. -/
theorem turn_ok {L : List UInt8} {p q : Sp} {i : Nat} (h : SpOk L p 1) (hp : p.pos < L.length) (hr : refu L p i = 0) (ht : tok1 L (p.come i) = .ok q) : SpOk L (q.skip L) 1 ∧ p.pos < (q.skip L).pos := by
  obtain ⟨r1, r2, r3, r4, r5⟩ := refu_zero hr
  obtain ⟨a, b, c, d, e⟩ := come_ok h.ins i
  obtain ⟨t1, t2, t3, t4, t5⟩ := tok1_ok ht (by rw [a]; exact hp) (by rw [a]; exact r1) (by rw [a, b]; intro ho; have := r4 ho; have := h.o30; omega) (by rw [b]; exact h.o30)
  obtain ⟨s1, s2⟩ := skip_ok (L := L) t2
  have hi : (p.come i).ins.length ≤ 31 := by
    by_cases htp : p.top < i
    · rw [if_pos htp] at d; have := r5 htp; omega
    · rw [if_neg htp] at d; have := h.i31; omega
  refine ⟨⟨s2, c.of t3, ?_, t5, ?_⟩, by omega⟩
  · show q.ins.length ≤ 31
    rw [t3]; exact hi
  · show q.toks.length + q.ins.length ≤ 4 * (q.skip L).pos + 1
    have := h.cnt
    rw [t3]
    omega
end Go.Proofs.YtdfimmekhbkglaaDoor
