/- A log's entries, as lists of bytes, with their laws: no program is named here. -/
import Derived.Test.YtcfplkfddcblnaaCrcP
import Derived.Test.YtcfplkfddcblnaaInj
namespace Go.Proofs.Ytcfplkfddcblnaa
open Go.RowKit

/-- Four bytes of a number, the lowest first. -/
def le4 (c : Nat) : List UInt8 := [UInt8.ofNat (c % 256), UInt8.ofNat (c / 256 % 256), UInt8.ofNat (c / 65536 % 256), UInt8.ofNat (c / 16777216 % 256)]
def ent (t : List UInt8) : List UInt8 := 76 :: (pk t.length ++ (t ++ le4 (crc t)))
def flat : List (List UInt8) → List UInt8
  | [] => []
  | t :: l => ent t ++ flat l
def Short (l : List (List UInt8)) : Prop := ∀ t ∈ l, t.length ≤ 100000
/-- No whole entry stands at the beginning. -/
def NoEnt (s : List UInt8) : Prop := ¬ ∃ t r, t.length ≤ 100000 ∧ s = ent t ++ r

theorem le4_inj (a b : Nat) (ha : a < 2 ^ 32) (hb : b < 2 ^ 32) (h : le4 a = le4 b) : a = b := by
  unfold le4 at h
  simp only [List.cons.injEq, and_true] at h
  obtain ⟨h0, h1, h2, h3⟩ := h
  have e0 := u8_ofNat_inj (by omega) (by omega) h0
  have e1 := u8_ofNat_inj (by omega) (by omega) h1
  have e2 := u8_ofNat_inj (by omega) (by omega) h2
  have e3 := u8_ofNat_inj (by omega) (by omega) h3
  omega
theorem le4_len (c : Nat) : (le4 c).length = 4 := rfl
theorem ent_len (t : List UInt8) : (ent t).length = 1 + (pk t.length).length + t.length + 4 := by
  simp [ent, le4_len]; omega
theorem ent_pos (t : List UInt8) : 6 ≤ (ent t).length := by
  have := pk_pos t.length
  rw [ent_len]; omega
/-- What begins like an entry but for its text and its check: its text is that long. -/
theorem ent_cut (t : List UInt8) (n : Nat) (x r r' : List UInt8) (h : (76 :: (pk n ++ x)) ++ r' = ent t ++ r) : n = t.length ∧ x ++ r' = t ++ (le4 (crc t) ++ r) := by
  unfold ent at h
  simp only [List.cons_append, List.append_assoc, List.cons.injEq, true_and] at h
  exact pk_inj n n t.length (Nat.le_refl _) _ _ h
theorem ent_inj (t t' r r' : List UInt8) (h : ent t ++ r = ent t' ++ r') : t = t' ∧ r = r' := by
  obtain ⟨h1, h2⟩ := ent_cut t' t.length (t ++ le4 (crc t)) r' r h
  rw [List.append_assoc] at h2
  obtain ⟨h3, h4⟩ := List.append_inj h2 h1
  obtain ⟨_, h5⟩ := List.append_inj h4 (by rw [le4_len, le4_len])
  exact ⟨h3, h5⟩
theorem flat_append (l m : List (List UInt8)) : flat (l ++ m) = flat l ++ flat m := by
  induction l with
  | nil => rfl
  | cons t l ih => simp [flat, ih]
theorem flat_snoc (l : List (List UInt8)) (t : List UInt8) : flat (l ++ [t]) = flat l ++ ent t := by
  rw [flat_append]; simp [flat]
theorem NoEnt.nil : NoEnt [] := fun ⟨t, r, _, h⟩ => by simp [ent] at h
theorem flat_unique (l : List (List UInt8)) : ∀ (l' : List (List UInt8)) (r r' : List UInt8), Short l → Short l' → NoEnt r → NoEnt r' → flat l ++ r = flat l' ++ r' → l = l' ∧ r = r' := by
  induction l with
  | nil =>
    intro l' r r' _ hs' hr _ h
    cases l' with
    | nil => exact ⟨rfl, by simpa [flat] using h⟩
    | cons t l' => exact absurd ⟨t, flat l' ++ r', hs' t (List.mem_cons_self ..), by simpa [flat] using h⟩ hr
  | cons t l ih =>
    intro l' r r' hs hs' hr hr' h
    cases l' with
    | nil => exact absurd ⟨t, flat l ++ r, hs t (List.mem_cons_self ..), by simpa [flat] using h.symm⟩ hr'
    | cons t' l' =>
      simp only [flat, List.append_assoc] at h
      obtain ⟨rfl, h2⟩ := ent_inj _ _ _ _ h
      obtain ⟨rfl, h3⟩ := ih l' r r' (fun x hx => hs x (List.mem_cons_of_mem _ hx)) (fun x hx => hs' x (List.mem_cons_of_mem _ hx)) hr hr' h2
      exact ⟨rfl, h3⟩
theorem flat_len (l : List (List UInt8)) : 6 * l.length ≤ (flat l).length := by
  induction l with
  | nil => simp [flat]
  | cons t l ih => simp only [flat, List.length_append, List.length_cons]; have := ent_pos t; omega
/-- Every list of bytes is entries, and behind them what does not begin with one. -/
theorem flat_all : ∀ (n : Nat) (s : List UInt8), s.length ≤ n → ∃ l r, Short l ∧ NoEnt r ∧ s = flat l ++ r := by
  intro n
  induction n with
  | zero =>
    intro s hs
    have : s = [] := List.length_eq_zero_iff.1 (by omega)
    subst this
    exact ⟨[], [], by simp [Short], NoEnt.nil, rfl⟩
  | succ n ih =>
    intro s hs
    by_cases h : NoEnt s
    · exact ⟨[], s, by simp [Short], h, rfl⟩
    · obtain ⟨t, r, ht, rfl⟩ := Classical.not_not.1 h
      obtain ⟨l, r', hl, hr, rfl⟩ := ih r (by have := ent_pos t; simp at hs; omega)
      refine ⟨t :: l, r', ?_, hr, by simp [flat]⟩
      intro x hx
      rcases List.mem_cons.1 hx with rfl | hx
      · exact ht
      · exact hl x hx
/-- A part of an entry is none. -/
theorem NoEnt.part (t p q : List UInt8) (h : p ++ q = ent t) (hq : q ≠ []) : NoEnt p := by
  rintro ⟨t', r, _, rfl⟩
  rw [List.append_assoc] at h
  have h2 : ent t' ++ (r ++ q) = ent t ++ [] := by rw [h, List.append_nil]
  have := (ent_inj _ _ _ _ h2).2
  exact hq (List.append_eq_nil_iff.1 this).2
/-- Nor is one in whose text a byte is another one. -/
theorem NoEnt.changed (l m : List UInt8) (b c : UInt8) (hbc : b ≠ c) (r : List UInt8) : NoEnt (76 :: (pk (l ++ b :: m).length ++ ((l ++ c :: m) ++ le4 (crc (l ++ b :: m)))) ++ r) := by
  rintro ⟨t, r', _, h⟩
  obtain ⟨h1, h2⟩ := ent_cut t _ _ r' r h
  have hl : (l ++ c :: m).length = t.length := by rw [← h1]; simp
  rw [List.append_assoc] at h2
  obtain ⟨h3, h4⟩ := List.append_inj h2 hl
  obtain ⟨h5, _⟩ := List.append_inj h4 (by rw [le4_len, le4_len])
  rw [← h3] at h5
  exact crc_change l m b c hbc (le4_inj _ _ (crc_lt _) (crc_lt _) h5)
end Go.Proofs.Ytcfplkfddcblnaa
