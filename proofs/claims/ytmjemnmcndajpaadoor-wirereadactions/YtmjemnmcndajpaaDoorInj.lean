/- Two lists of texts are never packed alike. -/
import Derived.Test.YtmjemnmcndajpaaDoorPackTs
namespace Go.Proofs.YtmjemnmcndajpaaDoor
open Go.RowKit Go.Shelf

theorem u8_ofNat_inj {a b : Nat} (ha : a < 256) (hb : b < 256) (h : UInt8.ofNat a = UInt8.ofNat b) : a = b := by
  have := congrArg UInt8.toNat h
  simp [UInt8.toNat_ofNat'] at this
  omega
theorem pk_inj : ∀ f n m : Nat, n ≤ f → ∀ r r' : List UInt8, pk n ++ r = pk m ++ r' → n = m ∧ r = r' := by
  intro f
  induction f with
  | zero =>
    intro n m hn r r' h
    obtain rfl : n = 0 := by omega
    by_cases hm : m < 128
    · rw [pk_small 0 (by decide), pk_small m hm] at h
      simp only [List.cons_append, List.nil_append, List.cons.injEq] at h
      exact ⟨u8_ofNat_inj (by decide) (by omega) h.1, h.2⟩
    · rw [pk_small 0 (by decide), pk_more m (by omega)] at h
      simp only [List.cons_append, List.nil_append, List.cons.injEq] at h
      have := u8_ofNat_inj (by decide) (by omega) h.1
      omega
  | succ f ih =>
    intro n m hn r r' h
    by_cases h1 : n < 128
    · by_cases hm : m < 128
      · rw [pk_small n h1, pk_small m hm] at h
        simp only [List.cons_append, List.nil_append, List.cons.injEq] at h
        exact ⟨u8_ofNat_inj (by omega) (by omega) h.1, h.2⟩
      · rw [pk_small n h1, pk_more m (by omega)] at h
        simp only [List.cons_append, List.nil_append, List.cons.injEq] at h
        have := u8_ofNat_inj (by omega) (by omega) h.1
        omega
    · by_cases hm : m < 128
      · rw [pk_more n (by omega), pk_small m hm] at h
        simp only [List.cons_append, List.nil_append, List.cons.injEq] at h
        have := u8_ofNat_inj (by omega) (by omega) h.1
        omega
      · rw [pk_more n (by omega), pk_more m (by omega)] at h
        simp only [List.cons_append, List.cons.injEq] at h
        have e1 := u8_ofNat_inj (by omega) (by omega) h.1
        have e2 := ih (n / 128) (m / 128) (by omega) r r' h.2
        exact ⟨by omega, e2.2⟩
theorem pkT_inj (s s' : ByteArray) (r r' : List UInt8) (h : pkT s ++ r = pkT s' ++ r') : s = s' ∧ r = r' := by
  unfold pkT at h
  rw [List.append_assoc, List.append_assoc] at h
  obtain ⟨e1, e2⟩ := pk_inj s.size s.size s'.size (Nat.le_refl _) _ _ h
  have hl : s.data.toList.length = s'.data.toList.length := by rw [← size_of (s := s) rfl, ← size_of (s := s') rfl]; exact e1
  obtain ⟨e3, e4⟩ := List.append_inj e2 hl
  exact ⟨(bytes_eq e3).trans (bytes_eq rfl).symm, e4⟩
theorem pkSS_inj : ∀ (ss ss' : List ByteArray) (r r' : List UInt8), ss.length = ss'.length → pkSS ss ++ r = pkSS ss' ++ r' → ss = ss' ∧ r = r' := by
  intro ss
  induction ss with
  | nil =>
    intro ss' r r' hl h
    have : ss' = [] := List.length_eq_zero_iff.1 hl.symm
    subst this
    exact ⟨rfl, by simpa [pkSS] using h⟩
  | cons s l ih =>
    intro ss' r r' hl h
    cases ss' with
    | nil => simp at hl
    | cons s' l' =>
      simp only [pkSS, List.append_assoc] at h
      obtain ⟨e1, e2⟩ := pkT_inj s s' _ _ h
      obtain ⟨e3, e4⟩ := ih l' r r' (by simpa using hl) e2
      exact ⟨by rw [e1, e3], e4⟩
theorem pkTexts_inj (ss ss' : List ByteArray) (h : pk ss.length ++ pkSS ss = pk ss'.length ++ pkSS ss') : ss = ss' := by
  obtain ⟨e1, e2⟩ := pk_inj ss.length ss.length ss'.length (Nat.le_refl _) _ _ h
  exact (pkSS_inj ss ss' [] [] e1 (by simpa using e2)).1
theorem map_bytes (ss : List ByteArray) : (ss.map fun s => s.data.toList).map (fun t => (⟨t.toArray⟩ : ByteArray)) = ss := by
  rw [List.map_map]
  conv => rhs; rw [← List.map_id ss]
  apply List.map_congr_left
  intro s _
  exact (bytes_eq rfl).symm
theorem pkAll_map (ss : List ByteArray) : pkAll (ss.map fun s => s.data.toList) = pkSS ss := by
  rw [← pkSS_all, map_bytes]

theorem ReadTexts_ss (ss : List ByteArray) (w : World) (hok : okTexts ss) :
    Calls Tryd.prog 18 #[.string ⟨(pk ss.length ++ pkSS ss).toArray⟩] w fun e w' => ∃ v, e = .returned (.tuple #[v, .int .i64 0]) ∧ OldTexts w'.heap.size w' v ss ∧ Below w.heap.size w w' := by
  have hl := pkTexts_len ss hok
  have hsz : (⟨(pk ss.length ++ pkSS ss).toArray⟩ : ByteArray).size = (pk ss.length ++ pkSS ss).length := size_of rfl
  refine (ReadTexts_pk _ w (ss.map fun s => s.data.toList) (by rw [hsz]; unfold maxLen; omega) (by simpa using hok.1) (fun t ht => ?_) (by rw [pkAll_map]; simp)).mono ?_
  · obtain ⟨s, hs, rfl⟩ := List.mem_map.1 ht
    rw [← size_of (s := s) rfl]
    exact hok.2 s hs
  · rintro e w' ⟨v, rfl, hown, hb⟩
    have ht := own_texts hown (by rw [List.length_map]; have := hok.1; omega)
    rw [map_bytes] at ht
    exact ⟨v, rfl, old_of w' v ss ht, hb⟩
end Go.Proofs.YtmjemnmcndajpaaDoor
