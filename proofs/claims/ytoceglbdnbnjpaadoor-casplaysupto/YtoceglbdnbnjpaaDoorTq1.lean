/- The line's methods, through the heap's interface. -/
import Derived.ProofKit
import Derived.Below
import Derived.WalkSmall
import Derived.Lib.SmallJoins
import Derived.Lib.Slices
import Derived.Lib.Walk
import Derived.Deep.RegionHeld3
import Derived.Deep.AppendLies
import Derived.Deep.QuietTactic
import Derived.BigQuiet
import Derived.BigRegion
import Derived.Shelf.Abstract
import Derived.Maps.OwnSet
import Derived.Maps.Views
import Derived.Lib.Hide
import Derived.Test.YtoceglbdnbnjpaaDoorRows
import Derived.Test.YtoceglbdnbnjpaaDoorChecked
import Derived.Laws.AppendOwnNone
namespace Go.Proofs.YtoceglbdnbnjpaaDoor
open Go.RowKit Go.Shelf

theorem wrapNil (ts : Array TypeId) (t : TypeId) (a : Addr) (s1 s2 : String) : Builtin.ssaWrapNilChk_ ts t #[.pointer (some a), strVal s1, strVal s2] = pure (.pointer (some a)) := rfl
theorem meth_val {P : Program} {T e f : Nat} {a : Addr} {name : String} {x : Value} {w : World} (hm : (P.info? T).map (fun i => (i.methods.find? (·.name == name)).map fun m => (m.path, m.func)) = some (some (#[], some (f, false)))) (hu : P.underlying T = some (.pointer e)) (ha : ∀ W, (isAgg e).run P W = .ok false W) (h : w.cell? a = some x) :
    (method (P.types.size + Made.depth) T (.pointer (some a)) name).run P w = .ok (f, x) w := by
  obtain ⟨i, hi, hm⟩ := Option.map_eq_some_iff.1 hm
  obtain ⟨m, hf, hm⟩ := Option.map_eq_some_iff.1 hm
  obtain ⟨hp, hff⟩ := Prod.mk.inj hm
  obtain ⟨k, hk⟩ : ∃ k, P.types.size + Made.depth = k + 1 := ⟨P.types.size + 99, rfl⟩
  rw [hk]
  unfold method
  simp [typeInfo, hi, hf, hp, hff, follow, receiverAt, run_underlying hu, Place.get, wrapNil, asAddr, loadVar, ha, go_sem, h]
theorem meth_ptr {P : Program} {T e f : Nat} {name : String} {v : Value} {w : World} (hm : (P.info? T).map (fun i => (i.methods.find? (·.name == name)).map fun m => (m.path, m.func)) = some (some (#[], some (f, true)))) (hu : P.underlying T = some (.pointer e)) :
    (method (P.types.size + Made.depth) T v name).run P w = .ok (f, v) w := by
  obtain ⟨i, hi, hm⟩ := Option.map_eq_some_iff.1 hm
  obtain ⟨m, hf, hm⟩ := Option.map_eq_some_iff.1 hm
  obtain ⟨hp, hff⟩ := Prod.mk.inj hm
  obtain ⟨k, hk⟩ : ∃ k, P.types.size + Made.depth = k + 1 := ⟨P.types.size + 99, rfl⟩
  rw [hk]
  unfold method
  simp [typeInfo, hi, hf, hp, hff, follow, receiverAt, run_underlying hu, Place.get]
/-- A store's line, as the heap's calls have it. -/
abbrev lnP (P : Nat) : Value := .pointer (some ⟨P, 5, none⟩)
abbrev lnI (P : Nat) : Value := .iface 84 (lnP P)
theorem depth_is : Tryd.prog.types.size + Made.depth = 229 := by kernel_rfl
theorem m_len {P : Nat} {v : Value} {w : World} (h : w.cell? ⟨P, 5, none⟩ = some v) : (method 229 84 (lnP P) "Len").run Tryd.prog w = .ok (85, v) w := by
  rw [← depth_is]; exact meth_val (by kernel_rfl) Tryd.underlying84 (fun W => Tryd.isAgg60 W) h
theorem m_less {P : Nat} {v : Value} {w : World} (h : w.cell? ⟨P, 5, none⟩ = some v) : (method 229 84 (lnP P) "Less").run Tryd.prog w = .ok (86, v) w := by
  rw [← depth_is]; exact meth_val (by kernel_rfl) Tryd.underlying84 (fun W => Tryd.isAgg60 W) h
theorem m_swap {P : Nat} {v : Value} {w : World} (h : w.cell? ⟨P, 5, none⟩ = some v) : (method 229 84 (lnP P) "Swap").run Tryd.prog w = .ok (87, v) w := by
  rw [← depth_is]; exact meth_val (by kernel_rfl) Tryd.underlying84 (fun W => Tryd.isAgg60 W) h
theorem m_push {v : Value} {w : World} : (method 229 84 v "Push").run Tryd.prog w = .ok (89, v) w := by
  rw [← depth_is]; exact meth_ptr (by kernel_rfl) Tryd.underlying84
theorem m_pop {v : Value} {w : World} : (method 229 84 v "Pop").run Tryd.prog w = .ok (88, v) w := by
  rw [← depth_is]; exact meth_ptr (by kernel_rfl) Tryd.underlying84
end Go.Proofs.YtoceglbdnbnjpaaDoor

/- A heap, plain: what up and down come to; that it stays one; that the first is the least. -/
namespace Go.Proofs.YtoceglbdnbnjpaaDoor
open Go.RowKit Go.Shelf

theorem set_perm {α : Type} : ∀ (L : List α) (i : Nat) (a : α) (_ : i < L.length), (L.set i a).Perm (a :: L.eraseIdx i)
  | b :: l, 0, a, _ => List.Perm.refl _
  | b :: l, i + 1, a, hi => by
    have := set_perm l i a (by simpa using hi)
    exact (List.Perm.cons b this).trans (List.Perm.swap a b _)
theorem erase_perm {α : Type} (L : List α) (i : Nat) (hi : i < L.length) : L.Perm (L[i] :: L.eraseIdx i) := by
  have := set_perm L i L[i] hi
  rwa [List.set_getElem_self] at this
section
variable {α : Type} [Inhabited α]
/-- Two things change places. -/
def swp (L : List α) (i j : Nat) : List α := (L.set i (L.getD j default)).set j (L.getD i default)
theorem swp_len (L : List α) (i j : Nat) : (swp L i j).length = L.length := by unfold swp; simp
theorem swp_get (L : List α) {i j : Nat} (hi : i < L.length) (hj : j < L.length) (k : Nat) : (swp L i j).getD k default = if k = j then L.getD i default else if k = i then L.getD j default else L.getD k default := by
  unfold swp
  simp only [List.getD_eq_getElem?_getD, List.getElem?_set, List.length_set]
  by_cases h1 : k = j
  · subst h1; simp [hj]
  · by_cases h2 : k = i
    · subst h2
      simp only [h1, Ne.symm h1, if_false, if_true, hi]
      rfl
    · simp [h1, h2, Ne.symm h1, Ne.symm h2]
theorem swp_perm (L : List α) {i j : Nat} (hi : i < L.length) (hj : j < L.length) : (swp L i j).Perm L := by
  by_cases hij : i = j
  · subst hij
    unfold swp
    rw [List.set_set, List.getD_eq_getElem?_getD, List.getElem?_eq_getElem hi]
    show (L.set i L[i]).Perm L
    rw [List.set_getElem_self]
  · unfold swp
    rw [List.getD_eq_getElem?_getD, List.getD_eq_getElem?_getD, List.getElem?_eq_getElem hi, List.getElem?_eq_getElem hj]
    show ((L.set i L[j]).set j L[i]).Perm L
    have hj2 : j < (L.set i L[j]).length := by simpa using hj
    have e : (L.set i L[j])[j] = L[j] := by rw [List.getElem_set_ne (by omega)]
    have p1 := set_perm (L.set i L[j]) j L[i] hj2
    have p2 := erase_perm (L.set i L[j]) j hj2
    rw [e] at p2
    have p3 := set_perm L i L[j] hi
    have p4 := erase_perm L i hi
    have p5 : ((L.set i L[j]).eraseIdx j).Perm (L.eraseIdx i) := List.Perm.cons_inv (p2.symm.trans p3)
    exact p1.trans ((List.Perm.cons _ p5).trans p4.symm)

variable (lt : α → α → Bool)
/-- What is less, told apart: no thing is less than itself, and what is not less stays so. -/
structure Wk : Prop where
  irr : ∀ a, lt a a = false
  trn : ∀ a b c, lt a b = false → lt b c = false → lt a c = false
  asy : ∀ a b, lt a b = true → lt b a = false
/-- A heap: none is less than the one above it; so far. -/
def Hp (L : List α) (n : Nat) : Prop := ∀ k, 0 < k → k < n → lt (L.getD k default) (L.getD ((k - 1) / 2) default) = false
/-- A heap, but for what stands at j, which may be less than the one above it. -/
structure HpUp (L : List α) (n j : Nat) : Prop where
  oth : ∀ k, 0 < k → k < n → k ≠ j → lt (L.getD k default) (L.getD ((k - 1) / 2) default) = false
  kid : ∀ k, 0 < k → k < n → (k - 1) / 2 = j → 0 < j → lt (L.getD k default) (L.getD ((j - 1) / 2) default) = false
/-- Up, so many steps at most. -/
def upH : Nat → List α → Nat → List α
  | 0, L, _ => L
  | f + 1, L, j => if (j - 1) / 2 = j ∨ lt (L.getD j default) (L.getD ((j - 1) / 2) default) = false then L else upH f (swp L ((j - 1) / 2) j) ((j - 1) / 2)
theorem upH_len : ∀ (f : Nat) (L : List α) (j : Nat), (upH lt f L j).length = L.length
  | 0, _, _ => rfl
  | f + 1, L, j => by
    unfold upH
    split
    · rfl
    · rw [upH_len f, swp_len]
theorem upH_perm : ∀ (f : Nat) (L : List α) (j : Nat), j < L.length → (upH lt f L j).Perm L
  | 0, L, _, _ => List.Perm.refl L
  | f + 1, L, j, hj => by
    unfold upH
    split
    · exact List.Perm.refl L
    · exact (upH_perm f _ _ (by rw [swp_len]; omega)).trans (swp_perm L (by omega) hj)
variable {lt}
theorem upH_hp (hw : Wk lt) : ∀ (f : Nat) (L : List α) (j : Nat), j < L.length → j ≤ f → HpUp lt L L.length j → Hp lt (upH lt f L j) L.length
  | 0, L, j, hj, hf, h => by
    intro k hk hkn
    exact h.oth k hk hkn (by omega)
  | f + 1, L, j, hj, hf, h => by
    unfold upH
    split
    · rename_i hc
      intro k hk hkn
      by_cases e : k = j
      · subst e
        rcases hc with hc | hc
        · omega
        · exact hc
      · exact h.oth k hk hkn e
    · rename_i hc
      have hj0 : 0 < j := by omega
      have hi : (j - 1) / 2 < L.length := by omega
      have hless : lt (L.getD j default) (L.getD ((j - 1) / 2) default) = true := by
        cases e : lt (L.getD j default) (L.getD ((j - 1) / 2) default) with
        | true => rfl
        | false => exact absurd (.inr e) hc
      have ih := upH_hp hw f (swp L ((j - 1) / 2) j) ((j - 1) / 2) (by rw [swp_len]; exact hi) (by omega)
      rw [swp_len] at ih
      refine ih ⟨fun k hk hkn hne => ?_, fun k hk hkn hp hi0 => ?_⟩
      · rw [swp_get L hi hj, swp_get L hi hj]
        by_cases e1 : k = j
        · subst e1
          rw [if_pos rfl, if_neg (by omega), if_pos rfl]
          exact hw.asy _ _ hless
        · rw [if_neg e1, if_neg hne]
          by_cases e2 : (k - 1) / 2 = j
          · rw [if_pos e2]
            exact h.kid k hk hkn e2 hj0
          · rw [if_neg e2]
            by_cases e3 : (k - 1) / 2 = (j - 1) / 2
            · rw [if_pos e3]
              have := h.oth k hk hkn e1
              rw [e3] at this
              exact hw.trn _ _ _ this (hw.asy _ _ hless)
            · rw [if_neg e3]
              exact h.oth k hk hkn e1
      · rw [swp_get L hi hj, swp_get L hi hj]
        have hne2 : ((j - 1) / 2 - 1) / 2 ≠ j := by omega
        have hne3 : ((j - 1) / 2 - 1) / 2 ≠ (j - 1) / 2 := by omega
        have hpp := h.oth ((j - 1) / 2) hi0 hi (by omega)
        rw [if_neg hne2, if_neg hne3]
        by_cases e1 : k = j
        · rw [if_pos e1]
          exact hpp
        · rw [if_neg e1, if_neg (by omega)]
          have := h.oth k hk hkn e1
          rw [hp] at this
          exact hw.trn _ _ _ this hpp
/-- One more. -/
theorem push_hp (hw : Wk lt) (L : List α) (x : α) (h : Hp lt L L.length) : Hp lt (upH lt L.length (L ++ [x]) L.length) (L.length + 1) := by
  have hl : (L ++ [x]).length = L.length + 1 := by simp
  have := upH_hp hw L.length (L ++ [x]) L.length (by omega) (Nat.le_refl _) ⟨fun k hk hkn hne => ?_, fun k hk hkn hp h0 => by omega⟩
  · rwa [hl] at this
  · have g : ∀ i, i < L.length → (L ++ [x]).getD i default = L.getD i default := fun i hi => by
      rw [List.getD_eq_getElem?_getD, List.getD_eq_getElem?_getD, List.getElem?_append_left hi]
    rw [g k (by omega), g _ (by omega)]
    exact h k hk (by omega)
/-- The first is the least. -/
theorem hp_least (hw : Wk lt) {L : List α} {n : Nat} (h : Hp lt L n) : ∀ k, k < n → lt (L.getD k default) (L.getD 0 default) = false := by
  intro k
  induction k using Nat.strongRecOn with
  | _ k ih =>
    intro hk
    by_cases h0 : k = 0
    · subst h0; exact hw.irr _
    · exact hw.trn _ _ _ (h k (by omega) hk) (ih ((k - 1) / 2) (by omega) (by omega))
/-- A heap of the first n, but for what stands at i, which may be more than those below it. -/
structure HpDn (lt : α → α → Bool) (L : List α) (n i : Nat) : Prop where
  oth : ∀ k, 0 < k → k < n → (k - 1) / 2 ≠ i → lt (L.getD k default) (L.getD ((k - 1) / 2) default) = false
  kid : ∀ k, 0 < k → k < n → (k - 1) / 2 = i → 0 < i → lt (L.getD k default) (L.getD ((i - 1) / 2) default) = false
variable (lt)
/-- The lesser of two below. -/
def kidH (L : List α) (n i : Nat) : Nat := if 2 * i + 2 < n ∧ lt (L.getD (2 * i + 2) default) (L.getD (2 * i + 1) default) = true then 2 * i + 2 else 2 * i + 1
/-- Down, so many steps at most. -/
def dnH : Nat → List α → Nat → Nat → List α
  | 0, L, _, _ => L
  | f + 1, L, n, i => if n ≤ 2 * i + 1 ∨ lt (L.getD (kidH lt L n i) default) (L.getD i default) = false then L else dnH f (swp L i (kidH lt L n i)) n (kidH lt L n i)
theorem kid_lt (L : List α) {n i : Nat} (h : ¬ n ≤ 2 * i + 1) : kidH lt L n i < n ∧ i < kidH lt L n i ∧ (kidH lt L n i - 1) / 2 = i := by
  unfold kidH
  split <;> omega
theorem dnH_len : ∀ (f : Nat) (L : List α) (n i : Nat), (dnH lt f L n i).length = L.length
  | 0, _, _, _ => rfl
  | f + 1, L, n, i => by
    unfold dnH
    split
    · rfl
    · rw [dnH_len f, swp_len]
theorem dnH_perm : ∀ (f : Nat) (L : List α) (n i : Nat), n ≤ L.length → (dnH lt f L n i).Perm L
  | 0, L, _, _, _ => List.Perm.refl L
  | f + 1, L, n, i, hn => by
    unfold dnH
    split
    · exact List.Perm.refl L
    · rename_i hc
      obtain ⟨h1, h2, _⟩ := kid_lt lt L (n := n) (i := i) (fun h => hc (.inl h))
      exact (dnH_perm f _ _ _ (by rw [swp_len]; exact hn)).trans (swp_perm L (by omega) (by omega))
/-- What stands behind the first n stays. -/
theorem dnH_keep : ∀ (f : Nat) (L : List α) (n i k : Nat), n ≤ L.length → n ≤ k → (dnH lt f L n i).getD k default = L.getD k default
  | 0, _, _, _, _, _, _ => rfl
  | f + 1, L, n, i, k, hn, hk => by
    unfold dnH
    split
    · rfl
    · rename_i hc
      obtain ⟨h1, h2, _⟩ := kid_lt lt L (n := n) (i := i) (fun h => hc (.inl h))
      rw [dnH_keep f _ _ _ _ (by rw [swp_len]; exact hn) hk, swp_get L (by omega) (by omega), if_neg (by omega), if_neg (by omega)]
variable {lt}
theorem dnH_hp (hw : Wk lt) : ∀ (f : Nat) (L : List α) (n i : Nat), n ≤ L.length → n ≤ i + f → HpDn lt L n i → Hp lt (dnH lt f L n i) n
  | 0, L, n, i, hn, hf, h => fun k hk hkn => h.oth k hk hkn (by omega)
  | f + 1, L, n, i, hn, hf, h => by
    unfold dnH
    split
    · rename_i hc
      intro k hk hkn
      by_cases e : (k - 1) / 2 = i
      · rcases hc with hc | hc
        · omega
        · rw [e]
          unfold kidH at hc
          rcases (show k = 2 * i + 1 ∨ k = 2 * i + 2 by omega) with e2 | e2
          · split at hc
            · rename_i h2
              rw [e2]
              exact hw.trn _ _ _ (hw.asy _ _ h2.2) hc
            · rw [e2]; exact hc
          · split at hc
            · rw [e2]; exact hc
            · rename_i h2
              have h3 : lt (L.getD (2 * i + 2) default) (L.getD (2 * i + 1) default) = false := by
                cases e3 : lt (L.getD (2 * i + 2) default) (L.getD (2 * i + 1) default) with
                | false => rfl
                | true => exact absurd ⟨by omega, e3⟩ h2
              rw [e2]
              exact hw.trn _ _ _ h3 hc
      · exact h.oth k hk hkn e
    · rename_i hc
      have hkid := kid_lt lt L (n := n) (i := i) (fun h => hc (.inl h))
      have hless : lt (L.getD (kidH lt L n i) default) (L.getD i default) = true := by
        cases e : lt (L.getD (kidH lt L n i) default) (L.getD i default) with
        | true => rfl
        | false => exact absurd (.inr e) hc
      have hmin : ∀ k, 0 < k → k < n → (k - 1) / 2 = i → lt (L.getD k default) (L.getD (kidH lt L n i) default) = false := by
        intro k hk hkn e
        unfold kidH
        split
        · rename_i h2
          rcases (show k = 2 * i + 1 ∨ k = 2 * i + 2 by omega) with e2 | e2
          · rw [e2]; exact hw.asy _ _ h2.2
          · rw [e2]; exact hw.irr _
        · rename_i h2
          rcases (show k = 2 * i + 1 ∨ k = 2 * i + 2 by omega) with e2 | e2
          · rw [e2]; exact hw.irr _
          · rw [e2]
            cases e3 : lt (L.getD (2 * i + 2) default) (L.getD (2 * i + 1) default) with
            | false => rfl
            | true => exact absurd ⟨by omega, e3⟩ h2
      obtain ⟨h1, h2, h3⟩ := hkid
      generalize kidH lt L n i = j at *
      have hi : i < L.length := by omega
      have hj : j < L.length := by omega
      have ih := dnH_hp hw f (swp L i j) n j (by rw [swp_len]; exact hn) (by omega)
      refine ih ⟨fun k hk hkn hne => ?_, fun k hk hkn hp hj0 => ?_⟩
      · rw [swp_get L hi hj, swp_get L hi hj, if_neg hne]
        by_cases e1 : k = j
        · rw [if_pos e1, e1, h3, if_pos rfl]
          exact hw.asy _ _ hless
        · rw [if_neg e1]
          by_cases e2 : k = i
          · rw [if_pos e2, e2, if_neg (by omega)]
            have hi0 : 0 < i := by omega
            exact h.kid j (by omega) h1 h3 hi0
          · rw [if_neg e2]
            by_cases e3 : (k - 1) / 2 = i
            · rw [if_pos e3]
              exact hmin k hk hkn e3
            · rw [if_neg e3]
              exact h.oth k hk hkn e3
      · rw [swp_get L hi hj, swp_get L hi hj, h3, if_neg (by omega), if_neg (by omega), if_neg (by omega), if_pos rfl]
        have := h.oth k hk hkn (by omega)
        rw [hp] at this
        exact this
/-- The first is taken out: what is left, and what was taken. -/
def popH (lt : α → α → Bool) (L : List α) : List α := (dnH lt L.length (swp L 0 (L.length - 1)) (L.length - 1) 0).take (L.length - 1)
theorem pop_hp (hw : Wk lt) (L : List α) (h : Hp lt L L.length) : Hp lt (popH lt L) (L.length - 1) := by
  by_cases h0 : L.length = 0
  · intro k hk hkn; omega
  have hs : (swp L 0 (L.length - 1)).length = L.length := swp_len _ _ _
  have := dnH_hp hw L.length (swp L 0 (L.length - 1)) (L.length - 1) 0 (by omega) (by omega) ⟨fun k hk hkn hne => by
    rw [swp_get L (by omega) (by omega), swp_get L (by omega) (by omega), if_neg (by omega), if_neg (by omega), if_neg (by omega), if_neg hne]
    exact h k hk (by omega), fun k hk hkn hp hi => by omega⟩
  intro k hk hkn
  have g : ∀ i, i < L.length - 1 → (popH lt L).getD i default = (dnH lt L.length (swp L 0 (L.length - 1)) (L.length - 1) 0).getD i default := fun i hi => by
    unfold popH
    rw [List.getD_eq_getElem?_getD, List.getD_eq_getElem?_getD, List.getElem?_take_of_lt hi]
  rw [g k hkn, g _ (by omega)]
  exact this k hk hkn
theorem pop_perm (lt : α → α → Bool) (L : List α) (h0 : 0 < L.length) : (L.getD 0 default :: popH lt L).Perm L := by
  obtain ⟨D, hD⟩ : ∃ D, D = dnH lt L.length (swp L 0 (L.length - 1)) (L.length - 1) 0 := ⟨_, rfl⟩
  have hs : (swp L 0 (L.length - 1)).length = L.length := swp_len _ _ _
  have hl : D.length = L.length := by rw [hD, dnH_len, hs]
  have hp : D.Perm L := by rw [hD]; exact (dnH_perm lt _ _ _ _ (by omega)).trans (swp_perm L (by omega) (by omega))
  have hlast : D.getD (L.length - 1) default = L.getD 0 default := by
    rw [hD, dnH_keep lt _ _ _ _ _ (by omega) (Nat.le_refl _), swp_get L (by omega) (by omega), if_pos rfl]
  have e : D = D.take (L.length - 1) ++ [D.getD (L.length - 1) default] := by
    have := List.take_append_drop (L.length - 1) D
    rw [List.drop_eq_getElem_cons (by omega), List.drop_eq_nil_of_le (by omega)] at this
    rw [List.getD_eq_getElem?_getD, List.getElem?_eq_getElem (by omega)]
    exact this.symm
  have hpop : popH lt L = D.take (L.length - 1) := by unfold popH; rw [← hD]
  rw [hpop, ← hlast]
  refine List.Perm.trans ?_ hp
  rw [List.perm_comm]
  refine (List.Perm.of_eq e).trans ?_
  exact List.perm_append_comm
end
end Go.Proofs.YtoceglbdnbnjpaaDoor

/- A heap, plain: what stands at one place is another one, or goes. -/
namespace Go.Proofs.YtoceglbdnbnjpaaDoor
open Go.RowKit Go.Shelf

section
variable {α : Type} [Inhabited α] {lt : α → α → Bool}
theorem upH_hpn (hw : Wk lt) : ∀ (f : Nat) (L : List α) (n j : Nat), j < n → n ≤ L.length → j ≤ f → HpUp lt L n j → Hp lt (upH lt f L j) n
  | 0, L, n, j, hj, hn, hf, h => by
    intro k hk hkn
    exact h.oth k hk hkn (by omega)
  | f + 1, L, n, j, hj, hn, hf, h => by
    unfold upH
    split
    · rename_i hc
      intro k hk hkn
      by_cases e : k = j
      · subst e
        rcases hc with hc | hc
        · omega
        · exact hc
      · exact h.oth k hk hkn e
    · rename_i hc
      have hj0 : 0 < j := by omega
      have hi : (j - 1) / 2 < L.length := by omega
      have hj2 : j < L.length := by omega
      have hless : lt (L.getD j default) (L.getD ((j - 1) / 2) default) = true := by
        cases e : lt (L.getD j default) (L.getD ((j - 1) / 2) default) with
        | true => rfl
        | false => exact absurd (.inr e) hc
      refine upH_hpn hw f (swp L ((j - 1) / 2) j) n ((j - 1) / 2) (by omega) (by rw [swp_len]; exact hn) (by omega) ⟨fun k hk hkn hne => ?_, fun k hk hkn hp hi0 => ?_⟩
      · rw [swp_get L hi hj2, swp_get L hi hj2]
        by_cases e1 : k = j
        · subst e1
          rw [if_pos rfl, if_neg (by omega), if_pos rfl]
          exact hw.asy _ _ hless
        · rw [if_neg e1, if_neg hne]
          by_cases e2 : (k - 1) / 2 = j
          · rw [if_pos e2]
            exact h.kid k hk hkn e2 hj0
          · rw [if_neg e2]
            by_cases e3 : (k - 1) / 2 = (j - 1) / 2
            · rw [if_pos e3]
              have := h.oth k hk hkn e1
              rw [e3] at this
              exact hw.trn _ _ _ this (hw.asy _ _ hless)
            · rw [if_neg e3]
              exact h.oth k hk hkn e1
      · rw [swp_get L hi hj2, swp_get L hi hj2]
        have hne2 : ((j - 1) / 2 - 1) / 2 ≠ j := by omega
        have hne3 : ((j - 1) / 2 - 1) / 2 ≠ (j - 1) / 2 := by omega
        have hpp := h.oth ((j - 1) / 2) hi0 (by omega) (by omega)
        rw [if_neg hne2, if_neg hne3]
        by_cases e1 : k = j
        · rw [if_pos e1]
          exact hpp
        · rw [if_neg e1, if_neg (by omega)]
          have := h.oth k hk hkn e1
          rw [hp] at this
          exact hw.trn _ _ _ this hpp
theorem upH_keep : ∀ (f : Nat) (L : List α) (n j k : Nat), n ≤ L.length → j < n → n ≤ k → (upH lt f L j).getD k default = L.getD k default
  | 0, _, _, _, _, _, _, _ => rfl
  | f + 1, L, n, j, k, hn, hj, hk => by
    unfold upH
    split
    · rfl
    · rw [upH_keep f _ n _ _ (by rw [swp_len]; exact hn) (by omega) hk, swp_get L (by omega) (by omega), if_neg (by omega), if_neg (by omega)]
variable (lt)
/-- Does it go down? -/
def dnM (L : List α) (n i : Nat) : Bool := decide (2 * i + 1 < n) && lt (L.getD (kidH lt L n i) default) (L.getD i default)
/-- Down, or else up. -/
def fixH (L : List α) (n i : Nat) : List α := if dnM lt L n i then dnH lt L.length L n i else upH lt i L i
/-- A heap of the first n, but for what stands at i. -/
structure HpEx (L : List α) (n i : Nat) : Prop where
  oth : ∀ k, 0 < k → k < n → k ≠ i → (k - 1) / 2 ≠ i → lt (L.getD k default) (L.getD ((k - 1) / 2) default) = false
  kid : ∀ k, 0 < k → k < n → (k - 1) / 2 = i → 0 < i → lt (L.getD k default) (L.getD ((i - 1) / 2) default) = false
theorem fixH_len (L : List α) (n i : Nat) : (fixH lt L n i).length = L.length := by
  unfold fixH; split
  · exact dnH_len _ _ _ _ _
  · exact upH_len _ _ _ _
theorem fixH_perm (L : List α) (n i : Nat) (hn : n ≤ L.length) (hi : i < L.length) : (fixH lt L n i).Perm L := by
  unfold fixH; split
  · exact dnH_perm _ _ _ _ _ hn
  · exact upH_perm _ _ _ _ hi
theorem fixH_keep (L : List α) (n i k : Nat) (hn : n ≤ L.length) (hi : i < n) (hk : n ≤ k) : (fixH lt L n i).getD k default = L.getD k default := by
  unfold fixH; split
  · exact dnH_keep _ _ _ _ _ _ hn hk
  · exact upH_keep _ _ n _ _ hn hi hk
variable {lt}
theorem dnM_stay {L : List α} {n i : Nat} (h : dnM lt L n i = false) (f : Nat) : dnH lt f L n i = L := by
  cases f with
  | zero => rfl
  | succ f =>
    unfold dnH
    rw [if_pos]
    unfold dnM at h
    by_cases e : 2 * i + 1 < n
    · rw [decide_eq_true e, Bool.true_and] at h
      exact .inr h
    · exact .inl (by omega)
theorem kid_min (hw : Wk lt) (L : List α) {n i : Nat} : ∀ k, 0 < k → k < n → (k - 1) / 2 = i → lt (L.getD k default) (L.getD (kidH lt L n i) default) = false := by
  intro k hk hkn e
  unfold kidH
  split
  · rename_i h2
    rcases (show k = 2 * i + 1 ∨ k = 2 * i + 2 by omega) with e2 | e2
    · rw [e2]; exact hw.asy _ _ h2.2
    · rw [e2]; exact hw.irr _
  · rename_i h2
    rcases (show k = 2 * i + 1 ∨ k = 2 * i + 2 by omega) with e2 | e2
    · rw [e2]; exact hw.irr _
    · rw [e2]
      cases e3 : lt (L.getD (2 * i + 2) default) (L.getD (2 * i + 1) default) with
      | false => rfl
      | true => exact absurd ⟨by omega, e3⟩ h2
theorem fix_hp (hw : Wk lt) (L : List α) (n i : Nat) (hi : i < n) (hn : n ≤ L.length) (h : HpEx lt L n i) : Hp lt (fixH lt L n i) n := by
  unfold fixH
  cases e : dnM lt L n i with
  | true =>
    rw [if_pos rfl]
    unfold dnM at e
    rw [Bool.and_eq_true, decide_eq_true_eq] at e
    refine dnH_hp hw _ _ _ _ hn (by omega) ⟨fun k hk hkn hne => ?_, h.kid⟩
    by_cases ek : k = i
    · subst ek
      have hkid := kid_lt lt L (n := n) (i := k) (by omega)
      have h1 := h.kid (kidH lt L n k) (by omega) hkid.1 hkid.2.2 hk
      exact hw.trn _ _ _ (hw.asy _ _ e.2) h1
    · exact h.oth k hk hkn ek hne
  | false =>
    rw [if_neg (by decide)]
    refine upH_hpn hw _ _ _ _ hi hn (Nat.le_refl _) ⟨fun k hk hkn hne => ?_, h.kid⟩
    by_cases ek : (k - 1) / 2 = i
    · unfold dnM at e
      rw [decide_eq_true (show 2 * i + 1 < n by omega), Bool.true_and] at e
      have h1 := kid_min hw L k hk hkn ek
      rw [ek]
      exact hw.trn _ _ _ h1 e
    · exact h.oth k hk hkn hne ek
/-- What is taken out at a place. -/
def remH (lt : α → α → Bool) (L : List α) (i : Nat) : List α := if i = L.length - 1 then L.take (L.length - 1) else (fixH lt (swp L i (L.length - 1)) (L.length - 1) i).take (L.length - 1)
theorem take_get (L : List α) {n k : Nat} (hk : k < n) : (L.take n).getD k default = L.getD k default := by
  rw [List.getD_eq_getElem?_getD, List.getD_eq_getElem?_getD, List.getElem?_take_of_lt hk]
theorem remH_len (lt : α → α → Bool) (L : List α) (i : Nat) : (remH lt L i).length = L.length - 1 := by
  unfold remH
  split
  · rw [List.length_take]; omega
  · rw [List.length_take, fixH_len, swp_len]; omega
theorem rem_hp (hw : Wk lt) (L : List α) (i : Nat) (hi : i < L.length) (h : Hp lt L L.length) : Hp lt (remH lt L i) (L.length - 1) := by
  unfold remH
  split
  · intro k hk hkn
    rw [take_get L hkn, take_get L (by omega)]
    exact h k hk (by omega)
  · rename_i hne
    have hl : (swp L i (L.length - 1)).length = L.length := swp_len _ _ _
    have := fix_hp hw (swp L i (L.length - 1)) (L.length - 1) i (by omega) (by omega) ⟨fun k hk hkn h1 h2 => by
      rw [swp_get L hi (by omega), swp_get L hi (by omega), if_neg (by omega), if_neg h1, if_neg (by omega), if_neg h2]
      exact h k hk (by omega), fun k hk hkn h1 h2 => by
      rw [swp_get L hi (by omega), swp_get L hi (by omega), if_neg (by omega), if_neg (by omega), if_neg (by omega), if_neg (by omega)]
      have a := h k hk (by omega)
      rw [h1] at a
      exact hw.trn _ _ _ a (h i h2 hi)⟩
    intro k hk hkn
    rw [take_get _ hkn, take_get _ (by omega)]
    exact this k hk hkn
theorem take_last (D : List α) (n : Nat) (h : D.length = n + 1) : D = D.take n ++ [D.getD n default] := by
  have := List.take_append_drop n D
  rw [List.drop_eq_getElem_cons (by omega), List.drop_eq_nil_of_le (by omega)] at this
  rw [List.getD_eq_getElem?_getD, List.getElem?_eq_getElem (by omega)]
  exact this.symm
/-- The one that goes is the last, ahead of its going. -/
theorem rem_last (lt : α → α → Bool) (L : List α) (i : Nat) (hi : i < L.length) (hne : i ≠ L.length - 1) : (fixH lt (swp L i (L.length - 1)) (L.length - 1) i).getD (L.length - 1) default = L.getD i default := by
  have hl : (swp L i (L.length - 1)).length = L.length := swp_len _ _ _
  rw [fixH_keep lt _ _ _ _ (by omega) (by omega) (Nat.le_refl _), swp_get L hi (by omega), if_pos rfl]
theorem rem_perm (lt : α → α → Bool) (L : List α) (i : Nat) (hi : i < L.length) : (L.getD i default :: remH lt L i).Perm L := by
  unfold remH
  split
  · rename_i e
    rw [e]
    conv => rhs; rw [take_last L (L.length - 1) (by omega)]
    exact (List.perm_append_comm (l₁ := [L.getD (L.length - 1) default])).trans (List.Perm.refl _)
  · rename_i hne
    have hl : (swp L i (L.length - 1)).length = L.length := swp_len _ _ _
    have hp : (fixH lt (swp L i (L.length - 1)) (L.length - 1) i).Perm L := (fixH_perm lt _ _ _ (by omega) (by omega)).trans (swp_perm L hi (by omega))
    have e := take_last (fixH lt (swp L i (L.length - 1)) (L.length - 1) i) (L.length - 1) (by rw [fixH_len]; omega)
    rw [rem_last lt L i hi hne] at e
    refine List.Perm.trans ?_ hp
    conv => rhs; rw [e]
    exact List.perm_append_comm (l₁ := [L.getD i default])
end
end Go.Proofs.YtoceglbdnbnjpaaDoor

/- A store's line in memory; its methods. -/
namespace Go.Proofs.YtoceglbdnbnjpaaDoor
open Go.RowKit Go.Shelf

theorem addr_add (g o j : Nat) : (⟨g, o, none⟩ : Addr).add j = ⟨g, o + j, none⟩ := by
  unfold Addr.add
  split <;> simp_all
/-- Nothing turns but these blocks, and what is new. -/
structure Oth (S : Nat → Prop) (w w' : World) : Prop where
  os : w'.os = w.os
  tape : w'.tape = w.tape
  output : w'.output = w.output
  size : w.heap.size ≤ w'.heap.size
  block : ∀ g : Nat, g < w.heap.size → ¬ S g → w'.heap[g]? = w.heap[g]?
theorem Oth.refl (S : Nat → Prop) (w : World) : Oth S w w := ⟨rfl, rfl, rfl, Nat.le_refl _, fun _ _ _ => rfl⟩
theorem Oth.drewN (S : Nat → Prop) (w : World) (n : Nat) : Oth S w (w.drewN n) := ⟨rfl, rfl, rfl, Nat.le_refl _, fun _ _ _ => rfl⟩
theorem Oth.trans {S : Nat → Prop} {a b c : World} (h : Oth S a b) (k : Oth S b c) : Oth S a c :=
  ⟨k.os.trans h.os, k.tape.trans h.tape, k.output.trans h.output, Nat.le_trans h.size k.size, fun g hg hn => (k.block g (Nat.lt_of_lt_of_le hg h.size) hn).trans (h.block g hg hn)⟩
theorem Oth.mono {S T : Nat → Prop} {w w' : World} (h : Oth S w w') (hs : ∀ g, g < w.heap.size → S g → T g) : Oth T w w' := ⟨h.os, h.tape, h.output, h.size, fun g hg hn => h.block g hg fun hh => hn (hs g hg hh)⟩
theorem Oth.set {S : Nat → Prop} (w : World) (P i : Nat) (v : Value) (hS : S P) : Oth S w (w.setCell ⟨P, i, none⟩ v) :=
  ⟨rfl, rfl, rfl, by simp [World.setCell], fun g _ hg => Below.heap_setCell w ⟨P, i, none⟩ v g (fun e => hg (by rw [e]; exact hS))⟩
theorem Oth.below {S : Nat → Prop} {w w' : World} {B : Nat} (h : Oth S w w') (hB : ∀ g, g < B → ¬ S g) (hw : B ≤ w.heap.size) : Below B w w' := ⟨h.os, h.tape, h.output, h.size, fun g hg => h.block g (by omega) (hB g hg)⟩
theorem oth_below {S : Nat → Prop} {w w' : World} (h : Below w.heap.size w w') : Oth S w w' := ⟨h.os, h.tape, h.output, h.size, fun g hg _ => h.block g hg⟩

/-- A text that is kept: digest, text, how often it is pinned, when it was used, its block. -/
structure Ent where
  dg : ByteArray
  tx : ByteArray
  pins : Nat
  turn : Nat
  blk : Nat
/-- A store's numbers. -/
structure Sx where
  rm : Int
  bt : Int
  pn : Int
  tn : Int
  M : Nat
abbrev kp (b : Nat) : Value := .pointer (some ⟨b, 0, none⟩)
def kcells (e : Ent) (p : Nat) : Array Value := #[.string e.dg, .string e.tx, .int .i64 (e.pins : Int), .int .i64 (e.turn : Int), .int .i64 (p : Int)]
def scells (x : Sx) (v : Value) : Array Value := #[.int .i64 x.rm, .int .i64 x.bt, .int .i64 x.pn, .int .i64 x.tn, .map (some x.M), v]
/-- When a block's text was used. -/
def tnE (E : List Ent) (b : Nat) : Nat := ((E.find? fun e => e.blk == b).map Ent.turn).getD 0
def tlt (E : List Ent) (a b : Nat) : Bool := decide (tnE E a < tnE E b)
theorem tlt_wk (E : List Ent) : Wk (tlt E) := by
  refine ⟨fun a => ?_, fun a b c h1 h2 => ?_, fun a b h => ?_⟩ <;> simp only [tlt, decide_eq_true_eq, decide_eq_false_iff_not] at * <;> omega
theorem tnE_mem {E : List Ent} (hn : (E.map Ent.blk).Nodup) {e : Ent} (he : e ∈ E) : tnE E e.blk = e.turn := by
  unfold tnE
  induction E with
  | nil => cases he
  | cons x r ih =>
    rw [List.map_cons, List.nodup_cons] at hn
    rw [List.find?_cons]
    rcases List.mem_cons.1 he with rfl | he
    · simp
    · have hne : (x.blk == e.blk) = false := by
        rw [beq_eq_false_iff_ne]
        exact fun h => hn.1 (h ▸ List.mem_map_of_mem he)
      rw [hne]
      exact ih hn.2 he

structure Ln (B P : Nat) (x : Sx) (v : Value) (E : List Ent) (L : List Nat) (w : World) : Prop where
  box : w.heap[P]? = some (.cells (scells x v) 62 (0, 0))
  row : w.ownsRow B 70 1 v L.length (L.map kp)
  ent : ∀ e ∈ E, ∃ p : Nat, w.heap[e.blk]? = some (.cells (kcells e p) 82 (0, 0)) ∧ ∀ k, k < L.length → L.getD k default = e.blk → p = k
  sub : ∀ b ∈ L, ∃ e ∈ E, e.blk = b
  nd : L.Nodup
  en : (E.map Ent.blk).Nodup
/-- The blocks that a line turns. -/
def LnS (P : Nat) (v : Value) (E : List Ent) (g : Nat) : Prop := g = P ∨ v.ownBlock = some g ∨ ∃ e ∈ E, e.blk = g

section
variable {B P g c : Nat} {x : Sx} {v : Value} {E : List Ent} {L : List Nat} {w w' : World}
theorem Ln.cell (h : Ln B P x v E L w) : w.cell? ⟨P, 5, none⟩ = some v := by rw [Lib.cell_of_heap h.box]; rfl
theorem Ln.fzP (h : Ln B P x v E L w) (i : Nat) : w.frozen? ⟨P, i, none⟩ = false := Lib.frozen_of_heap h.box i
theorem Ln.drewN (h : Ln B P x v E L w) (n : Nat) : Ln B P x v E L (w.drewN n) := ⟨h.box, h.row, h.ent, h.sub, h.nd, h.en⟩
theorem Ln.neP (h : Ln B P x v E L w) : v.ownBlock ≠ some P := Lib.ownBlock_ne h.row h.box (by decide)
theorem Ln.neE (h : Ln B P x v E L w) {e : Ent} (he : e ∈ E) : v.ownBlock ≠ some e.blk := by
  obtain ⟨p, hp, _⟩ := h.ent e he
  exact Lib.ownBlock_ne h.row hp (by decide)
theorem Ln.neB (h : Ln B P x v E L w) {e : Ent} (he : e ∈ E) : e.blk ≠ P := by
  obtain ⟨p, hp, _⟩ := h.ent e he
  intro hh
  rw [hh, h.box] at hp
  injection hp with hp
  injection hp with _ hp
  exact absurd hp (by decide)
theorem Ln.form (h : Ln B P x v E L w) (hn : 0 < L.length) : ∃ g c, v = .slice (some ⟨g, 0, none⟩) L.length c ∧ g < w.heap.size ∧ B ≤ g ∧ L.length ≤ c := by
  rcases h.row.2 with ⟨_, h0⟩ | ⟨g, c, cur, e, _, hb, hc, _⟩
  · omega
  · have hlt := h.row.lt g (by rw [e]; rfl)
    exact ⟨g, c, e, hlt.2, hlt.1, hc⟩
theorem Ln.at (h : Ln B P x (.slice (some ⟨g, 0, none⟩) L.length c) E L w) {k : Nat} (hk : k < L.length) : w.cell? ⟨g, k, none⟩ = some (kp (L.getD k default)) := by
  have := h.row.cells rfl k (kp (L.getD k default)) (by rw [List.getElem?_map, List.getElem?_eq_getElem hk, List.getD_eq_getElem?_getD, List.getElem?_eq_getElem hk]; rfl)
  rwa [addr_add, Nat.zero_add] at this
theorem Ln.fz (h : Ln B P x (.slice (some ⟨g, 0, none⟩) L.length c) E L w) (k : Nat) : w.frozen? ⟨g, k, none⟩ = false := by
  rcases h.row.2 with ⟨e, _⟩ | ⟨g', c', cur, e, _, hb, _⟩
  · cases e
  · injection e with e1 _ _
    injection e1 with e1
    injection e1 with e1
    subst e1
    exact Lib.frozen_of_heap hb k
theorem getD_mem {L : List Nat} {k : Nat} (hk : k < L.length) : L.getD k default ∈ L := by
  rw [List.getD_eq_getElem?_getD, List.getElem?_eq_getElem hk]; exact List.getElem_mem hk
theorem getD_inj {L : List Nat} (hn : L.Nodup) {i j : Nat} (hi : i < L.length) (hj : j < L.length) (h : L.getD i default = L.getD j default) : i = j := by
  rw [List.getD_eq_getElem?_getD, List.getElem?_eq_getElem hi, List.getD_eq_getElem?_getD, List.getElem?_eq_getElem hj] at h
  have hp := List.pairwise_iff_getElem.1 hn
  rcases Nat.lt_trichotomy i j with e | e | e
  · exact absurd h (hp i j hi hj e)
  · exact e
  · exact absurd h.symm (hp j i hj hi e)
/-- What stands at a place of the line. -/
theorem Ln.at_ent (h : Ln B P x v E L w) {k : Nat} (hk : k < L.length) : ∃ e ∈ E, e.blk = L.getD k default ∧ w.heap[L.getD k default]? = some (.cells (kcells e k) 82 (0, 0)) := by
  obtain ⟨e, he, hb⟩ := h.sub _ (getD_mem hk)
  obtain ⟨p, hp, hq⟩ := h.ent e he
  have := hq k hk hb.symm
  subst this
  exact ⟨e, he, hb, hb ▸ hp⟩
theorem Ln.at_turn (h : Ln B P x v E L w) {k : Nat} (hk : k < L.length) : w.cell? ⟨L.getD k default, 3, none⟩ = some (.int .i64 (tnE E (L.getD k default) : Int)) := by
  obtain ⟨e, he, hb, hc⟩ := h.at_ent hk
  rw [Lib.cell_of_heap hc, ← hb, tnE_mem h.en he]
  rfl
theorem Ln.at_fz (h : Ln B P x v E L w) {k : Nat} (hk : k < L.length) (i : Nat) : w.frozen? ⟨L.getD k default, i, none⟩ = false := by
  obtain ⟨e, he, hb, hc⟩ := h.at_ent hk
  exact Lib.frozen_of_heap hc i
theorem Ln.at_nil (h : Ln B P x v E L w) {k : Nat} (hk : k < L.length) : ∃ z, w.cell? ⟨L.getD k default, 4, none⟩ = some z := by
  obtain ⟨e, he, hb, hc⟩ := h.at_ent hk
  exact ⟨_, by rw [Lib.cell_of_heap hc]; rfl⟩
end

set_option maxHeartbeats 1000000 in
theorem Len_any (ao : Option Addr) (n c : Nat) (w : World) : Calls Tryd.prog 85 #[.slice ao n c] w fun e w' => e = .returned (.int .i64 (n : Int)) ∧ w' = w := by
  go_enter Tryd.func85, Tryd.ntmps85
  go_wp2
  go_ret
  exact ⟨rfl, rfl⟩

set_option maxHeartbeats 1000000 in
theorem Less_any (g n c i j a b s t : Nat) (w : World) (hi : i < n) (hj : j < n) (cx : w.cell? ⟨g, i, none⟩ = some (kp a)) (cy : w.cell? ⟨g, j, none⟩ = some (kp b)) (ca : w.cell? ⟨a, 3, none⟩ = some (.int .i64 (s : Int))) (cb : w.cell? ⟨b, 3, none⟩ = some (.int .i64 (t : Int))) :
    Calls Tryd.prog 86 #[.slice (some ⟨g, 0, none⟩) n c, .int .i64 (i : Int), .int .i64 (j : Int)] w fun e w' => e = .returned (.bool (decide (s < t))) ∧ ∃ m, w' = w.drewN m := by
  have hii : (i : Int) < (n : Int) := by omega
  have hji : (j : Int) < (n : Int) := by omega
  have hb : decide ((s : Int) < (t : Int)) = decide (s < t) := by rw [decide_eq_decide]; omega
  generalize decide (s < t) = r at *
  generalize (s : Int) = s at *
  generalize (t : Int) = t at *
  clear hi hj
  go_enter Tryd.func86, Tryd.ntmps86
  go_wp2
  go_quiet (fail)
  go_wp2
  go_ret
  exact ⟨rfl, _, rfl⟩
end Go.Proofs.YtoceglbdnbnjpaaDoor

/- A store's line: two change places. -/
namespace Go.Proofs.YtoceglbdnbnjpaaDoor
open Go.RowKit Go.Shelf

section
variable {B P g c : Nat} {x : Sx} {v : Value} {E : List Ent} {L : List Nat} {w w' : World}
theorem ent_inj {E : List Ent} (hn : (E.map Ent.blk).Nodup) {a b : Ent} (ha : a ∈ E) (hb : b ∈ E) (h : a.blk = b.blk) : a = b := by
  induction E with
  | nil => cases ha
  | cons y r ih =>
    rw [List.map_cons, List.nodup_cons] at hn
    rcases List.mem_cons.1 ha with rfl | ha
    · rcases List.mem_cons.1 hb with rfl | hb
      · rfl
      · exact absurd (List.mem_map.2 ⟨b, hb, h.symm⟩) hn.1
    · rcases List.mem_cons.1 hb with hh | hb
      · exact absurd (List.mem_map.2 ⟨a, ha, h.trans (by rw [hh])⟩) hn.1
      · exact ih hn.2 ha hb
theorem kc_set (e : Ent) (p q : Nat) : (kcells e p).setIfInBounds 4 (.int .i64 (q : Int)) = kcells e q := by rfl
theorem Ln.swap (h : Ln B P x (.slice (some ⟨g, 0, none⟩) L.length c) E L w) {i j : Nat} (hi : i < L.length) (hj : j < L.length) (hij : i ≠ j) :
    Ln B P x (.slice (some ⟨g, 0, none⟩) L.length c) E (swp L i j) ((((w.setCell ⟨g, i, none⟩ (kp (L.getD j default))).setCell ⟨g, j, none⟩ (kp (L.getD i default))).setCell ⟨L.getD j default, 4, none⟩ (.int .i64 (i : Int))).setCell ⟨L.getD i default, 4, none⟩ (.int .i64 (j : Int))) := by
  have hPg : P ≠ g := fun e => h.neP (by rw [e]; rfl)
  obtain ⟨ei, hei, bi, ci⟩ := h.at_ent hi
  obtain ⟨ej, hej, bj, cj⟩ := h.at_ent hj
  have hPi : P ≠ L.getD i default := fun e => h.neB hei (by rw [bi, e])
  have hPj : P ≠ L.getD j default := fun e => h.neB hej (by rw [bj, e])
  have hgi : g ≠ L.getD i default := fun e => h.neE hei (by rw [bi, ← e]; rfl)
  have hgj : g ≠ L.getD j default := fun e => h.neE hej (by rw [bj, ← e]; rfl)
  have hne : L.getD i default ≠ L.getD j default := fun e => hij (getD_inj h.nd hi hj e)
  obtain ⟨a, ha⟩ : ∃ a, a = L.getD i default := ⟨_, rfl⟩
  obtain ⟨b, hb⟩ : ∃ b, b = L.getD j default := ⟨_, rfl⟩
  rw [← ha] at bi ci hPi hgi hne ⊢
  rw [← hb] at bj cj hPj hgj hne ⊢
  have hblk : ∀ q, q ≠ g → q ≠ a → q ≠ b → ((((w.setCell ⟨g, i, none⟩ (kp b)).setCell ⟨g, j, none⟩ (kp a)).setCell ⟨b, 4, none⟩ (.int .i64 (i : Int))).setCell ⟨a, 4, none⟩ (.int .i64 (j : Int))).heap[q]? = w.heap[q]? := fun q h1 h2 h3 => by
    rw [Below.heap_setCell _ _ _ _ h2, Below.heap_setCell _ _ _ _ h3, Below.heap_setCell _ _ _ _ h1, Below.heap_setCell _ _ _ _ h1]
  refine ⟨?_, ?_, fun e he => ?_, fun q hq => h.sub q ((swp_perm L hi hj).mem_iff.1 hq), (swp_perm L hi hj).nodup_iff.2 h.nd, h.en⟩
  · rw [hblk P hPg hPi hPj]
    exact h.box
  · rw [swp_len]
    rcases h.row.2 with ⟨e, _⟩ | ⟨g', c', cur, e, hlo, hc, h1, h2, h3, h4⟩
    · cases e
    · injection e with e1 _ e2
      injection e1 with e1
      injection e1 with e1
      subst e1 e2
      refine ⟨by simp [swp_len], .inr ⟨g, c, (cur.setIfInBounds i (kp b)).setIfInBounds j (kp a), rfl, hlo, ?_, h1, h2, by simpa using h3, ?_⟩⟩
      · rw [Below.heap_setCell _ _ _ _ hgi, Below.heap_setCell _ _ _ _ hgj]
        exact Go.Joins.block_setCell (Go.Joins.block_setCell hc _) _
      · unfold swp
        rw [List.map_set, List.map_set, ← h4, ← ha, ← hb]
        simp only [Array.toList_setIfInBounds]
        rw [List.take_set, List.take_set]
  · have hge : e.blk ≠ g := fun hh => h.neE he (by rw [hh]; rfl)
    by_cases hea : e.blk = a
    · refine ⟨j, ?_, fun k hk hkk => ?_⟩
      · have ee : e = ei := by
          exact ent_inj h.en he hei (hea.trans bi.symm)
        subst ee
        have : ((((w.setCell ⟨g, i, none⟩ (kp b)).setCell ⟨g, j, none⟩ (kp a)).setCell ⟨b, 4, none⟩ (.int .i64 (i : Int)))).heap[a]? = some (.cells (kcells e i) 82 (0, 0)) := by
          rw [Below.heap_setCell _ _ _ _ hne, Below.heap_setCell _ _ _ _ hgi.symm, Below.heap_setCell _ _ _ _ hgi.symm]
          exact ci
        rw [hea, Go.Joins.block_setCell this]
        rw [kc_set]
      · rw [swp_len] at hk
        rw [swp_get L hi hj] at hkk
        split at hkk
        · rename_i hh; exact hh.symm
        · rename_i hh
          split at hkk
          · exact absurd (hkk.trans hea) (hb ▸ hne.symm)
          · rename_i h2
            exact absurd (getD_inj h.nd hk hi (hkk.trans (hea.trans ha))) h2
    · by_cases heb : e.blk = b
      · refine ⟨i, ?_, fun k hk hkk => ?_⟩
        · have ee : e = ej := ent_inj h.en he hej (heb.trans bj.symm)
          subst ee
          have : (((w.setCell ⟨g, i, none⟩ (kp b)).setCell ⟨g, j, none⟩ (kp a))).heap[b]? = some (.cells (kcells e j) 82 (0, 0)) := by
            rw [Below.heap_setCell _ _ _ _ hgj.symm, Below.heap_setCell _ _ _ _ hgj.symm]
            exact cj
          rw [heb, Below.heap_setCell _ _ _ _ hne.symm, Go.Joins.block_setCell this]
          rw [kc_set]
        · rw [swp_len] at hk
          rw [swp_get L hi hj] at hkk
          split at hkk
          · exact absurd (hkk.trans heb) (ha ▸ hne)
          · rename_i hh
            split at hkk
            · rename_i h2; exact h2.symm
            · rename_i h2
              exact absurd (getD_inj h.nd hk hj (hkk.trans (heb.trans hb))) hh
      · obtain ⟨p, hp, hq⟩ := h.ent e he
        refine ⟨p, (hblk e.blk hge hea heb).trans hp, fun k hk hkk => ?_⟩
        rw [swp_len] at hk
        rw [swp_get L hi hj] at hkk
        split at hkk
        · exact absurd (hkk.symm.trans ha.symm) hea
        · split at hkk
          · exact absurd (hkk.symm.trans hb.symm) heb
          · exact hq k hk hkk
end

set_option maxHeartbeats 4000000 in
set_option maxRecDepth 100000 in
theorem Swap_any (B P g c i j : Nat) (x : Sx) (E : List Ent) (L : List Nat) (w : World) (h : Ln B P x (.slice (some ⟨g, 0, none⟩) L.length c) E L w) (hi : i < L.length) (hj : j < L.length) (hij : i ≠ j) :
    Calls Tryd.prog 87 #[.slice (some ⟨g, 0, none⟩) L.length c, .int .i64 (i : Int), .int .i64 (j : Int)] w fun e w' => e = .returned (.tuple #[]) ∧ Ln B P x (.slice (some ⟨g, 0, none⟩) L.length c) E (swp L i j) w' ∧ Oth (LnS P (.slice (some ⟨g, 0, none⟩) L.length c) E) w w' := by
  have hii : (i : Int) < (L.length : Int) := by omega
  have hji : (j : Int) < (L.length : Int) := by omega
  have cx := h.at hi
  have cy := h.at hj
  have f1 := h.fz i
  have f2 := h.fz j
  have hij2 : ¬ (i : Int) = (j : Int) := by omega
  obtain ⟨ei, hei, bi, ci⟩ := h.at_ent hi
  obtain ⟨ej, hej, bj, cj⟩ := h.at_ent hj
  have hgi : g ≠ L.getD i default := fun e => h.neE hei (by rw [bi, ← e]; rfl)
  have hgj : g ≠ L.getD j default := fun e => h.neE hej (by rw [bj, ← e]; rfl)
  have hne : L.getD i default ≠ L.getD j default := fun e => hij (getD_inj h.nd hi hj e)
  obtain ⟨W1, hW1⟩ : ∃ W1, W1 = (w.setCell ⟨g, i, none⟩ (kp (L.getD j default))).setCell ⟨g, j, none⟩ (kp (L.getD i default)) := ⟨_, rfl⟩
  have hl := h.swap hi hj hij
  have ho := (((Oth.set (S := LnS P (.slice (some ⟨g, 0, none⟩) L.length c) E) w g i (kp (L.getD j default)) (.inr (.inl rfl))).trans (Oth.set _ g j (kp (L.getD i default)) (.inr (.inl rfl)))).trans (Oth.set _ (L.getD j default) 4 (.int .i64 (i : Int)) (.inr (.inr ⟨ej, hej, bj⟩)))).trans (Oth.set _ (L.getD i default) 4 (.int .i64 (j : Int)) (.inr (.inr ⟨ei, hei, bi⟩)))
  have cz : (w.setCell ⟨g, i, none⟩ (kp (L.getD j default))).cell? ⟨g, j, none⟩ = some (kp (L.getD j default)) := by
    rw [World.cell?_setCell_other _ _ _ _ (fun e => hij (by injection e))]
    exact cy
  have hWi : W1.heap[L.getD i default]? = some (.cells (kcells ei i) 82 (0, 0)) := by
    rw [hW1, Below.heap_setCell _ _ _ _ hgi.symm, Below.heap_setCell _ _ _ _ hgi.symm]; exact ci
  have hWj : W1.heap[L.getD j default]? = some (.cells (kcells ej j) 82 (0, 0)) := by
    rw [hW1, Below.heap_setCell _ _ _ _ hgj.symm, Below.heap_setCell _ _ _ _ hgj.symm]; exact cj
  have d1 : W1.cell? ⟨g, j, none⟩ = some (kp (L.getD i default)) := by
    rw [hW1]
    exact World.cell?_setCell_same _ _ _ cz
  have d2 : W1.cell? ⟨g, i, none⟩ = some (kp (L.getD j default)) := by
    rw [hW1, World.cell?_setCell_other _ _ _ _ (fun e => hij (by injection e with _ e; exact e.symm))]
    exact World.cell?_setCell_same _ _ _ cx
  have fi : W1.frozen? ⟨L.getD i default, 4, none⟩ = false := Lib.frozen_of_heap hWi 4
  have fj : W1.frozen? ⟨L.getD j default, 4, none⟩ = false := Lib.frozen_of_heap hWj 4
  have ki : W1.cell? ⟨L.getD i default, 4, none⟩ = some (.int .i64 (i : Int)) := by rw [Lib.cell_of_heap hWi]; rfl
  have kj : W1.cell? ⟨L.getD j default, 4, none⟩ = some (.int .i64 (j : Int)) := by rw [Lib.cell_of_heap hWj]; rfl
  rw [← hW1] at hl ho
  obtain ⟨V, hV⟩ : ∃ V, V = W1.setCell ⟨L.getD j default, 4, none⟩ (.int .i64 (i : Int)) := ⟨_, rfl⟩
  have fV : V.frozen? ⟨L.getD i default, 4, none⟩ = false := by
    have : V.heap[L.getD i default]? = some (.cells (kcells ei i) 82 (0, 0)) := by rw [hV, Below.heap_setCell _ _ _ _ hne]; exact hWi
    exact Lib.frozen_of_heap this 4
  have kV : V.cell? ⟨L.getD i default, 4, none⟩ = some (.int .i64 (i : Int)) := by
    rw [hV, World.cell?_setCell_other _ _ _ _ (fun e => hne (by injection e with e; exact e.symm))]; exact ki
  have HS : Hid (∀ m, Ln B P x (.slice (some ⟨g, 0, none⟩) L.length c) E (swp L i j) ((V.setCell ⟨L.getD i default, 4, none⟩ (.int .i64 (j : Int))).drewN m) ∧ Oth (LnS P (.slice (some ⟨g, 0, none⟩) L.length c) E) w ((V.setCell ⟨L.getD i default, 4, none⟩ (.int .i64 (j : Int))).drewN m)) := fun m => by
    rw [hV]
    exact ⟨hl.drewN m, ho.trans (Oth.drewN _ _ m)⟩
  clear hl ho h hWi hWj ci cj bi bj hei hej ei ej hi hj
  generalize L.getD i default = a at *
  generalize L.getD j default = b at *
  go_enter Tryd.func87, Tryd.ntmps87
  go_wp2
  go_region
  rw [← hW1]
  clear cx cy cz f1 f2 hW1
  go_wp2
  rw [hV] at fV kV
  go_region
  all_goals
    rw [hV] at HS
    go_wp2
    go_end0
    exact ⟨rfl, HS.out 2⟩
end Go.Proofs.YtoceglbdnbnjpaaDoor

/- A store's line: one comes, the last one goes. -/
namespace Go.Proofs.YtoceglbdnbnjpaaDoor
open Go.RowKit Go.Shelf

theorem infoG {i : Option TypeInfo} {z : Value} {s b : Nat} (h : i.map (fun i => (i.zero, i.size, i.bytes)) = some (some z, s, b)) : ∃ i0, i = some i0 ∧ i0.zero = some z ∧ i0.size = s ∧ i0.bytes = b := by
  match i, h with
  | some i0, h =>
    simp at h
    exact ⟨i0, rfl, h.1, h.2.1, h.2.2⟩
theorem sKept : (Tryd.prog.info? 70).map (fun i => (i.zero, i.size, i.bytes)) = some (some (.pointer none), 1, 8) := by kernel_rfl
/-- Appending, shut: the walk is not to look into it. -/
def appG (ats : Array TypeId) (ty : TypeId) (args : Array Value) : Sem Value := Builtin.append_ ats ty args
theorem appG_eq (ats : Array TypeId) (ty : TypeId) (args : Array Value) : Builtin.append_ ats ty args = appG ats ty args := rfl
attribute [local go_sem ↓] appG_eq

theorem ta_kept (v : Value) (xT : TypeId) (W : World) : (Instr.typeAssert (.iface 70 v) xT 70 false).run Tryd.prog W = .ok v W := by
  simp [Instr.typeAssert, run_underlying Tryd.underlying70, go_sem, Result.andThen]
section
variable {B P g c : Nat} {x : Sx} {v v2 : Value} {E : List Ent} {L L2 : List Nat} {w w2 : World}
theorem sc_set (x : Sx) (v v2 : Value) : (scells x v).setIfInBounds 5 v2 = scells x v2 := by rfl
/-- The slice is another one, over the same row or over a new one. -/
theorem Ln.box_set (h : Ln B P x v E L w) (hb : w2.heap[P]? = w.heap[P]?) (hr : w2.ownsRow B 70 1 v2 L2.length (L2.map kp))
    (he : ∀ e ∈ E, ∃ p : Nat, w2.heap[e.blk]? = some (.cells (kcells e p) 82 (0, 0)) ∧ ∀ k, k < L2.length → L2.getD k default = e.blk → p = k) (hs : ∀ b ∈ L2, ∃ e ∈ E, e.blk = b) (hn : L2.Nodup) :
    Ln B P x v2 E L2 (w2.setCell ⟨P, 5, none⟩ v2) := by
  have hbox : w2.heap[P]? = some (.cells (scells x v) 62 (0, 0)) := hb.trans h.box
  have hne : v2.ownBlock ≠ some P := Lib.ownBlock_ne hr hbox (by decide)
  refine ⟨by rw [Go.Joins.block_setCell hbox, sc_set], ?_, fun e hE => ?_, hs, hn, h.en⟩
  · refine hr.kept (row := some P) ⟨rfl, rfl, rfl, by simp [World.setCell], fun k _ hk => Below.heap_setCell w2 _ _ k (fun e => hk (by rw [e]))⟩ ?_
    exact .inr hne
  · obtain ⟨p, hp, hq⟩ := he e hE
    exact ⟨p, (Below.heap_setCell _ _ _ _ (h.neB hE)).trans hp, hq⟩
end

set_option maxHeartbeats 2000000 in
theorem LPop_any (B P g c : Nat) (x : Sx) (E : List Ent) (L : List Nat) (w : World) (h : Ln B P x (.slice (some ⟨g, 0, none⟩) L.length c) E L w) (h0 : 0 < L.length) (hl : L.length ≤ 1000000) :
    Calls Tryd.prog 88 #[lnP P] w fun e w' => e = .returned (.iface 70 (kp (L.getD (L.length - 1) default))) ∧ Ln B P x (.slice (some ⟨g, 0, none⟩) (L.length - 1) c) E (L.take (L.length - 1)) w' ∧ Oth (LnS P (.slice (some ⟨g, 0, none⟩) L.length c) E) w w' := by
  obtain ⟨g2, c2, e, _, _, hcap⟩ := h.form h0
  have ec : c2 = c := by injection e with _ _ e; exact e.symm
  subst ec
  have hc := h.cell
  have hx := h.at (k := L.length - 1) (by omega)
  have hfx := h.fz (L.length - 1)
  have hPg : P ≠ g := fun e => h.neP (by rw [e]; rfl)
  obtain ⟨k, hk⟩ : ∃ k, k = L.length - 1 := ⟨_, rfl⟩
  obtain ⟨W, hW⟩ : ∃ W, W = w.setCell ⟨g, k, none⟩ (.pointer none) := ⟨_, rfl⟩
  have hcW : W.cell? ⟨P, 5, none⟩ = some (.slice (some ⟨g, 0, none⟩) L.length c2) := by
    rw [hW, World.cell?_setCell_other _ _ _ _ (fun e => hPg (by injection e with e; exact e.symm))]; exact hc
  have hfW : W.frozen? ⟨P, 5, none⟩ = false := by
    have : W.heap[P]? = some (.cells (scells x (.slice (some ⟨g, 0, none⟩) L.length c2)) 62 (0, 0)) := by rw [hW, Below.heap_setCell _ _ _ _ hPg]; exact h.box
    exact Lib.frozen_of_heap this 5
  have k1 : (L.length : Int) - 1 = (k : Int) := by omega
  have k2 : IntKind.i64.wrap (k : Int) = (k : Int) := by rw [IntKind.wrap_i64]; omega
  have k3 : (k : Int) < (L.length : Int) := by omega
  have k4 : (k : Int) ≤ (c2 : Int) := by omega
  have k5 : k ≤ c2 := by omega
  rw [← hk] at hx hfx
  have hlt : (L.take k).length = k := by rw [List.length_take]; omega
  have hrow : W.ownsRow B 70 1 (.slice (some ⟨g, 0, none⟩) k c2) (L.take k).length ((L.take k).map kp) := by
    rcases h.row.2 with ⟨e, _⟩ | ⟨g', c', cur, e, hb, hcc, h1, h2, h3, h4⟩
    · cases e
    · injection e with e1 _ e2
      injection e1 with e1
      injection e1 with e1
      subst e1 e2
      refine ⟨by simp, .inr ⟨g, c2, cur.setIfInBounds k (.pointer none), by rw [hlt], hb, by rw [hW]; exact Go.Joins.block_setCell hcc _, by omega, h2, by simpa using h3, ?_⟩⟩
      rw [hlt, Nat.mul_one, List.map_take, ← h4, List.take_take, Array.toList_setIfInBounds, List.take_set_of_le (Nat.le_refl _)]
      congr 1
      omega
  have hln : Ln B P x (.slice (some ⟨g, 0, none⟩) k c2) E (L.take k) (W.setCell ⟨P, 5, none⟩ (.slice (some ⟨g, 0, none⟩) k c2)) := by
    refine h.box_set (by rw [hW, Below.heap_setCell _ _ _ _ hPg]) hrow (fun e he => ?_) (fun b hb => h.sub b (List.mem_of_mem_take hb)) (h.nd.sublist (List.take_sublist _ _))
    obtain ⟨p, hp, hq⟩ := h.ent e he
    refine ⟨p, ?_, fun j hj hjj => ?_⟩
    · rw [hW, Below.heap_setCell _ _ _ _ (fun hh => h.neE he (by rw [hh]; rfl))]; exact hp
    · rw [hlt] at hj
      rw [take_get L hj] at hjj
      exact hq j (by omega) hjj
  have HR : Hid (Ln B P x (.slice (some ⟨g, 0, none⟩) k c2) E (L.take k) (W.setCell ⟨P, 5, none⟩ (.slice (some ⟨g, 0, none⟩) k c2)) ∧ Oth (LnS P (.slice (some ⟨g, 0, none⟩) L.length c2) E) w (W.setCell ⟨P, 5, none⟩ (.slice (some ⟨g, 0, none⟩) k c2))) := ⟨hln, by
    rw [hW]
    exact (Oth.set w g k _ (.inr (.inl rfl))).trans (Oth.set _ P 5 _ (.inl rfl))⟩
  rw [← hk]
  clear h hrow h0 hl hk hcap e hln hlt
  generalize L.getD k default = b at *
  rw [hW] at HR hcW hfW
  clear hW
  go_enter Tryd.func88, Tryd.ntmps88
  go_wp2
  go_ret
  exact ⟨rfl, HR.out⟩

set_option maxHeartbeats 2000000 in
set_option maxRecDepth 100000 in
theorem LPush_any (B P : Nat) (x : Sx) (v : Value) (E : List Ent) (L : List Nat) (e : Ent) (w : World) (h : Ln B P x v E L w) (he : e ∈ E) (hne : e.blk ∉ L) (hB : B ≤ w.heap.size) (hl : L.length ≤ 1000000) :
    Calls Tryd.prog 89 #[lnP P, .iface 70 (kp e.blk)] w fun r w' => r = .returned (.tuple #[]) ∧ ∃ g c, Ln B P x (.slice (some ⟨g, 0, none⟩) (L ++ [e.blk]).length c) E (L ++ [e.blk]) w' ∧ (v.ownBlock = some g ∨ w.heap.size ≤ g) ∧ Oth (LnS P v E) w w' := by
  obtain ⟨i0, hi, hz0, hz1, hz2⟩ := infoG sKept
  obtain ⟨b, hb⟩ : ∃ b, b = e.blk := ⟨_, rfl⟩
  obtain ⟨p0, hp0, hq0⟩ := h.ent e he
  clear hq0
  rw [← hb] at hp0 hne ⊢
  have hbP : b ≠ P := hb ▸ h.neB he
  have hbv : v.ownBlock ≠ some b := hb ▸ h.neE he
  obtain ⟨V, hV⟩ : ∃ V, V = w.setCell ⟨b, 4, none⟩ (.int .i64 (L.length : Int)) := ⟨_, rfl⟩
  have hVs : V.heap.size = w.heap.size := by rw [hV]; simp [World.setCell]
  have hVb : V.heap[b]? = some (.cells (kcells e L.length) 82 (0, 0)) := by rw [hV, Go.Joins.block_setCell hp0, kc_set]
  have hVo : ∀ q, q ≠ b → V.heap[q]? = w.heap[q]? := fun q hq => by rw [hV]; exact Below.heap_setCell _ _ _ _ hq
  have hVr : V.ownsRow B 70 1 v L.length (L.map kp) := by
    rw [hV]
    exact h.row.kept (row := some b) ⟨rfl, rfl, rfl, by simp [World.setCell], fun k _ hk => Below.heap_setCell w _ _ k (fun e => hk (by rw [e]))⟩ (.inr hbv)
  obtain ⟨W, hW⟩ : ∃ W, W = V.alloc (.cells #[kp b] 70) := ⟨_, rfl⟩
  have hsz : W.heap.size = w.heap.size + 1 := by rw [hW, World.size_alloc, hVs]
  have hbW : Below V.heap.size V W := by rw [hW]; exact ((Below.refl _ V).alloc (Nat.le_refl _) (.cells #[kp b] 70))
  have hnew : W.heap[w.heap.size]? = some (.cells #[kp b] 70 (0, 0)) := by rw [hW, ← hVs]; exact heap_alloc_new V _
  have hPlt : P < w.heap.size := (Array.getElem?_eq_some_iff.1 h.box).1
  have hblt : b < w.heap.size := (Array.getElem?_eq_some_iff.1 hp0).1
  have hrW : W.ownsRow B 70 1 v L.length (L.map kp) := by rw [hW]; exact hVr.alloc _
  obtain ⟨g, cap, w2, a1, a2, a3, a4, _⟩ := run_append_lies (P := Tryd.prog) W 60 60 B 70 i0 (.pointer none) 1 8 Tryd.underlying60 hi hz0 hz1 hz2 rfl (by decide) v L.length (L.map kp) hrW ⟨w.heap.size, 0, none⟩ 1 1 [kp b] rfl (fun j u hu => by rw [addr_add, Nat.zero_add, Lib.cell_of_heap hnew]; simpa using hu) (fun u hu => by simp at hu; subst hu; rfl) (by decide) (by unfold maxLen; omega) (by omega) (by omega) W.heap.size rfl
  have el : L.length + 1 = (L ++ [b]).length := by simp
  have em : L.map kp ++ [kp b] = (L ++ [b]).map kp := by simp
  rw [el, em] at a2
  have hap : (appG #[60, 60] 60 #[v, .slice (some ⟨w.heap.size, 0, none⟩) 1 1]).run Tryd.prog (V.alloc (.cells #[kp b] 70)) = .ok (.slice (some ⟨g, 0, none⟩) (L ++ [b]).length cap) w2 := by rw [← hW, ← el]; exact a1
  have hk2 : ∀ q, q < w.heap.size → v.ownBlock ≠ some q → w2.heap[q]? = V.heap[q]? := fun q hq hne => (a3.block q (by omega) (fun e => hne e.symm)).trans (hbW.block q (by omega))
  have hP2 : w2.heap[P]? = w.heap[P]? := (hk2 P hPlt h.neP).trans (hVo P (Ne.symm hbP))
  have hln : Ln B P x (.slice (some ⟨g, 0, none⟩) (L ++ [b]).length cap) E (L ++ [b]) (w2.setCell ⟨P, 5, none⟩ (.slice (some ⟨g, 0, none⟩) (L ++ [b]).length cap)) := by
    refine h.box_set hP2 a2 (fun e' he' => ?_) (fun q hq => ?_) ?_
    · by_cases hh : e'.blk = b
      · have ee : e' = e := ent_inj h.en he' he (hh.trans hb)
        subst ee
        refine ⟨L.length, ?_, fun k hk hkk => ?_⟩
        · rw [hh, hk2 b hblt hbv]; exact hVb
        · by_cases hlt : k < L.length
          · rw [List.getD_eq_getElem?_getD, List.getElem?_append_left hlt, List.getElem?_eq_getElem hlt] at hkk
            exact absurd (by rw [← hh, ← hkk]; exact List.getElem_mem hlt) hne
          · rw [List.length_append, List.length_singleton] at hk
            omega
      · obtain ⟨p, hp, hq⟩ := h.ent e' he'
        refine ⟨p, ?_, fun k hk hkk => ?_⟩
        · rw [hk2 _ (Array.getElem?_eq_some_iff.1 hp).1 (h.neE he'), hVo _ hh]; exact hp
        · by_cases hlt : k < L.length
          · refine hq k hlt ?_
            rw [List.getD_eq_getElem?_getD, List.getElem?_append_left hlt] at hkk
            rw [List.getD_eq_getElem?_getD]
            exact hkk
          · rw [List.length_append, List.length_singleton] at hk
            have : k = L.length := by omega
            subst this
            rw [List.getD_eq_getElem?_getD, List.getElem?_append_right (Nat.le_refl _)] at hkk
            simp at hkk
            exact absurd hkk.symm hh
    · rcases List.mem_append.1 hq with hq | hq
      · exact h.sub q hq
      · rw [List.mem_singleton] at hq
        exact ⟨e, he, by rw [hq, hb]⟩
    · rw [List.nodup_append]
      exact ⟨h.nd, by simp, fun a ha c hc e => by rw [List.mem_singleton] at hc; exact hne (by rw [← hc, ← e]; exact ha)⟩
  have HF : Hid (∀ m, Ln B P x (.slice (some ⟨g, 0, none⟩) (L ++ [b]).length cap) E (L ++ [b]) ((w2.setCell ⟨P, 5, none⟩ (.slice (some ⟨g, 0, none⟩) (L ++ [b]).length cap)).drewN m) ∧ (v.ownBlock = some g ∨ w.heap.size ≤ g) ∧ Oth (LnS P v E) w ((w2.setCell ⟨P, 5, none⟩ (.slice (some ⟨g, 0, none⟩) (L ++ [b]).length cap)).drewN m)) := fun m => by
    refine ⟨hln.drewN m, ?_, ?_⟩
    · rcases a4 with a4 | a4
      · exact .inl a4
      · exact .inr (by omega)
    · have o0 : Oth (LnS P v E) w V := by rw [hV]; exact Oth.set w b 4 _ (.inr (.inr ⟨e, he, hb.symm⟩))
      have o1 : Oth (LnS P v E) V w2 := ⟨a3.os.trans hbW.os, a3.tape.trans hbW.tape, a3.output.trans hbW.output, by have := a3.size; omega, fun k hk hn => (a3.block k (by omega) (fun e => hn (.inr (.inl e.symm)))).trans (hbW.block k hk)⟩
      exact ((o0.trans o1).trans (Oth.set w2 P 5 _ (.inl rfl))).trans (Oth.drewN _ _ m)
  have hc := h.cell
  have hcV : V.cell? ⟨P, 5, none⟩ = some v := (World.cell?_of_block (w := w) (hVo P (Ne.symm hbP))).trans hc
  have hc2 : w2.cell? ⟨P, 5, none⟩ = some v := (World.cell?_of_block (w := w) hP2).trans hc
  have hf2 : w2.frozen? ⟨P, 5, none⟩ = false := Lib.frozen_of_heap (hP2.trans h.box) 5
  have hbf : w.frozen? ⟨b, 4, none⟩ = false := Lib.frozen_of_heap hp0 4
  have hbc : w.cell? ⟨b, 4, none⟩ = some (.int .i64 (p0 : Int)) := by rw [Lib.cell_of_heap hp0]; rfl
  have hta := fun xT => ta_kept (kp b) xT
  obtain ⟨ao, cc, hv⟩ : ∃ ao cc, v = .slice ao L.length cc := by
    rcases h.row.2 with ⟨e, h0⟩ | ⟨g', c', cur, e, _⟩
    · exact ⟨none, 0, by rw [e, h0]⟩
    · exact ⟨_, _, e⟩
  subst hv
  rw [hV] at hcV hap hVs
  clear h hrW a1 a2 a3 a4 hP2 hbW hnew hsz hB hl hW el em hblt hz0 hz1 hz2 hi hln hk2 hVr hVo hVb hV hp0 he hne hPlt hb
  generalize (L ++ [b]).length = n1 at *
  have HVs : Hid ((w.setCell ⟨b, 4, none⟩ (.int .i64 (L.length : Int))).heap.size = w.heap.size) := hVs
  clear hVs
  go_enter Tryd.func89, Tryd.ntmps89
  go_wp2
  go_end0
  exact ⟨rfl, _, _, HF.out 0⟩
end Go.Proofs.YtoceglbdnbnjpaaDoor

/- The library's heap at a store's line: up and down. -/
namespace Go.Proofs.YtoceglbdnbnjpaaDoor
open Go.RowKit Go.Shelf

theorem Less_ln {B P g c : Nat} {x : Sx} {E : List Ent} {X : List Nat} {W : World} {n : Nat} (h : Ln B P x (.slice (some ⟨g, 0, none⟩) X.length c) E X W) (hn : X.length = n) (i j : Nat) (hi : i < n) (hj : j < n) :
    Calls Tryd.prog 86 #[.slice (some ⟨g, 0, none⟩) n c, .int .i64 (i : Int), .int .i64 (j : Int)] W fun e w' => e = .returned (.bool (tlt E (X.getD i default) (X.getD j default))) ∧ ∃ m, w' = W.drewN m := by
  subst hn
  exact Less_any g X.length c i j _ _ _ _ W hi hj (h.at hi) (h.at hj) (h.at_turn hi) (h.at_turn hj)
section
variable {lt : Nat → Nat → Bool} {L X : List Nat} {n i0 k : Nat}
theorem dn_no1 (h : n ≤ 2 * k + 1) : dnM lt X n k = false := by
  unfold dnM
  rw [decide_eq_false (by omega), Bool.false_and]
theorem dn_no2 {j : Nat} (h : kidH lt X n k = j) (h2 : lt (X.getD j default) (X.getD k default) = false) : dnM lt X n k = false := by
  unfold dnM
  rw [h, h2, Bool.and_false]
theorem dn_end (h : (k = i0 ∧ X = L) ∨ (i0 < k ∧ dnM lt L n i0 = true)) (h2 : dnM lt X n k = false) : dnM lt L n i0 = decide (i0 < k) := by
  rcases h with ⟨rfl, rfl⟩ | ⟨h1, h3⟩
  · rw [h2, decide_eq_false (by omega)]
  · rw [h3, decide_eq_true (by omega)]
theorem dn_go {j : Nat} (h : (k = i0 ∧ X = L) ∨ (i0 < k ∧ dnM lt L n i0 = true)) (hj : k < j) (h1 : 2 * k + 1 < n) (h2 : kidH lt X n k = j) (h3 : lt (X.getD j default) (X.getD k default) = true) : i0 < j ∧ dnM lt L n i0 = true := by
  rcases h with ⟨rfl, rfl⟩ | ⟨h4, h5⟩
  · refine ⟨hj, ?_⟩
    unfold dnM
    rw [h2, h3, decide_eq_true h1, Bool.and_true]
  · exact ⟨by omega, h5⟩
end

set_option maxHeartbeats 4000000 in
set_option maxRecDepth 100000 in
theorem up_any (B P g c j : Nat) (x : Sx) (E : List Ent) (L : List Nat) (w : World) (h : Ln B P x (.slice (some ⟨g, 0, none⟩) L.length c) E L w) (hj : j < L.length) (hl : L.length ≤ 1000000) :
    Calls Tryd.prog 59 #[lnI P, .int .i64 (j : Int)] w fun e w' => e = .returned (.tuple #[]) ∧ Ln B P x (.slice (some ⟨g, 0, none⟩) L.length c) E (upH (tlt E) j L j) w' ∧ Oth (LnS P (.slice (some ⟨g, 0, none⟩) L.length c) E) w w' := by
  have H0 : Hid (Ln B P x (.slice (some ⟨g, 0, none⟩) L.length c) E L w) := h
  obtain ⟨n, hn⟩ : ∃ n, n = L.length := ⟨_, rfl⟩
  have HN : Hid (n = L.length) := hn
  have hn1 : (n : Int) ≤ 1000000 := by omega
  rw [← hn] at hj H0 ⊢
  clear h hl hn
  go_enter Tryd.func59, Tryd.ntmps59
  go_wp2
  go_loopw [1] (fun v wr => ∃ (k f : Nat) (X : List Nat), v = .int .i64 (k : Int) ∧ Hid (k < n ∧ X.length = n ∧ k ≤ f ∧ upH (tlt E) f X k = upH (tlt E) j L j ∧ Ln B P x (.slice (some ⟨g, 0, none⟩) n c) E X wr ∧ Oth (LnS P (.slice (some ⟨g, 0, none⟩) n c) E) w wr)) (fun v _ => (RowKit.intOf v).toNat)
  case atStart => exact ⟨j, j, L, rfl, hj, HN.out.symm, Nat.le_refl _, rfl, H0.out, Oth.refl _ _⟩
  case round =>
    obtain ⟨k, f, X, rfl, HI⟩ := hrel
    obtain ⟨hk, hX, hkf, hup, hR, hO⟩ := HI.out
    obtain ⟨i, hi⟩ : ∃ i, i = (k - 1) / 2 := ⟨_, rfl⟩
    have hcl := hR.cell
    have hL1 := m_less hcl
    have hS1 := fun (m : Nat) => m_swap (w := wr.drewN m) hcl
    have e1 : ((k : Int) - 1).tdiv 2 = (i : Int) := by
      by_cases h0 : k = 0
      · subst h0; subst hi; rfl
      · rw [show (k : Int) - 1 = ((k - 1 : Nat) : Int) by omega, Int.tdiv_eq_ediv_of_nonneg (by omega)]; omega
    have e2 : IntKind.i64.wrap ((k : Int) - 1) = (k : Int) - 1 := by rw [IntKind.wrap_i64]; omega
    have e3 : IntKind.i64.wrap (i : Int) = (i : Int) := by rw [IntKind.wrap_i64]; omega
    have HI2 : Hid (i = (k - 1) / 2) := hi
    clear hcl hi
    have hX2 : Hid (Ln B P x (.slice (some ⟨g, 0, none⟩) X.length c) E X wr) := hX.symm ▸ hR
    by_cases h0 : i = k
    · subst h0
      have HE : Hid (upH (tlt E) f X i = X) := by
        show _ = _
        cases f with
        | zero => rfl
        | succ f => unfold upH; rw [if_pos (.inl HI2.out.symm)]
      have HF : Hid (Ln B P x (.slice (some ⟨g, 0, none⟩) n c) E (upH (tlt E) j L j) wr ∧ Oth (LnS P (.slice (some ⟨g, 0, none⟩) n c) E) w wr) := ⟨by rw [← hup, HE.out]; exact hR, hO⟩
      clear hL1 hS1 hX2 HE hup hR hO hX hkf hk HI H0 HI2
      go_wp2
      go_end0
      exact ⟨rfl, HF.out⟩
    · have e4 : ¬ (i : Int) = (k : Int) := by omega
      have hi2 := HI2.out
      have HLs : Hid (Calls Tryd.prog 86 #[.slice (some ⟨g, 0, none⟩) n c, .int .i64 (k : Int), .int .i64 (i : Int)] wr fun e w' => e = .returned (.bool (tlt E (X.getD k default) (X.getD i default))) ∧ ∃ m, w' = wr.drewN m) := Less_ln hX2.out hX k i hk (by omega)
      cases hlt : tlt E (X.getD k default) (X.getD i default) with
      | false =>
        have HE : Hid (upH (tlt E) f X k = X) := by
          show _ = _
          cases f with
          | zero => rfl
          | succ f => unfold upH; rw [if_pos (.inr (by rw [← hi2]; exact hlt))]
        have HF : Hid (∀ m, Ln B P x (.slice (some ⟨g, 0, none⟩) n c) E (upH (tlt E) j L j) (wr.drewN m) ∧ Oth (LnS P (.slice (some ⟨g, 0, none⟩) n c) E) w (wr.drewN m)) := fun m => ⟨by rw [← hup, HE.out]; exact hR.drewN m, hO.trans (Oth.drewN _ _ m)⟩
        rw [hlt] at HLs
        clear hS1 hX2 HE hup hR hO hX hkf hk HI H0 h0 hi2 hlt
        go_wp2_with (first | (go_at_call 86; refine HLs.out.mono ?_; rintro e w1 ⟨rfl, m, rfl⟩) | go_in)
        go_end0
        exact ⟨rfl, HF.out _⟩
      | true =>
        have hf1 : 0 < f := by omega
        have HE : Hid (upH (tlt E) f X k = upH (tlt E) (f - 1) (swp X i k) i) := by
          show _ = _
          obtain ⟨f2, rfl⟩ : ∃ f2, f = f2 + 1 := ⟨f - 1, by omega⟩
          rw [show f2 + 1 - 1 = f2 by omega]
          conv => lhs; unfold upH
          rw [if_neg (by rw [← hi2, hlt]; intro h; rcases h with h | h; exact h0 h; cases h), ← hi2]
        have HSw : Hid (∀ m, Calls Tryd.prog 87 #[.slice (some ⟨g, 0, none⟩) n c, .int .i64 (i : Int), .int .i64 (k : Int)] (wr.drewN m) fun e w' => e = .returned (.tuple #[]) ∧ Hid (Ln B P x (.slice (some ⟨g, 0, none⟩) n c) E (swp X i k) w' ∧ Oth (LnS P (.slice (some ⟨g, 0, none⟩) n c) E) w w')) := fun m => by
          have := Swap_any B P g c i k x E X (wr.drewN m) (hX2.out.drewN m) (by omega) (by omega) (by omega)
          rw [hX] at this
          exact this.mono fun e w' ⟨q1, q2, q3⟩ => ⟨q1, q2, (hO.trans (Oth.drewN _ _ m)).trans q3⟩
        have HK : Hid (i < n ∧ (swp X i k).length = n ∧ i ≤ f - 1 ∧ upH (tlt E) (f - 1) (swp X i k) i = upH (tlt E) j L j ∧ i < k) := ⟨by omega, by rw [swp_len]; exact hX, by omega, by rw [← HE.out]; exact hup, by omega⟩
        rw [hlt] at HLs
        clear hX2 HE hup hR hO hX hkf hk HI H0 h0 hi2 hlt hf1
        go_wp2_with (first
          | (go_at_call 86; refine HLs.out.mono ?_; rintro e w1 ⟨rfl, m, rfl⟩)
          | (go_at_call 87; refine (HSw.out _).mono ?_; rintro e w2 ⟨rfl, H2⟩)
          | go_in)
        obtain ⟨k1, k2, k3, k4, k5⟩ := HK.out
        refine ⟨⟨i, f - 1, swp X i k, rfl, k1, k2, k3, k4, H2.out.1, H2.out.2⟩, ?_⟩
        simp [RowKit.intOf]
        omega

set_option maxHeartbeats 4000000 in
set_option maxRecDepth 100000 in
theorem down_any (B P g c n i0 : Nat) (x : Sx) (E : List Ent) (L : List Nat) (w : World) (h : Ln B P x (.slice (some ⟨g, 0, none⟩) L.length c) E L w) (hn : n ≤ L.length) (hi0 : i0 < L.length) (hl : L.length ≤ 1000000) :
    Calls Tryd.prog 58 #[lnI P, .int .i64 (i0 : Int), .int .i64 (n : Int)] w fun e w' => e = .returned (.bool (dnM (tlt E) L n i0)) ∧ Ln B P x (.slice (some ⟨g, 0, none⟩) L.length c) E (dnH (tlt E) L.length L n i0) w' ∧ Oth (LnS P (.slice (some ⟨g, 0, none⟩) L.length c) E) w w' := by
  have H0 : Hid (Ln B P x (.slice (some ⟨g, 0, none⟩) L.length c) E L w) := h
  obtain ⟨N, hN⟩ : ∃ N, N = L.length := ⟨_, rfl⟩
  have HN : Hid (N = L.length) := hN
  have hN1 : (N : Int) ≤ 1000000 := by omega
  have hn1 : (n : Int) ≤ 1000000 := by omega
  have HNn : Hid (n ≤ N) := by rw [hN]; exact hn
  rw [← hN] at H0 ⊢
  have HI0 : Hid (i0 < N) := by rw [hN]; exact hi0
  have hI1 : (i0 : Int) ≤ 1000000 := by omega
  clear h hl hN hn hi0
  go_enter Tryd.func58, Tryd.ntmps58
  go_wp2
  go_loopw [7] (fun v wr => ∃ (k f : Nat) (X : List Nat), v = .int .i64 (k : Int) ∧ Hid (((k = i0 ∧ X = L) ∨ (i0 < k ∧ dnM (tlt E) L n i0 = true)) ∧ k ≤ N ∧ X.length = N ∧ N ≤ k + f ∧ dnH (tlt E) f X n k = dnH (tlt E) N L n i0 ∧ Ln B P x (.slice (some ⟨g, 0, none⟩) N c) E X wr ∧ Oth (LnS P (.slice (some ⟨g, 0, none⟩) N c) E) w wr)) (fun v _ => N - (RowKit.intOf v).toNat)
  case atStart => exact ⟨i0, N, L, rfl, .inl ⟨rfl, rfl⟩, Nat.le_of_lt HI0.out, HN.out.symm, by omega, rfl, H0.out, Oth.refl _ _⟩
  case round =>
    obtain ⟨k, f, X, rfl, HI⟩ := hrel
    obtain ⟨hmv, hk, hX, hkf, hup, hR, hO⟩ := HI.out
    have hX2 : Hid (Ln B P x (.slice (some ⟨g, 0, none⟩) X.length c) E X wr) := hX.symm ▸ hR
    have hcl := hR.cell
    have hL1 := fun (m : Nat) => m_less (w := wr.drewN m) hcl
    have hS1 := fun (m : Nat) => m_swap (w := wr.drewN m) hcl
    have hL0 := m_less hcl
    obtain ⟨j1, hj1⟩ : ∃ j1, j1 = 2 * k + 1 := ⟨_, rfl⟩
    obtain ⟨j2, hj2⟩ : ∃ j2, j2 = 2 * k + 2 := ⟨_, rfl⟩
    have e0 : (2 : Int) * (k : Int) = ((2 * k : Nat) : Int) := by omega
    have e1 : ((2 * k : Nat) : Int) + 1 = (j1 : Int) := by omega
    have e2 : (j1 : Int) + 1 = (j2 : Int) := by omega
    have w0 : IntKind.i64.wrap ((2 * k : Nat) : Int) = ((2 * k : Nat) : Int) := by rw [IntKind.wrap_i64]; omega
    have w1 : IntKind.i64.wrap (j1 : Int) = (j1 : Int) := by rw [IntKind.wrap_i64]; omega
    have w2 : IntKind.i64.wrap (j2 : Int) = (j2 : Int) := by rw [IntKind.wrap_i64]; omega
    obtain ⟨d, hd⟩ : ∃ d, d = 2 * k := ⟨_, rfl⟩
    rw [← hd] at e0 e1 w0
    have HJ : Hid (j1 = 2 * k + 1 ∧ j2 = 2 * k + 2) := ⟨hj1, hj2⟩
    clear hcl hd
    by_cases h1 : n ≤ j1
    · have c1 : (n : Int) ≤ (j1 : Int) := by omega
      have HE : Hid (dnH (tlt E) f X n k = X) := by
        show _ = _
        cases f with
        | zero => rfl
        | succ f => unfold dnH; rw [if_pos (.inl (by omega))]
      have HB : Hid (dnM (tlt E) L n i0 = decide (i0 < k)) := dn_end hmv (by first | exact dn_no1 (by omega) | exact dn_no2 HKid.out hr2)
      have HF : Hid (Ln B P x (.slice (some ⟨g, 0, none⟩) N c) E (dnH (tlt E) N L n i0) wr ∧ Oth (LnS P (.slice (some ⟨g, 0, none⟩) N c) E) w wr) := ⟨by rw [← hup, HE.out]; exact hR, hO⟩
      clear hmv hL1 hS1 hL0 hX2 HE hup hR hO hX hkf hk HI H0 h1 hj1 hj2 HJ
      go_wp2
      go_ret
      exact ⟨by rw [HB.out]; rfl, HF.out⟩
    · have c1 : ¬ (n : Int) ≤ (j1 : Int) := by omega
      have c2 : ¬ (j1 : Int) < 0 := by omega
      have hjN : j1 < N := by have := HNn.out; omega
      by_cases h2 : j2 < n
      · have c3 : (j2 : Int) < (n : Int) := by omega
        have hj2N : j2 < N := by have := HNn.out; omega
        have HA : Hid (Calls Tryd.prog 86 #[.slice (some ⟨g, 0, none⟩) N c, .int .i64 (j2 : Int), .int .i64 (j1 : Int)] wr fun e w' => e = .returned (.bool (tlt E (X.getD j2 default) (X.getD j1 default))) ∧ ∃ m2, w' = wr.drewN m2) := Less_ln hX2.out hX j2 j1 (by have := HNn.out; omega) (by have := HNn.out; omega)
        cases hr1 : tlt E (X.getD j2 default) (X.getD j1 default) with
        | true =>
          have HKid : Hid (kidH (tlt E) X n k = j2) := by
            show _ = _
            unfold kidH
            rw [← hj1, ← hj2, if_pos ⟨h2, hr1⟩]
          rw [hr1] at HA
          have HC : Hid (∀ m : Nat, Calls Tryd.prog 86 #[.slice (some ⟨g, 0, none⟩) N c, .int .i64 (j2 : Int), .int .i64 (k : Int)] (wr.drewN m) fun e w' => e = .returned (.bool (tlt E (X.getD j2 default) (X.getD k default))) ∧ ∃ m2, w' = wr.drewN m2) := fun m => (Less_ln (hX2.out.drewN m) hX j2 k (by omega) (by omega)).mono fun e w' ⟨q1, m2, q2⟩ => ⟨q1, m + m2, by rw [q2, World.drewN_drewN]⟩
          cases hr2 : tlt E (X.getD j2 default) (X.getD k default) with
          | false =>
            rw [hr2] at HC
            have HE : Hid (dnH (tlt E) f X n k = X) := by
              show _ = _
              cases f with
              | zero => rfl
              | succ f => unfold dnH; rw [if_pos (.inr (by rw [HKid.out]; exact hr2))]
            have HB : Hid (dnM (tlt E) L n i0 = decide (i0 < k)) := dn_end hmv (by first | exact dn_no1 (by omega) | exact dn_no2 HKid.out hr2)
            have HF : Hid (∀ m, Ln B P x (.slice (some ⟨g, 0, none⟩) N c) E (dnH (tlt E) N L n i0) (wr.drewN m) ∧ Oth (LnS P (.slice (some ⟨g, 0, none⟩) N c) E) w (wr.drewN m)) := fun m => ⟨by rw [← hup, HE.out]; exact hR.drewN m, hO.trans (Oth.drewN _ _ m)⟩
            clear hmv hS1 hX2 HE hup hR hO hX hkf hk HI H0 h1 hj1 hj2 HJ HKid hr2
            go_wp2_with (first
              | (go_at_call 86; with_reducible refine HA.out.mono ?_; rintro e w1 ⟨rfl, m, rfl⟩)
              | (go_at_call 86; with_reducible refine (HC.out _).mono ?_; rintro e w2 ⟨rfl, m2, rfl⟩)
              | go_in)
            go_ret
            exact ⟨by rw [HB.out]; rfl, HF.out _⟩
          | true =>
            rw [hr2] at HC
            have HE : Hid (dnH (tlt E) f X n k = dnH (tlt E) (f - 1) (swp X k j2) n j2) := by
              show _ = _
              obtain ⟨f2, rfl⟩ : ∃ f2, f = f2 + 1 := ⟨f - 1, by have := HNn.out; omega⟩
              rw [show f2 + 1 - 1 = f2 by omega]
              conv => lhs; unfold dnH
              rw [HKid.out, if_neg (by rw [hr2]; intro h; rcases h with h | h; omega; cases h)]
            have HSw : Hid (∀ m, Calls Tryd.prog 87 #[.slice (some ⟨g, 0, none⟩) N c, .int .i64 (k : Int), .int .i64 (j2 : Int)] (wr.drewN m) fun e w' => e = .returned (.tuple #[]) ∧ Hid (Ln B P x (.slice (some ⟨g, 0, none⟩) N c) E (swp X k j2) w' ∧ Oth (LnS P (.slice (some ⟨g, 0, none⟩) N c) E) w w')) := fun m => by
              have := Swap_any B P g c k j2 x E X (wr.drewN m) (hX2.out.drewN m) (by have := HNn.out; omega) (by have := HNn.out; omega) (by omega)
              rw [hX] at this
              exact this.mono fun e w' ⟨q1, q2, q3⟩ => ⟨q1, q2, (hO.trans (Oth.drewN _ _ m)).trans q3⟩
            have HM : Hid ((j2 = i0 ∧ swp X k j2 = L) ∨ (i0 < j2 ∧ dnM (tlt E) L n i0 = true)) := .inr (dn_go hmv (by omega) (by omega) HKid.out hr2)
            have HK : Hid (j2 ≤ N ∧ (swp X k j2).length = N ∧ N ≤ j2 + (f - 1) ∧ dnH (tlt E) (f - 1) (swp X k j2) n j2 = dnH (tlt E) N L n i0 ∧ k < j2) := ⟨by have := HNn.out; omega, by rw [swp_len]; exact hX, by have := HNn.out; omega, by rw [← HE.out]; exact hup, by omega⟩
            clear hmv hX2 HE hup hR hO hX hkf hk HI H0 h1 hj1 hj2 HJ HKid hr2
            go_wp2_with (first
              | (go_at_call 86; with_reducible refine HA.out.mono ?_; rintro e w1 ⟨rfl, m, rfl⟩)
              | (go_at_call 86; with_reducible refine (HC.out _).mono ?_; rintro e w2 ⟨rfl, m2, rfl⟩)
              | (go_at_call 87; refine (HSw.out _).mono ?_; rintro e w3 ⟨rfl, H3⟩)
              | go_in)
            obtain ⟨k1, k2, k3, k4, k5⟩ := HK.out
            refine ⟨⟨j2, f - 1, swp X k j2, rfl, HM.out, k1, k2, k3, k4, H3.out.1, H3.out.2⟩, ?_⟩
            simp [RowKit.intOf]
            omega
        | false =>
          have HKid : Hid (kidH (tlt E) X n k = j1) := by
            show _ = _
            unfold kidH
            rw [← hj1, ← hj2, if_neg (fun h => by rw [hr1] at h; cases h.2)]
          rw [hr1] at HA
          have HC : Hid (∀ m : Nat, Calls Tryd.prog 86 #[.slice (some ⟨g, 0, none⟩) N c, .int .i64 (j1 : Int), .int .i64 (k : Int)] (wr.drewN m) fun e w' => e = .returned (.bool (tlt E (X.getD j1 default) (X.getD k default))) ∧ ∃ m2, w' = wr.drewN m2) := fun m => (Less_ln (hX2.out.drewN m) hX j1 k (by omega) (by omega)).mono fun e w' ⟨q1, m2, q2⟩ => ⟨q1, m + m2, by rw [q2, World.drewN_drewN]⟩
          cases hr2 : tlt E (X.getD j1 default) (X.getD k default) with
          | false =>
            rw [hr2] at HC
            have HE : Hid (dnH (tlt E) f X n k = X) := by
              show _ = _
              cases f with
              | zero => rfl
              | succ f => unfold dnH; rw [if_pos (.inr (by rw [HKid.out]; exact hr2))]
            have HB : Hid (dnM (tlt E) L n i0 = decide (i0 < k)) := dn_end hmv (by first | exact dn_no1 (by omega) | exact dn_no2 HKid.out hr2)
            have HF : Hid (∀ m, Ln B P x (.slice (some ⟨g, 0, none⟩) N c) E (dnH (tlt E) N L n i0) (wr.drewN m) ∧ Oth (LnS P (.slice (some ⟨g, 0, none⟩) N c) E) w (wr.drewN m)) := fun m => ⟨by rw [← hup, HE.out]; exact hR.drewN m, hO.trans (Oth.drewN _ _ m)⟩
            clear hmv hS1 hX2 HE hup hR hO hX hkf hk HI H0 h1 hj1 hj2 HJ HKid hr2
            go_wp2_with (first
              | (go_at_call 86; with_reducible refine HA.out.mono ?_; rintro e w1 ⟨rfl, m, rfl⟩)
              | (go_at_call 86; with_reducible refine (HC.out _).mono ?_; rintro e w2 ⟨rfl, m2, rfl⟩)
              | go_in)
            go_ret
            exact ⟨by rw [HB.out]; rfl, HF.out _⟩
          | true =>
            rw [hr2] at HC
            have HE : Hid (dnH (tlt E) f X n k = dnH (tlt E) (f - 1) (swp X k j1) n j1) := by
              show _ = _
              obtain ⟨f2, rfl⟩ : ∃ f2, f = f2 + 1 := ⟨f - 1, by have := HNn.out; omega⟩
              rw [show f2 + 1 - 1 = f2 by omega]
              conv => lhs; unfold dnH
              rw [HKid.out, if_neg (by rw [hr2]; intro h; rcases h with h | h; omega; cases h)]
            have HSw : Hid (∀ m, Calls Tryd.prog 87 #[.slice (some ⟨g, 0, none⟩) N c, .int .i64 (k : Int), .int .i64 (j1 : Int)] (wr.drewN m) fun e w' => e = .returned (.tuple #[]) ∧ Hid (Ln B P x (.slice (some ⟨g, 0, none⟩) N c) E (swp X k j1) w' ∧ Oth (LnS P (.slice (some ⟨g, 0, none⟩) N c) E) w w')) := fun m => by
              have := Swap_any B P g c k j1 x E X (wr.drewN m) (hX2.out.drewN m) (by have := HNn.out; omega) (by have := HNn.out; omega) (by omega)
              rw [hX] at this
              exact this.mono fun e w' ⟨q1, q2, q3⟩ => ⟨q1, q2, (hO.trans (Oth.drewN _ _ m)).trans q3⟩
            have HM : Hid ((j1 = i0 ∧ swp X k j1 = L) ∨ (i0 < j1 ∧ dnM (tlt E) L n i0 = true)) := .inr (dn_go hmv (by omega) (by omega) HKid.out hr2)
            have HK : Hid (j1 ≤ N ∧ (swp X k j1).length = N ∧ N ≤ j1 + (f - 1) ∧ dnH (tlt E) (f - 1) (swp X k j1) n j1 = dnH (tlt E) N L n i0 ∧ k < j1) := ⟨by have := HNn.out; omega, by rw [swp_len]; exact hX, by have := HNn.out; omega, by rw [← HE.out]; exact hup, by omega⟩
            clear hmv hX2 HE hup hR hO hX hkf hk HI H0 h1 hj1 hj2 HJ HKid hr2
            go_wp2_with (first
              | (go_at_call 86; with_reducible refine HA.out.mono ?_; rintro e w1 ⟨rfl, m, rfl⟩)
              | (go_at_call 86; with_reducible refine (HC.out _).mono ?_; rintro e w2 ⟨rfl, m2, rfl⟩)
              | (go_at_call 87; refine (HSw.out _).mono ?_; rintro e w3 ⟨rfl, H3⟩)
              | go_in)
            obtain ⟨k1, k2, k3, k4, k5⟩ := HK.out
            refine ⟨⟨j1, f - 1, swp X k j1, rfl, HM.out, k1, k2, k3, k4, H3.out.1, H3.out.2⟩, ?_⟩
            simp [RowKit.intOf]
            omega
      · have c3 : ¬ (j2 : Int) < (n : Int) := by omega
        have HKid : Hid (kidH (tlt E) X n k = j1) := by
          show _ = _
          unfold kidH
          rw [← hj1, ← hj2, if_neg (fun h => h2 h.1)]
        have HC : Hid (Calls Tryd.prog 86 #[.slice (some ⟨g, 0, none⟩) N c, .int .i64 (j1 : Int), .int .i64 (k : Int)] wr fun e w' => e = .returned (.bool (tlt E (X.getD j1 default) (X.getD k default))) ∧ ∃ m2, w' = wr.drewN m2) := Less_ln hX2.out hX j1 k (by omega) (by omega)
        cases hr2 : tlt E (X.getD j1 default) (X.getD k default) with
        | false =>
          rw [hr2] at HC
          have HE : Hid (dnH (tlt E) f X n k = X) := by
            show _ = _
            cases f with
            | zero => rfl
            | succ f => unfold dnH; rw [if_pos (.inr (by rw [HKid.out]; exact hr2))]
          have HB : Hid (dnM (tlt E) L n i0 = decide (i0 < k)) := dn_end hmv (by first | exact dn_no1 (by omega) | exact dn_no2 HKid.out hr2)
          have HF : Hid (∀ m, Ln B P x (.slice (some ⟨g, 0, none⟩) N c) E (dnH (tlt E) N L n i0) (wr.drewN m) ∧ Oth (LnS P (.slice (some ⟨g, 0, none⟩) N c) E) w (wr.drewN m)) := fun m => ⟨by rw [← hup, HE.out]; exact hR.drewN m, hO.trans (Oth.drewN _ _ m)⟩
          clear hmv hS1 hX2 HE hup hR hO hX hkf hk HI H0 h1 hj1 hj2 HJ HKid hr2
          go_wp2_with (first
            | (go_at_call 86; with_reducible refine HC.out.mono ?_; rintro e w2 ⟨rfl, m2, rfl⟩)
            | go_in)
          go_ret
          exact ⟨by rw [HB.out]; rfl, HF.out _⟩
        | true =>
          rw [hr2] at HC
          have HE : Hid (dnH (tlt E) f X n k = dnH (tlt E) (f - 1) (swp X k j1) n j1) := by
            show _ = _
            obtain ⟨f2, rfl⟩ : ∃ f2, f = f2 + 1 := ⟨f - 1, by have := HNn.out; omega⟩
            rw [show f2 + 1 - 1 = f2 by omega]
            conv => lhs; unfold dnH
            rw [HKid.out, if_neg (by rw [hr2]; intro h; rcases h with h | h; omega; cases h)]
          have HSw : Hid (∀ m, Calls Tryd.prog 87 #[.slice (some ⟨g, 0, none⟩) N c, .int .i64 (k : Int), .int .i64 (j1 : Int)] (wr.drewN m) fun e w' => e = .returned (.tuple #[]) ∧ Hid (Ln B P x (.slice (some ⟨g, 0, none⟩) N c) E (swp X k j1) w' ∧ Oth (LnS P (.slice (some ⟨g, 0, none⟩) N c) E) w w')) := fun m => by
            have := Swap_any B P g c k j1 x E X (wr.drewN m) (hX2.out.drewN m) (by have := HNn.out; omega) (by have := HNn.out; omega) (by omega)
            rw [hX] at this
            exact this.mono fun e w' ⟨q1, q2, q3⟩ => ⟨q1, q2, (hO.trans (Oth.drewN _ _ m)).trans q3⟩
          have HM : Hid ((j1 = i0 ∧ swp X k j1 = L) ∨ (i0 < j1 ∧ dnM (tlt E) L n i0 = true)) := .inr (dn_go hmv (by omega) (by omega) HKid.out hr2)
          have HK : Hid (j1 ≤ N ∧ (swp X k j1).length = N ∧ N ≤ j1 + (f - 1) ∧ dnH (tlt E) (f - 1) (swp X k j1) n j1 = dnH (tlt E) N L n i0 ∧ k < j1) := ⟨by have := HNn.out; omega, by rw [swp_len]; exact hX, by have := HNn.out; omega, by rw [← HE.out]; exact hup, by omega⟩
          clear hmv hX2 HE hup hR hO hX hkf hk HI H0 h1 hj1 hj2 HJ HKid hr2
          go_wp2_with (first
            | (go_at_call 86; with_reducible refine HC.out.mono ?_; rintro e w2 ⟨rfl, m2, rfl⟩)
            | (go_at_call 87; refine (HSw.out _).mono ?_; rintro e w3 ⟨rfl, H3⟩)
            | go_in)
          obtain ⟨k1, k2, k3, k4, k5⟩ := HK.out
          refine ⟨⟨j1, f - 1, swp X k j1, rfl, HM.out, k1, k2, k3, k4, H3.out.1, H3.out.2⟩, ?_⟩
          simp [RowKit.intOf]
          omega
end Go.Proofs.YtoceglbdnbnjpaaDoor

/- The library's heap at a store's line: one comes, one goes, one is put right. -/
namespace Go.Proofs.YtoceglbdnbnjpaaDoor
open Go.RowKit Go.Shelf

/-- The row is the one that it was, or a new one. -/
def NewB (v v2 : Value) (w : World) : Prop := ∀ g, v2.ownBlock = some g → v.ownBlock = some g ∨ w.heap.size ≤ g
theorem NewB.refl (v : Value) (w : World) : NewB v v w := fun _ h => .inl h
theorem oth_two {P : Nat} {v v2 : Value} {E : List Ent} {w w1 w2 : World} (h1 : Oth (LnS P v E) w w1) (h2 : Oth (LnS P v2 E) w1 w2) (hn : NewB v v2 w) : Oth (LnS P v E) w w2 :=
  ⟨h2.os.trans h1.os, h2.tape.trans h1.tape, h2.output.trans h1.output, Nat.le_trans h1.size h2.size, fun g hg hS => (h2.block g (Nat.lt_of_lt_of_le hg h1.size) (fun h => by
    rcases h with h | h | h
    · exact hS (.inl h)
    · rcases hn g h with h | h
      · exact hS (.inr (.inl h))
      · omega
    · exact hS (.inr (.inr h)))).trans (h1.block g hg hS)⟩

set_option maxHeartbeats 4000000 in
set_option maxRecDepth 100000 in
theorem HPush_any (B P : Nat) (x : Sx) (v : Value) (E : List Ent) (L : List Nat) (en : Ent) (w : World) (h : Ln B P x v E L w) (hp : Hp (tlt E) L L.length) (he : en ∈ E) (hne : en.blk ∉ L) (hB : B ≤ w.heap.size) (hl : L.length ≤ 100000) :
    Calls Tryd.prog 44 #[lnI P, .iface 70 (kp en.blk)] w fun e w' => e = .returned (.tuple #[]) ∧ ∃ v2 L2, Ln B P x v2 E L2 w' ∧ Hp (tlt E) L2 L2.length ∧ L2.Perm (en.blk :: L) ∧ NewB v v2 w ∧ Oth (LnS P v E) w w' := by
  obtain ⟨b, hb⟩ : ∃ b, b = en.blk := ⟨_, rfl⟩
  have HP : Hid (Calls Tryd.prog 89 #[lnP P, .iface 70 (kp b)] w fun e w' => e = .returned (.tuple #[]) ∧ ∃ g c, w'.cell? ⟨P, 5, none⟩ = some (.slice (some ⟨g, 0, none⟩) (L.length + 1) c) ∧ Hid (Ln B P x (.slice (some ⟨g, 0, none⟩) (L ++ [b]).length c) E (L ++ [b]) w' ∧ (v.ownBlock = some g ∨ w.heap.size ≤ g) ∧ Oth (LnS P v E) w w')) := by
    rw [hb]
    exact (LPush_any B P x v E L en w h he hne hB (by omega)).mono fun e w' ⟨q1, g, c, q2, q3, q4⟩ => ⟨q1, g, c, by rw [q2.cell]; simp, q2, q3, q4⟩
  have HU : Hid (∀ (W : World) (g c : Nat), Hid (Ln B P x (.slice (some ⟨g, 0, none⟩) (L ++ [b]).length c) E (L ++ [b]) W ∧ (v.ownBlock = some g ∨ w.heap.size ≤ g) ∧ Oth (LnS P v E) w W) → Calls Tryd.prog 59 #[lnI P, .int .i64 (L.length : Int)] W fun e w' => e = .returned (.tuple #[]) ∧ ∃ v2 L2, Ln B P x v2 E L2 w' ∧ Hp (tlt E) L2 L2.length ∧ L2.Perm (b :: L) ∧ NewB v v2 w ∧ Oth (LnS P v E) w w') := fun W g c hW => by
    obtain ⟨q1, q2, q3⟩ := hW.out
    refine (up_any B P g c L.length x E (L ++ [b]) W q1 (by simp) (by simp; omega)).mono fun e w' ⟨r1, r2, r3⟩ => ⟨r1, ?_⟩
    have hlen : (upH (tlt E) L.length (L ++ [b]) L.length).length = (L ++ [b]).length := upH_len (tlt E) _ _ _
    have hnb : NewB v (.slice (some ⟨g, 0, none⟩) (L ++ [b]).length c) w := fun g2 hg2 => by
      have : g = g2 := by simpa [Value.ownBlock] using hg2
      subst this
      exact q2
    refine ⟨_, _, r2, ?_, ?_, hnb, oth_two q3 r3 hnb⟩
    · rw [hlen, show (L ++ [b]).length = L.length + 1 by simp]
      exact push_hp (tlt_wk E) L b hp
    · exact (upH_perm (tlt E) _ _ _ (by simp)).trans (List.perm_append_comm)
  have hM := fun W => m_push (v := lnP P) (w := W)
  have hL1 := fun (W : World) (v : Value) (h : W.cell? ⟨P, 5, none⟩ = some v) => m_len h
  have k1 : ((L.length + 1 : Nat) : Int) - 1 = (L.length : Int) := by omega
  have k2 : IntKind.i64.wrap (L.length : Int) = (L.length : Int) := by rw [IntKind.wrap_i64]; omega
  obtain ⟨n1, hn1⟩ : ∃ n1, n1 = L.length + 1 := ⟨_, rfl⟩
  rw [← hn1] at k1 HP
  rw [← hb]
  clear h hp hB hl hn1 he hne hb
  go_enter Tryd.func44, Tryd.ntmps44
  go_wp2_with (first
    | (go_at_call 89; refine HP.out.mono ?_; rintro e w1 ⟨rfl, g, c, hc1, H1⟩; have hl1 := hL1 _ _ hc1)
    | (go_at_call 59; refine (HU.out _ _ _ H1).mono ?_; rintro e w2 ⟨rfl, H2⟩)
    | go_in)
  go_end0
  exact ⟨rfl, H2⟩

set_option maxHeartbeats 4000000 in
set_option maxRecDepth 100000 in
theorem HFix_any (B P i : Nat) (x : Sx) (v : Value) (E : List Ent) (L : List Nat) (w : World) (h : Ln B P x v E L w) (hp : HpEx (tlt E) L L.length i) (hi : i < L.length) (hl : L.length ≤ 100000) :
    Calls Tryd.prog 54 #[lnI P, .int .i64 (i : Int)] w fun e w' => e = .returned (.tuple #[]) ∧ ∃ L2, Ln B P x v E L2 w' ∧ Hp (tlt E) L2 L2.length ∧ L2.Perm L ∧ Oth (LnS P v E) w w' := by
  obtain ⟨g, c, rfl, _, _, _⟩ := h.form (by omega)
  obtain ⟨N, hN⟩ : ∃ N, N = L.length := ⟨_, rfl⟩
  have HQ : Hid (∀ L2, L2 = fixH (tlt E) L N i → L2.length = N ∧ Hp (tlt E) L2 L2.length ∧ L2.Perm L) := fun L2 e => by
    subst e
    have hlen : (fixH (tlt E) L N i).length = N := by rw [fixH_len, hN]
    refine ⟨hlen, ?_, ?_⟩
    · rw [hlen]
      exact fix_hp (tlt_wk E) L N i (by omega) (by omega) (by rw [hN]; exact hp)
    · exact fixH_perm (tlt E) L N i (by omega) hi
  obtain ⟨D, hD⟩ : ∃ D, D = dnH (tlt E) N L N i := ⟨_, rfl⟩
  have HD : Hid (D = dnH (tlt E) N L N i) := hD
  have HDn : Hid (Calls Tryd.prog 58 #[lnI P, .int .i64 (i : Int), .int .i64 (N : Int)] w fun e w' => e = .returned (.bool (dnM (tlt E) L N i)) ∧ Hid (Ln B P x (.slice (some ⟨g, 0, none⟩) N c) E D w' ∧ Oth (LnS P (.slice (some ⟨g, 0, none⟩) N c) E) w w')) := by
    have := down_any B P g c L.length i x E L w h (Nat.le_refl _) hi (by omega)
    rw [← hN, ← hD] at this
    exact this
  have hc := h.cell
  rw [← hN] at hc
  have hL1 := m_len hc
  cases hm : dnM (tlt E) L N i with
  | true =>
    have HE : Hid (D = fixH (tlt E) L N i) := by
      show _ = _
      unfold fixH
      rw [hm, if_pos rfl, hD, hN]
    rw [hm] at HDn
    rw [← hN]
    clear h hp hi hl hN hD hm
    go_enter Tryd.func54, Tryd.ntmps54
    go_wp2_with (first
      | (go_at_call 58; refine HDn.out.mono ?_; rintro e w2 ⟨rfl, H2⟩)
      | go_in)
    go_end0
    obtain ⟨q1, q2, q3⟩ := HQ.out D HE.out
    exact ⟨rfl, D, H2.out.1, q2, q3, H2.out.2⟩
  | false =>
    have HE : Hid (D = L) := by
      show _ = _
      rw [hD, dnM_stay hm]
    have HU : Hid (∀ W, Hid (Ln B P x (.slice (some ⟨g, 0, none⟩) N c) E D W ∧ Oth (LnS P (.slice (some ⟨g, 0, none⟩) N c) E) w W) → Calls Tryd.prog 59 #[lnI P, .int .i64 (i : Int)] W fun e w' => e = .returned (.tuple #[]) ∧ ∃ L2, Ln B P x (.slice (some ⟨g, 0, none⟩) N c) E L2 w' ∧ Hp (tlt E) L2 L2.length ∧ L2.Perm L ∧ Oth (LnS P (.slice (some ⟨g, 0, none⟩) N c) E) w w') := fun W hW => by
      rw [HE.out] at hW
      have := up_any B P g c i x E L W (by rw [← hN]; exact hW.out.1) hi (by omega)
      rw [← hN] at this
      refine this.mono fun e w' ⟨r1, r2, r3⟩ => ⟨r1, _, r2, ?_, ?_, hW.out.2.trans r3⟩
      · exact (HQ.out (upH (tlt E) i L i) (by unfold fixH; rw [hm, if_neg (by decide)])).2.1
      · exact upH_perm _ _ _ _ hi
    rw [hm] at HDn
    rw [← hN]
    clear h hp hi hl hN hD hm
    go_enter Tryd.func54, Tryd.ntmps54
    go_wp2_with (first
      | (go_at_call 58; refine HDn.out.mono ?_; rintro e w2 ⟨rfl, H2⟩)
      | (go_at_call 59; refine (HU.out _ H2).mono ?_; rintro e w3 ⟨rfl, H3⟩)
      | go_in)
    go_end0
    exact ⟨rfl, H3⟩

set_option maxHeartbeats 4000000 in
set_option maxRecDepth 100000 in
theorem HRemove_any (B P i : Nat) (x : Sx) (v : Value) (E : List Ent) (L : List Nat) (w : World) (h : Ln B P x v E L w) (hp : Hp (tlt E) L L.length) (hi : i < L.length) (hl : L.length ≤ 100000) :
    Calls Tryd.prog 43 #[lnI P, .int .i64 (i : Int)] w fun e w' => (∃ r, e = .returned r) ∧ ∃ v2, Ln B P x v2 E (remH (tlt E) L i) w' ∧ Hp (tlt E) (remH (tlt E) L i) (remH (tlt E) L i).length ∧ NewB v v2 w ∧ Oth (LnS P v E) w w' := by
  have hrh : Hp (tlt E) (remH (tlt E) L i) (remH (tlt E) L i).length := by rw [remH_len]; exact rem_hp (tlt_wk E) L i hi hp
  obtain ⟨g, c, rfl, _, _, _⟩ := h.form (by omega)
  obtain ⟨N, hN⟩ : ∃ N, N = L.length := ⟨_, rfl⟩
  obtain ⟨n, hn⟩ : ∃ n, n = N - 1 := ⟨_, rfl⟩
  have hc := h.cell
  rw [← hN] at hc
  have hL1 := m_len hc
  have hS1 := m_swap hc
  have hM := fun W => m_pop (v := lnP P) (w := W)
  have k1 : (N : Int) - 1 = (n : Int) := by omega
  have k2 : IntKind.i64.wrap (n : Int) = (n : Int) := by rw [IntKind.wrap_i64]; omega
  have HPo : Hid (∀ W X, X.length = N → X.take n = remH (tlt E) L i → Ln B P x (.slice (some ⟨g, 0, none⟩) N c) E X W → Oth (LnS P (.slice (some ⟨g, 0, none⟩) N c) E) w W → Calls Tryd.prog 88 #[lnP P] W fun e w' => (∃ r, e = .returned r) ∧ ∃ v2, Ln B P x v2 E (remH (tlt E) L i) w' ∧ Hp (tlt E) (remH (tlt E) L i) (remH (tlt E) L i).length ∧ NewB (.slice (some ⟨g, 0, none⟩) N c) v2 w ∧ Oth (LnS P (.slice (some ⟨g, 0, none⟩) N c) E) w w') := fun W X hX hr hW hO => by
    have := LPop_any B P g c x E X W (by rw [hX]; exact hW) (by omega) (by omega)
    rw [hX, ← hn, hr] at this
    exact this.mono fun e w' ⟨q1, q2, q3⟩ => ⟨⟨_, q1⟩, _, q2, hrh, fun g2 hg2 => .inl (by simpa [Value.ownBlock] using hg2), hO.trans q3⟩
  by_cases hin : i = n
  · have hii : (n : Int) = (i : Int) := by omega
    have HP2 := HPo.out w L hN.symm (by unfold remH; rw [if_pos (by omega), hn, hN]) (by rw [hN]; exact h) (Oth.refl _ _)
    have HP3 : Hid (Calls Tryd.prog 88 #[lnP P] w fun e w' => (∃ r, e = .returned r) ∧ ∃ v2, Ln B P x v2 E (remH (tlt E) L i) w' ∧ Hp (tlt E) (remH (tlt E) L i) (remH (tlt E) L i).length ∧ NewB (.slice (some ⟨g, 0, none⟩) N c) v2 w ∧ Oth (LnS P (.slice (some ⟨g, 0, none⟩) N c) E) w w') := HP2
    subst hin
    rw [← hN]
    clear h hp hi hl hn hN HP2 HPo hrh hii
    go_enter Tryd.func43, Tryd.ntmps43
    go_wp2_with (first
      | (go_at_call 88; refine HP3.out.mono ?_; rintro e w3 ⟨⟨r, rfl⟩, H3⟩)
      | go_in)
    go_ret
    exact ⟨⟨_, rfl⟩, H3⟩
  · have hii : ¬ (n : Int) = (i : Int) := by omega
    obtain ⟨X, hX⟩ : ∃ X, X = swp L i n := ⟨_, rfl⟩
    have hXl : X.length = N := by rw [hX, swp_len, hN]
    have hrX : (fixH (tlt E) X n i).take n = remH (tlt E) L i := by unfold remH; rw [if_neg (by omega), hX, hn, hN]
    have HSw : Hid (Calls Tryd.prog 87 #[.slice (some ⟨g, 0, none⟩) N c, .int .i64 (i : Int), .int .i64 (n : Int)] w fun e w' => e = .returned (.tuple #[]) ∧ Hid (Ln B P x (.slice (some ⟨g, 0, none⟩) N c) E X w' ∧ Oth (LnS P (.slice (some ⟨g, 0, none⟩) N c) E) w w')) := by
      have := Swap_any B P g c i n x E L w h hi (by omega) (by omega)
      rw [← hN, ← hX] at this
      exact this
    obtain ⟨D, hD⟩ : ∃ D, D = dnH (tlt E) N X n i := ⟨_, rfl⟩
    have hDl : D.length = N := by rw [hD, dnH_len, hXl]
    have HDn : Hid (∀ W, Hid (Ln B P x (.slice (some ⟨g, 0, none⟩) N c) E X W ∧ Oth (LnS P (.slice (some ⟨g, 0, none⟩) N c) E) w W) → Calls Tryd.prog 58 #[lnI P, .int .i64 (i : Int), .int .i64 (n : Int)] W fun e w' => e = .returned (.bool (dnM (tlt E) X n i)) ∧ Hid (Ln B P x (.slice (some ⟨g, 0, none⟩) N c) E D w' ∧ Oth (LnS P (.slice (some ⟨g, 0, none⟩) N c) E) w w')) := fun W hW => by
      have := down_any B P g c n i x E X W (by rw [hXl]; exact hW.out.1) (by omega) (by omega) (by omega)
      rw [hXl, ← hD] at this
      exact this.mono fun e w' ⟨q1, q2, q3⟩ => ⟨q1, q2, hW.out.2.trans q3⟩
    cases hm : dnM (tlt E) X n i with
    | true =>
      have HP3 : Hid (∀ W, Hid (Ln B P x (.slice (some ⟨g, 0, none⟩) N c) E D W ∧ Oth (LnS P (.slice (some ⟨g, 0, none⟩) N c) E) w W) → Calls Tryd.prog 88 #[lnP P] W fun e w' => (∃ r, e = .returned r) ∧ ∃ v2, Ln B P x v2 E (remH (tlt E) L i) w' ∧ Hp (tlt E) (remH (tlt E) L i) (remH (tlt E) L i).length ∧ NewB (.slice (some ⟨g, 0, none⟩) N c) v2 w ∧ Oth (LnS P (.slice (some ⟨g, 0, none⟩) N c) E) w w') := fun W hW => HPo.out W D hDl (by rw [← hrX]; unfold fixH; rw [hm, if_pos rfl, hD, hXl]) hW.out.1 hW.out.2
      rw [hm] at HDn
      rw [← hN]
      clear h hp hi hl hn hN HPo hrh hin hX hXl hrX hD hDl hm
      go_enter Tryd.func43, Tryd.ntmps43
      go_wp2_with (first
        | (go_at_call 87; refine HSw.out.mono ?_; rintro e w1 ⟨rfl, H1⟩)
        | (go_at_call 58; refine (HDn.out _ H1).mono ?_; rintro e w2 ⟨rfl, H2⟩)
        | (go_at_call 88; refine (HP3.out _ H2).mono ?_; rintro e w3 ⟨⟨r, rfl⟩, H3⟩)
        | go_in)
      go_ret
      exact ⟨⟨_, rfl⟩, H3⟩
    | false =>
      have hDX : D = X := by rw [hD, dnM_stay hm]
      obtain ⟨U, hU⟩ : ∃ U, U = upH (tlt E) i X i := ⟨_, rfl⟩
      have hUl : U.length = N := by rw [hU, upH_len, hXl]
      have HU : Hid (∀ W, Hid (Ln B P x (.slice (some ⟨g, 0, none⟩) N c) E D W ∧ Oth (LnS P (.slice (some ⟨g, 0, none⟩) N c) E) w W) → Calls Tryd.prog 59 #[lnI P, .int .i64 (i : Int)] W fun e w' => e = .returned (.tuple #[]) ∧ Hid (Ln B P x (.slice (some ⟨g, 0, none⟩) N c) E U w' ∧ Oth (LnS P (.slice (some ⟨g, 0, none⟩) N c) E) w w')) := fun W hW => by
        rw [hDX] at hW
        have := up_any B P g c i x E X W (by rw [hXl]; exact hW.out.1) (by omega) (by omega)
        rw [hXl, ← hU] at this
        exact this.mono fun e w' ⟨q1, q2, q3⟩ => ⟨q1, q2, hW.out.2.trans q3⟩
      have HP3 : Hid (∀ W, Hid (Ln B P x (.slice (some ⟨g, 0, none⟩) N c) E U W ∧ Oth (LnS P (.slice (some ⟨g, 0, none⟩) N c) E) w W) → Calls Tryd.prog 88 #[lnP P] W fun e w' => (∃ r, e = .returned r) ∧ ∃ v2, Ln B P x v2 E (remH (tlt E) L i) w' ∧ Hp (tlt E) (remH (tlt E) L i) (remH (tlt E) L i).length ∧ NewB (.slice (some ⟨g, 0, none⟩) N c) v2 w ∧ Oth (LnS P (.slice (some ⟨g, 0, none⟩) N c) E) w w') := fun W hW => HPo.out W U hUl (by rw [← hrX]; unfold fixH; rw [hm, if_neg (by decide), hU]) hW.out.1 hW.out.2
      rw [hm] at HDn
      rw [← hN]
      clear h hp hi hl hn hN HPo hrh hin hX hXl hrX hD hDl hm hDX hU hUl
      go_enter Tryd.func43, Tryd.ntmps43
      go_wp2_with (first
        | (go_at_call 87; refine HSw.out.mono ?_; rintro e w1 ⟨rfl, H1⟩)
        | (go_at_call 58; refine (HDn.out _ H1).mono ?_; rintro e w2 ⟨rfl, H2⟩)
        | (go_at_call 59; refine (HU.out _ H2).mono ?_; rintro e w3 ⟨rfl, H3⟩)
        | (go_at_call 88; refine (HP3.out _ H3).mono ?_; rintro e w4 ⟨⟨r, rfl⟩, H4⟩)
        | go_in)
      go_ret
      exact ⟨⟨_, rfl⟩, H4⟩
end Go.Proofs.YtoceglbdnbnjpaaDoor
