/- A heap, plain: what up and down come to; that it stays one; that the first is the least. -/
import Derived.Deep.QuietTactic
import Derived.BigQuiet
import Derived.BigRegion
import Derived.Deep.RegionHeld
import Derived.Laws.AppendOwnNone
import Derived.Test.YtankaiopdbcndaaGreatDoorTc1
namespace Go.Proofs.YtankaiopdbcndaaGreatDoor
open Go.RowKit Go.Shelf

theorem set_perm {α : Type} : ∀ (L : List α) (i : Nat) (a : α) (_ : i < L.length), (L.set i a).Perm (a :: L.eraseIdx i)
  | b :: l, 0, a, _ => List.Perm.refl _
  | b :: l, i + 1, a, hi => by
    have := set_perm l i a (by simpa using hi)
    exact (List.Perm.cons b this).trans (List.Perm.swap a b _)
theorem erase_perm {α : Type} (L : List α) (i : Nat) (hi : i < L.length) : L.Perm (L[i] :: L.eraseIdx i) := by
  have := set_perm L i L[i] hi
  rwa [List.set_getElem_self] at this
section
variable {α : Type} [Inhabited α]
/-- Two things change places. -/
def swp (L : List α) (i j : Nat) : List α := (L.set i (L.getD j default)).set j (L.getD i default)
theorem swp_len (L : List α) (i j : Nat) : (swp L i j).length = L.length := by unfold swp; simp
theorem swp_get (L : List α) {i j : Nat} (hi : i < L.length) (hj : j < L.length) (k : Nat) : (swp L i j).getD k default = if k = j then L.getD i default else if k = i then L.getD j default else L.getD k default := by
  unfold swp
  simp only [List.getD_eq_getElem?_getD, List.getElem?_set, List.length_set]
  by_cases h1 : k = j
  · subst h1; simp [hj]
  · by_cases h2 : k = i
    · subst h2
      simp only [h1, Ne.symm h1, if_false, if_true, hi]
      rfl
    · simp [h1, h2, Ne.symm h1, Ne.symm h2]
theorem swp_perm (L : List α) {i j : Nat} (hi : i < L.length) (hj : j < L.length) : (swp L i j).Perm L := by
  by_cases hij : i = j
  · subst hij
    unfold swp
    rw [List.set_set, List.getD_eq_getElem?_getD, List.getElem?_eq_getElem hi]
    show (L.set i L[i]).Perm L
    rw [List.set_getElem_self]
  · unfold swp
    rw [List.getD_eq_getElem?_getD, List.getD_eq_getElem?_getD, List.getElem?_eq_getElem hi, List.getElem?_eq_getElem hj]
    show ((L.set i L[j]).set j L[i]).Perm L
    have hj2 : j < (L.set i L[j]).length := by simpa using hj
    have e : (L.set i L[j])[j] = L[j] := by rw [List.getElem_set_ne (by omega)]
    have p1 := set_perm (L.set i L[j]) j L[i] hj2
    have p2 := erase_perm (L.set i L[j]) j hj2
    rw [e] at p2
    have p3 := set_perm L i L[j] hi
    have p4 := erase_perm L i hi
    have p5 : ((L.set i L[j]).eraseIdx j).Perm (L.eraseIdx i) := List.Perm.cons_inv (p2.symm.trans p3)
    exact p1.trans ((List.Perm.cons _ p5).trans p4.symm)

variable (lt : α → α → Bool)
/-- What is less, told apart: no thing is less than itself, and what is not less stays so. -/
structure Wk : Prop where
  irr : ∀ a, lt a a = false
  trn : ∀ a b c, lt a b = false → lt b c = false → lt a c = false
  asy : ∀ a b, lt a b = true → lt b a = false
/-- A heap: none is less than the one above it; so far. -/
def Hp (L : List α) (n : Nat) : Prop := ∀ k, 0 < k → k < n → lt (L.getD k default) (L.getD ((k - 1) / 2) default) = false
/-- A heap, but for what stands at j, which may be less than the one above it. -/
structure HpUp (L : List α) (n j : Nat) : Prop where
  oth : ∀ k, 0 < k → k < n → k ≠ j → lt (L.getD k default) (L.getD ((k - 1) / 2) default) = false
  kid : ∀ k, 0 < k → k < n → (k - 1) / 2 = j → 0 < j → lt (L.getD k default) (L.getD ((j - 1) / 2) default) = false
/-- Up, so many steps at most. -/
def upH : Nat → List α → Nat → List α
  | 0, L, _ => L
  | f + 1, L, j => if (j - 1) / 2 = j ∨ lt (L.getD j default) (L.getD ((j - 1) / 2) default) = false then L else upH f (swp L ((j - 1) / 2) j) ((j - 1) / 2)
theorem upH_len : ∀ (f : Nat) (L : List α) (j : Nat), (upH lt f L j).length = L.length
  | 0, _, _ => rfl
  | f + 1, L, j => by
    unfold upH
    split
    · rfl
    · rw [upH_len f, swp_len]
theorem upH_perm : ∀ (f : Nat) (L : List α) (j : Nat), j < L.length → (upH lt f L j).Perm L
  | 0, L, _, _ => List.Perm.refl L
  | f + 1, L, j, hj => by
    unfold upH
    split
    · exact List.Perm.refl L
    · exact (upH_perm f _ _ (by rw [swp_len]; omega)).trans (swp_perm L (by omega) hj)
variable {lt}
theorem upH_hp (hw : Wk lt) : ∀ (f : Nat) (L : List α) (j : Nat), j < L.length → j ≤ f → HpUp lt L L.length j → Hp lt (upH lt f L j) L.length
  | 0, L, j, hj, hf, h => by
    intro k hk hkn
    exact h.oth k hk hkn (by omega)
  | f + 1, L, j, hj, hf, h => by
    unfold upH
    split
    · rename_i hc
      intro k hk hkn
      by_cases e : k = j
      · subst e
        rcases hc with hc | hc
        · omega
        · exact hc
      · exact h.oth k hk hkn e
    · rename_i hc
      have hj0 : 0 < j := by omega
      have hi : (j - 1) / 2 < L.length := by omega
      have hless : lt (L.getD j default) (L.getD ((j - 1) / 2) default) = true := by
        cases e : lt (L.getD j default) (L.getD ((j - 1) / 2) default) with
        | true => rfl
        | false => exact absurd (.inr e) hc
      have ih := upH_hp hw f (swp L ((j - 1) / 2) j) ((j - 1) / 2) (by rw [swp_len]; exact hi) (by omega)
      rw [swp_len] at ih
      refine ih ⟨fun k hk hkn hne => ?_, fun k hk hkn hp hi0 => ?_⟩
      · rw [swp_get L hi hj, swp_get L hi hj]
        by_cases e1 : k = j
        · subst e1
          rw [if_pos rfl, if_neg (by omega), if_pos rfl]
          exact hw.asy _ _ hless
        · rw [if_neg e1, if_neg hne]
          by_cases e2 : (k - 1) / 2 = j
          · rw [if_pos e2]
            exact h.kid k hk hkn e2 hj0
          · rw [if_neg e2]
            by_cases e3 : (k - 1) / 2 = (j - 1) / 2
            · rw [if_pos e3]
              have := h.oth k hk hkn e1
              rw [e3] at this
              exact hw.trn _ _ _ this (hw.asy _ _ hless)
            · rw [if_neg e3]
              exact h.oth k hk hkn e1
      · rw [swp_get L hi hj, swp_get L hi hj]
        have hne2 : ((j - 1) / 2 - 1) / 2 ≠ j := by omega
        have hne3 : ((j - 1) / 2 - 1) / 2 ≠ (j - 1) / 2 := by omega
        have hpp := h.oth ((j - 1) / 2) hi0 hi (by omega)
        rw [if_neg hne2, if_neg hne3]
        by_cases e1 : k = j
        · rw [if_pos e1]
          exact hpp
        · rw [if_neg e1, if_neg (by omega)]
          have := h.oth k hk hkn e1
          rw [hp] at this
          exact hw.trn _ _ _ this hpp
/-- One more. -/
theorem push_hp (hw : Wk lt) (L : List α) (x : α) (h : Hp lt L L.length) : Hp lt (upH lt L.length (L ++ [x]) L.length) (L.length + 1) := by
  have hl : (L ++ [x]).length = L.length + 1 := by simp
  have := upH_hp hw L.length (L ++ [x]) L.length (by omega) (Nat.le_refl _) ⟨fun k hk hkn hne => ?_, fun k hk hkn hp h0 => by omega⟩
  · rwa [hl] at this
  · have g : ∀ i, i < L.length → (L ++ [x]).getD i default = L.getD i default := fun i hi => by
      rw [List.getD_eq_getElem?_getD, List.getD_eq_getElem?_getD, List.getElem?_append_left hi]
    rw [g k (by omega), g _ (by omega)]
    exact h k hk (by omega)
/-- The first is the least. -/
theorem hp_least (hw : Wk lt) {L : List α} {n : Nat} (h : Hp lt L n) : ∀ k, k < n → lt (L.getD k default) (L.getD 0 default) = false := by
  intro k
  induction k using Nat.strongRecOn with
  | _ k ih =>
    intro hk
    by_cases h0 : k = 0
    · subst h0; exact hw.irr _
    · exact hw.trn _ _ _ (h k (by omega) hk) (ih ((k - 1) / 2) (by omega) (by omega))
/-- A heap of the first n, but for what stands at i, which may be more than those below it. -/
structure HpDn (lt : α → α → Bool) (L : List α) (n i : Nat) : Prop where
  oth : ∀ k, 0 < k → k < n → (k - 1) / 2 ≠ i → lt (L.getD k default) (L.getD ((k - 1) / 2) default) = false
  kid : ∀ k, 0 < k → k < n → (k - 1) / 2 = i → 0 < i → lt (L.getD k default) (L.getD ((i - 1) / 2) default) = false
variable (lt)
/-- The lesser of two below. -/
def kidH (L : List α) (n i : Nat) : Nat := if 2 * i + 2 < n ∧ lt (L.getD (2 * i + 2) default) (L.getD (2 * i + 1) default) = true then 2 * i + 2 else 2 * i + 1
/-- Down, so many steps at most. -/
def dnH : Nat → List α → Nat → Nat → List α
  | 0, L, _, _ => L
  | f + 1, L, n, i => if n ≤ 2 * i + 1 ∨ lt (L.getD (kidH lt L n i) default) (L.getD i default) = false then L else dnH f (swp L i (kidH lt L n i)) n (kidH lt L n i)
theorem kid_lt (L : List α) {n i : Nat} (h : ¬ n ≤ 2 * i + 1) : kidH lt L n i < n ∧ i < kidH lt L n i ∧ (kidH lt L n i - 1) / 2 = i := by
  unfold kidH
  split <;> omega
theorem dnH_len : ∀ (f : Nat) (L : List α) (n i : Nat), (dnH lt f L n i).length = L.length
  | 0, _, _, _ => rfl
  | f + 1, L, n, i => by
    unfold dnH
    split
    · rfl
    · rw [dnH_len f, swp_len]
theorem dnH_perm : ∀ (f : Nat) (L : List α) (n i : Nat), n ≤ L.length → (dnH lt f L n i).Perm L
  | 0, L, _, _, _ => List.Perm.refl L
  | f + 1, L, n, i, hn => by
    unfold dnH
    split
    · exact List.Perm.refl L
    · rename_i hc
      obtain ⟨h1, h2, _⟩ := kid_lt lt L (n := n) (i := i) (fun h => hc (.inl h))
      exact (dnH_perm f _ _ _ (by rw [swp_len]; exact hn)).trans (swp_perm L (by omega) (by omega))
/-- What stands behind the first n stays. -/
theorem dnH_keep : ∀ (f : Nat) (L : List α) (n i k : Nat), n ≤ L.length → n ≤ k → (dnH lt f L n i).getD k default = L.getD k default
  | 0, _, _, _, _, _, _ => rfl
  | f + 1, L, n, i, k, hn, hk => by
    unfold dnH
    split
    · rfl
    · rename_i hc
      obtain ⟨h1, h2, _⟩ := kid_lt lt L (n := n) (i := i) (fun h => hc (.inl h))
      rw [dnH_keep f _ _ _ _ (by rw [swp_len]; exact hn) hk, swp_get L (by omega) (by omega), if_neg (by omega), if_neg (by omega)]
variable {lt}
theorem dnH_hp (hw : Wk lt) : ∀ (f : Nat) (L : List α) (n i : Nat), n ≤ L.length → n ≤ i + f → HpDn lt L n i → Hp lt (dnH lt f L n i) n
  | 0, L, n, i, hn, hf, h => fun k hk hkn => h.oth k hk hkn (by omega)
  | f + 1, L, n, i, hn, hf, h => by
    unfold dnH
    split
    · rename_i hc
      intro k hk hkn
      by_cases e : (k - 1) / 2 = i
      · rcases hc with hc | hc
        · omega
        · rw [e]
          unfold kidH at hc
          rcases (show k = 2 * i + 1 ∨ k = 2 * i + 2 by omega) with e2 | e2
          · split at hc
            · rename_i h2
              rw [e2]
              exact hw.trn _ _ _ (hw.asy _ _ h2.2) hc
            · rw [e2]; exact hc
          · split at hc
            · rw [e2]; exact hc
            · rename_i h2
              have h3 : lt (L.getD (2 * i + 2) default) (L.getD (2 * i + 1) default) = false := by
                cases e3 : lt (L.getD (2 * i + 2) default) (L.getD (2 * i + 1) default) with
                | false => rfl
                | true => exact absurd ⟨by omega, e3⟩ h2
              rw [e2]
              exact hw.trn _ _ _ h3 hc
      · exact h.oth k hk hkn e
    · rename_i hc
      have hkid := kid_lt lt L (n := n) (i := i) (fun h => hc (.inl h))
      have hless : lt (L.getD (kidH lt L n i) default) (L.getD i default) = true := by
        cases e : lt (L.getD (kidH lt L n i) default) (L.getD i default) with
        | true => rfl
        | false => exact absurd (.inr e) hc
      have hmin : ∀ k, 0 < k → k < n → (k - 1) / 2 = i → lt (L.getD k default) (L.getD (kidH lt L n i) default) = false := by
        intro k hk hkn e
        unfold kidH
        split
        · rename_i h2
          rcases (show k = 2 * i + 1 ∨ k = 2 * i + 2 by omega) with e2 | e2
          · rw [e2]; exact hw.asy _ _ h2.2
          · rw [e2]; exact hw.irr _
        · rename_i h2
          rcases (show k = 2 * i + 1 ∨ k = 2 * i + 2 by omega) with e2 | e2
          · rw [e2]; exact hw.irr _
          · rw [e2]
            cases e3 : lt (L.getD (2 * i + 2) default) (L.getD (2 * i + 1) default) with
            | false => rfl
            | true => exact absurd ⟨by omega, e3⟩ h2
      obtain ⟨h1, h2, h3⟩ := hkid
      generalize kidH lt L n i = j at *
      have hi : i < L.length := by omega
      have hj : j < L.length := by omega
      have ih := dnH_hp hw f (swp L i j) n j (by rw [swp_len]; exact hn) (by omega)
      refine ih ⟨fun k hk hkn hne => ?_, fun k hk hkn hp hj0 => ?_⟩
      · rw [swp_get L hi hj, swp_get L hi hj, if_neg hne]
        by_cases e1 : k = j
        · rw [if_pos e1, e1, h3, if_pos rfl]
          exact hw.asy _ _ hless
        · rw [if_neg e1]
          by_cases e2 : k = i
          · rw [if_pos e2, e2, if_neg (by omega)]
            have hi0 : 0 < i := by omega
            exact h.kid j (by omega) h1 h3 hi0
          · rw [if_neg e2]
            by_cases e3 : (k - 1) / 2 = i
            · rw [if_pos e3]
              exact hmin k hk hkn e3
            · rw [if_neg e3]
              exact h.oth k hk hkn e3
      · rw [swp_get L hi hj, swp_get L hi hj, h3, if_neg (by omega), if_neg (by omega), if_neg (by omega), if_pos rfl]
        have := h.oth k hk hkn (by omega)
        rw [hp] at this
        exact this
/-- The first is taken out: what is left, and what was taken. -/
def popH (lt : α → α → Bool) (L : List α) : List α := (dnH lt L.length (swp L 0 (L.length - 1)) (L.length - 1) 0).take (L.length - 1)
theorem pop_hp (hw : Wk lt) (L : List α) (h : Hp lt L L.length) : Hp lt (popH lt L) (L.length - 1) := by
  by_cases h0 : L.length = 0
  · intro k hk hkn; omega
  have hs : (swp L 0 (L.length - 1)).length = L.length := swp_len _ _ _
  have := dnH_hp hw L.length (swp L 0 (L.length - 1)) (L.length - 1) 0 (by omega) (by omega) ⟨fun k hk hkn hne => by
    rw [swp_get L (by omega) (by omega), swp_get L (by omega) (by omega), if_neg (by omega), if_neg (by omega), if_neg (by omega), if_neg hne]
    exact h k hk (by omega), fun k hk hkn hp hi => by omega⟩
  intro k hk hkn
  have g : ∀ i, i < L.length - 1 → (popH lt L).getD i default = (dnH lt L.length (swp L 0 (L.length - 1)) (L.length - 1) 0).getD i default := fun i hi => by
    unfold popH
    rw [List.getD_eq_getElem?_getD, List.getD_eq_getElem?_getD, List.getElem?_take_of_lt hi]
  rw [g k hkn, g _ (by omega)]
  exact this k hk hkn
theorem pop_perm (lt : α → α → Bool) (L : List α) (h0 : 0 < L.length) : (L.getD 0 default :: popH lt L).Perm L := by
  obtain ⟨D, hD⟩ : ∃ D, D = dnH lt L.length (swp L 0 (L.length - 1)) (L.length - 1) 0 := ⟨_, rfl⟩
  have hs : (swp L 0 (L.length - 1)).length = L.length := swp_len _ _ _
  have hl : D.length = L.length := by rw [hD, dnH_len, hs]
  have hp : D.Perm L := by rw [hD]; exact (dnH_perm lt _ _ _ _ (by omega)).trans (swp_perm L (by omega) (by omega))
  have hlast : D.getD (L.length - 1) default = L.getD 0 default := by
    rw [hD, dnH_keep lt _ _ _ _ _ (by omega) (Nat.le_refl _), swp_get L (by omega) (by omega), if_pos rfl]
  have e : D = D.take (L.length - 1) ++ [D.getD (L.length - 1) default] := by
    have := List.take_append_drop (L.length - 1) D
    rw [List.drop_eq_getElem_cons (by omega), List.drop_eq_nil_of_le (by omega)] at this
    rw [List.getD_eq_getElem?_getD, List.getElem?_eq_getElem (by omega)]
    exact this.symm
  have hpop : popH lt L = D.take (L.length - 1) := by unfold popH; rw [← hD]
  rw [hpop, ← hlast]
  refine List.Perm.trans ?_ hp
  rw [List.perm_comm]
  refine (List.Perm.of_eq e).trans ?_
  exact List.perm_append_comm
end
end Go.Proofs.YtankaiopdbcndaaGreatDoor

/- The methods of the names that are ready. -/
namespace Go.Proofs.YtankaiopdbcndaaGreatDoor
open Go.RowKit Go.Shelf

/-- Nothing turns but these blocks, and what is new. -/
structure Oth (S : Nat → Prop) (w w' : World) : Prop where
  os : w'.os = w.os
  tape : w'.tape = w.tape
  output : w'.output = w.output
  size : w.heap.size ≤ w'.heap.size
  block : ∀ g : Nat, g < w.heap.size → ¬ S g → w'.heap[g]? = w.heap[g]?
theorem Oth.refl (S : Nat → Prop) (w : World) : Oth S w w := ⟨rfl, rfl, rfl, Nat.le_refl _, fun _ _ _ => rfl⟩
theorem Oth.drewN (S : Nat → Prop) (w : World) (n : Nat) : Oth S w (w.drewN n) := ⟨rfl, rfl, rfl, Nat.le_refl _, fun _ _ _ => rfl⟩
theorem Oth.trans {S : Nat → Prop} {a b c : World} (h : Oth S a b) (k : Oth S b c) : Oth S a c :=
  ⟨k.os.trans h.os, k.tape.trans h.tape, k.output.trans h.output, Nat.le_trans h.size k.size, fun g hg hn => (k.block g (Nat.lt_of_lt_of_le hg h.size) hn).trans (h.block g hg hn)⟩
theorem Oth.mono {S T : Nat → Prop} {w w' : World} (h : Oth S w w') (hs : ∀ g, g < w.heap.size → S g → T g) : Oth T w w' := ⟨h.os, h.tape, h.output, h.size, fun g hg hn => h.block g hg fun hh => hn (hs g hg hh)⟩
theorem Oth.set {S : Nat → Prop} (w : World) (P i : Nat) (v : Value) (hS : S P) : Oth S w (w.setCell ⟨P, i, none⟩ v) :=
  ⟨rfl, rfl, rfl, by simp [World.setCell], fun g _ hg => Below.heap_setCell w ⟨P, i, none⟩ v g (fun e => hg (by rw [e]; exact hS))⟩
theorem Oth.below {S : Nat → Prop} {w w' : World} {B : Nat} (h : Oth S w w') (hB : ∀ g, g < B → ¬ S g) (hw : B ≤ w.heap.size) : Below B w w' := ⟨h.os, h.tape, h.output, h.size, fun g hg => h.block g (by omega) (hB g hg)⟩
theorem oth_below {S : Nat → Prop} {w w' : World} (h : Below w.heap.size w w') : Oth S w w' := ⟨h.os, h.tape, h.output, h.size, fun g hg _ => h.block g hg⟩

/-- Names in a row of one's own; whose slice lies in block b. -/
structure Rdy (B b : Nat) (v : Value) (L : List ByteArray) (w : World) : Prop where
  box : w.heap[b]? = some (.cells #[v] 81 (0, 0))
  row : w.ownsRow B 9 1 v L.length (L.map Value.string)
def RdS (b : Nat) (v : Value) (g : Nat) : Prop := g = b ∨ v.ownBlock = some g
theorem Rdy.cell {B b : Nat} {v : Value} {L : List ByteArray} {w : World} (h : Rdy B b v L w) : w.cell? ⟨b, 0, none⟩ = some v := by rw [Lib.cell_of_heap h.box]; rfl
theorem Rdy.drewN {B b : Nat} {v : Value} {L : List ByteArray} {w : World} (h : Rdy B b v L w) (n : Nat) : Rdy B b v L (w.drewN n) := ⟨h.box, h.row⟩
theorem Rdy.ne {B b : Nat} {v : Value} {L : List ByteArray} {w : World} (h : Rdy B b v L w) : v.ownBlock ≠ some b := Lib.ownBlock_ne h.row h.box (by decide)
theorem Rdy.form {B b : Nat} {v : Value} {L : List ByteArray} {w : World} (h : Rdy B b v L w) (hn : 0 < L.length) : ∃ g c, v = .slice (some ⟨g, 0, none⟩) L.length c ∧ g < w.heap.size ∧ B ≤ g ∧ L.length ≤ c := by
  rcases h.row.2 with ⟨_, h0⟩ | ⟨g, c, cur, e, _, hb, hc, _⟩
  · omega
  · have hlt := h.row.lt g (by rw [e]; rfl)
    exact ⟨g, c, e, hlt.2, hlt.1, hc⟩
theorem Rdy.at {B b g c : Nat} {L : List ByteArray} {w : World} (h : Rdy B b (.slice (some ⟨g, 0, none⟩) L.length c) L w) {k : Nat} (hk : k < L.length) : w.cell? ⟨g, k, none⟩ = some (.string (L.getD k default)) := by
  have := h.row.cells rfl k (.string (L.getD k default)) (by rw [List.getElem?_map, List.getElem?_eq_getElem hk, List.getD_eq_getElem?_getD, List.getElem?_eq_getElem hk]; rfl)
  rwa [addr_add, Nat.zero_add] at this
theorem Rdy.fz {B b g c : Nat} {L : List ByteArray} {w : World} (h : Rdy B b (.slice (some ⟨g, 0, none⟩) L.length c) L w) (k : Nat) : w.frozen? ⟨g, k, none⟩ = false := by
  rcases h.row.2 with ⟨e, _⟩ | ⟨g', c', cur, e, _, hb, _⟩
  · cases e
  · injection e with e1 _ _
    injection e1 with e1
    injection e1 with e1
    subst e1
    exact Lib.frozen_of_heap hb k
theorem tltG : ∀ a b : List UInt8, Op.bytesLess a b = decide (a < b)
  | [], [] => by simp [Op.bytesLess]
  | [], b :: s => by simp [Op.bytesLess]
  | a :: r, [] => by simp [Op.bytesLess]
  | a :: r, b :: s => by
    rw [Op.bytesLess, tltG r s]
    rw [Bool.eq_iff_iff]
    simp [List.cons_lt_cons_iff]
/-- Which name is less. -/
def nlt (a b : ByteArray) : Bool := decide (a.data.toList < b.data.toList)
theorem nlt_wk : Wk nlt := by
  refine ⟨fun a => decide_eq_false (List.lt_irrefl _), fun a b c h1 h2 => ?_, fun a b h => ?_⟩
  · have h1 := of_decide_eq_false h1
    have h2 := of_decide_eq_false h2
    exact decide_eq_false fun h => h1 (by
      rw [List.not_lt] at h1 h2
      exact absurd h (List.not_lt.2 (List.le_trans h2 h1)))
  · exact decide_eq_false fun h2 => List.lt_irrefl _ (List.lt_trans (of_decide_eq_true h) h2)

set_option maxHeartbeats 1000000 in
theorem Len_any (ao : Option Addr) (n c : Nat) (w : World) : Calls Tryz.prog 53 #[.slice ao n c] w fun e w' => e = .returned (.int .i64 (n : Int)) ∧ w' = w := by
  go_enter Tryz.func53, Tryz.ntmps53
  go_wp2
  go_ret
  exact ⟨rfl, rfl⟩

set_option maxHeartbeats 1000000 in
theorem Less_any (g n c i j : Nat) (x y : ByteArray) (w : World) (hi : i < n) (hj : j < n) (cx : w.cell? ⟨g, i, none⟩ = some (.string x)) (cy : w.cell? ⟨g, j, none⟩ = some (.string y)) :
    Calls Tryz.prog 140 #[.slice (some ⟨g, 0, none⟩) n c, .int .i64 (i : Int), .int .i64 (j : Int)] w fun e w' => e = .returned (.bool (nlt x y)) ∧ ∃ m, w' = w.drewN m := by
  have hii : (i : Int) < (n : Int) := by omega
  have hji : (j : Int) < (n : Int) := by omega
  have hb : Op.bytesLess x.toList y.toList = nlt x y := by unfold nlt; rw [Lib.toList_data, Lib.toList_data, tltG]
  generalize nlt x y = r at *
  clear hi hj
  go_enter Tryz.func140, Tryz.ntmps140
  go_wp2
  go_quiet (fail)
  go_wp2
  go_ret
  exact ⟨rfl, _, rfl⟩

/-- Two names change places: the row. -/
theorem Rdy.swap {B b g c : Nat} {L : List ByteArray} {w : World} (h : Rdy B b (.slice (some ⟨g, 0, none⟩) L.length c) L w) {i j : Nat} :
    Rdy B b (.slice (some ⟨g, 0, none⟩) L.length c) (swp L i j) ((w.setCell ⟨g, i, none⟩ (.string (L.getD j default))).setCell ⟨g, j, none⟩ (.string (L.getD i default))).drew := by
  have hne : b ≠ g := fun e => h.ne (by rw [e]; rfl)
  refine ⟨?_, ?_⟩
  · show ((w.setCell ⟨g, i, none⟩ (.string (L.getD j default))).setCell ⟨g, j, none⟩ (.string (L.getD i default))).heap[b]? = _
    rw [Below.heap_setCell _ _ _ _ hne, Below.heap_setCell _ _ _ _ hne]
    exact h.box
  · rw [swp_len]
    rcases h.row.2 with ⟨e, _⟩ | ⟨g', c', cur, e, hb, hc, h1, h2, h3, h4⟩
    · cases e
    · injection e with e1 _ e2
      injection e1 with e1
      injection e1 with e1
      subst e1 e2
      refine ⟨by simp [swp_len], .inr ⟨g, c, (cur.setIfInBounds i (.string (L.getD j default))).setIfInBounds j (.string (L.getD i default)), rfl, hb, ?_, h1, h2, by simpa using h3, ?_⟩⟩
      · exact Go.Joins.block_setCell (Go.Joins.block_setCell hc _) _
      · unfold swp
        rw [List.map_set, List.map_set, ← h4]
        simp only [Array.toList_setIfInBounds]
        rw [List.take_set, List.take_set]

set_option maxHeartbeats 2000000 in
theorem Swap_any (B b g c i j : Nat) (L : List ByteArray) (w : World) (h : Rdy B b (.slice (some ⟨g, 0, none⟩) L.length c) L w) (hi : i < L.length) (hj : j < L.length) :
    Calls Tryz.prog 141 #[.slice (some ⟨g, 0, none⟩) L.length c, .int .i64 (i : Int), .int .i64 (j : Int)] w fun e w' => e = .returned (.tuple #[]) ∧ Rdy B b (.slice (some ⟨g, 0, none⟩) L.length c) (swp L i j) w' ∧ Oth (RdS b (.slice (some ⟨g, 0, none⟩) L.length c)) w w' := by
  have hii : (i : Int) < (L.length : Int) := by omega
  have hji : (j : Int) < (L.length : Int) := by omega
  have cx := h.at hi
  have cy := h.at hj
  have f1 := h.fz i
  have f2 := h.fz j
  have HS : Hid (Rdy B b (.slice (some ⟨g, 0, none⟩) L.length c) (swp L i j) ((w.setCell ⟨g, i, none⟩ (.string (L.getD j default))).setCell ⟨g, j, none⟩ (.string (L.getD i default))).drew ∧ Oth (RdS b (.slice (some ⟨g, 0, none⟩) L.length c)) w ((w.setCell ⟨g, i, none⟩ (.string (L.getD j default))).setCell ⟨g, j, none⟩ (.string (L.getD i default))).drew) :=
    ⟨h.swap, ((Oth.set _ g i _ (.inr rfl)).trans (Oth.set _ g j _ (.inr rfl))).trans (Oth.drewN _ _ 1)⟩
  clear h hi hj
  by_cases hij : i = j
  · subst hij
    clear cy f2
    generalize L.getD i default = x at *
    go_enter Tryz.func141, Tryz.ntmps141
    go_wp2
    go_region
    all_goals
      go_wp2
      go_end0
      exact ⟨rfl, HS.out⟩
  · have hij2 : ¬ (i : Int) = (j : Int) := by omega
    have cz : (w.setCell ⟨g, i, none⟩ (.string (L.getD j default))).cell? ⟨g, j, none⟩ = some (.string (L.getD j default)) := by
      rw [World.cell?_setCell_other _ _ _ _ (fun e => hij (by injection e))]
      exact cy
    generalize L.getD i default = x at *
    generalize L.getD j default = y at *
    go_enter Tryz.func141, Tryz.ntmps141
    go_wp2
    go_region
    all_goals
      go_wp2
      go_end0
      exact ⟨rfl, HS.out⟩
end Go.Proofs.YtankaiopdbcndaaGreatDoor

/- Names that are ready: one comes, the last one goes. -/
namespace Go.Proofs.YtankaiopdbcndaaGreatDoor
open Go.RowKit Go.Shelf

theorem infoG {i : Option TypeInfo} {z : Value} {s b : Nat} (h : i.map (fun i => (i.zero, i.size, i.bytes)) = some (some z, s, b)) : ∃ i0, i = some i0 ∧ i0.zero = some z ∧ i0.size = s ∧ i0.bytes = b := by
  match i, h with
  | some i0, h =>
    simp at h
    exact ⟨i0, rfl, h.1, h.2.1, h.2.2⟩
theorem sStrG : (Tryz.prog.info? 9).map (fun i => (i.zero, i.size, i.bytes)) = some (some (.string ⟨#[]⟩), 1, 16) := by kernel_rfl
/-- Appending, shut: the walk is not to look into it. -/
def appG (ats : Array TypeId) (ty : TypeId) (args : Array Value) : Sem Value := Builtin.append_ ats ty args
theorem appG_eq (ats : Array TypeId) (ty : TypeId) (args : Array Value) : Builtin.append_ ats ty args = appG ats ty args := rfl
attribute [local go_sem ↓] appG_eq

theorem ta_str (x : ByteArray) (xT : TypeId) (W : World) : (Instr.typeAssert (.iface 9 (.string x)) xT 9 false).run Tryz.prog W = .ok (.string x) W := by
  simp [Instr.typeAssert, run_underlying Tryz.underlying9, go_sem, Result.andThen]
/-- The slice is another one, over the same row or over a new one. -/
theorem Rdy.box_set {B b : Nat} {v v2 : Value} {L L2 : List ByteArray} {w w2 : World} (h : Rdy B b v L w) (hb : w2.heap[b]? = w.heap[b]?) (hr : w2.ownsRow B 9 1 v2 L2.length (L2.map Value.string)) :
    Rdy B b v2 L2 (w2.setCell ⟨b, 0, none⟩ v2) := by
  have hbox : w2.heap[b]? = some (.cells #[v] 81 (0, 0)) := hb.trans h.box
  refine ⟨Go.Joins.block_setCell hbox _, ?_⟩
  have hne : v2.ownBlock ≠ some b := Lib.ownBlock_ne hr hbox (by decide)
  refine hr.kept (row := some b) ⟨rfl, rfl, rfl, by simp [World.setCell], fun k _ hk => Below.heap_setCell w2 _ _ k (fun e => hk (by rw [e]))⟩ ?_
  exact .inr hne

set_option maxHeartbeats 2000000 in
theorem RPop_any (B b g c : Nat) (L : List ByteArray) (w : World) (h : Rdy B b (.slice (some ⟨g, 0, none⟩) L.length c) L w) (h0 : 0 < L.length) (hl : L.length ≤ 1000000) :
    Calls Tryz.prog 142 #[.pointer (some ⟨b, 0, none⟩)] w fun e w' => e = .returned (.iface 9 (.string (L.getD (L.length - 1) default))) ∧ Rdy B b (.slice (some ⟨g, 0, none⟩) (L.length - 1) c) (L.take (L.length - 1)) w' ∧ Oth (RdS b (.slice (some ⟨g, 0, none⟩) L.length c)) w w' := by
  obtain ⟨g2, c2, e, _, _, hcap⟩ := h.form h0
  have ec : c2 = c := by injection e with _ _ e; exact e.symm
  subst ec
  have hc := h.cell
  have hx := h.at (k := L.length - 1) (by omega)
  have hf : w.frozen? ⟨b, 0, none⟩ = false := Lib.frozen_of_heap h.box 0
  obtain ⟨k, hk⟩ : ∃ k, k = L.length - 1 := ⟨_, rfl⟩
  have k1 : (L.length : Int) - 1 = (k : Int) := by omega
  have k2 : IntKind.i64.wrap (k : Int) = (k : Int) := by rw [IntKind.wrap_i64]; omega
  have k3 : (k : Int) < (L.length : Int) := by omega
  have k4 : (k : Int) ≤ (c2 : Int) := by omega
  have k5 : k ≤ c2 := by omega
  rw [← hk] at hx
  have hrow : w.ownsRow B 9 1 (.slice (some ⟨g, 0, none⟩) k c2) (L.take k).length ((L.take k).map Value.string) := by
    rcases h.row.2 with ⟨e, _⟩ | ⟨g', c', cur, e, hb, hcc, h1, h2, h3, h4⟩
    · cases e
    · injection e with e1 _ e2
      injection e1 with e1
      injection e1 with e1
      subst e1 e2
      have hlt : (L.take k).length = k := by rw [List.length_take]; omega
      refine ⟨by simp, .inr ⟨g, c2, cur, by rw [hlt], hb, hcc, by omega, h2, h3, ?_⟩⟩
      rw [hlt, Nat.mul_one, List.map_take, ← h4, List.take_take]
      congr 1
      omega
  have HR : Hid (Rdy B b (.slice (some ⟨g, 0, none⟩) k c2) (L.take k) (w.setCell ⟨b, 0, none⟩ (.slice (some ⟨g, 0, none⟩) k c2)) ∧ Oth (RdS b (.slice (some ⟨g, 0, none⟩) L.length c2)) w (w.setCell ⟨b, 0, none⟩ (.slice (some ⟨g, 0, none⟩) k c2))) := ⟨h.box_set rfl hrow, Oth.set w b 0 _ (.inl rfl)⟩
  rw [← hk]
  clear h hrow h0 hl hk hcap e
  generalize L.getD k default = x at *
  go_enter Tryz.func142, Tryz.ntmps142
  go_wp2
  go_ret
  exact ⟨rfl, HR.out⟩

set_option maxHeartbeats 2000000 in
theorem RPush_any (B b : Nat) (v : Value) (L : List ByteArray) (x : ByteArray) (w : World) (h : Rdy B b v L w) (hB : B ≤ w.heap.size) (hl : L.length ≤ 1000000) :
    Calls Tryz.prog 143 #[.pointer (some ⟨b, 0, none⟩), .iface 9 (.string x)] w fun e w' => e = .returned (.tuple #[]) ∧ ∃ g c, Rdy B b (.slice (some ⟨g, 0, none⟩) (L ++ [x]).length c) (L ++ [x]) w' ∧ (v.ownBlock = some g ∨ w.heap.size ≤ g) ∧ Oth (RdS b v) w w' := by
  obtain ⟨i0, hi, hz0, hz1, hz2⟩ := infoG sStrG
  obtain ⟨W, hW⟩ : ∃ W, W = (w.alloc (.cells #[.string x] 9)).drew := ⟨_, rfl⟩
  have hsz : W.heap.size = w.heap.size + 1 := by rw [hW]; exact World.size_alloc _ _
  have hbW : Below w.heap.size w W := by rw [hW]; exact ((Below.refl _ w).alloc (Nat.le_refl _) (.cells #[.string x] 9)).drew
  have hnew : W.heap[w.heap.size]? = some (.cells #[.string x] 9 (0, 0)) := by rw [hW]; exact heap_alloc_new w _
  have hblt : b < w.heap.size := (Array.getElem?_eq_some_iff.1 h.box).1
  have hrW : W.ownsRow B 9 1 v L.length (L.map Value.string) := by rw [hW]; exact (h.row.alloc (.cells #[.string x] 9) : (w.alloc (.cells #[.string x] 9)).ownsRow B 9 1 v L.length (L.map Value.string))
  obtain ⟨g, cap, w2, a1, a2, a3, a4, _⟩ := run_append_lies (P := Tryz.prog) W 81 81 B 9 i0 (.string ⟨#[]⟩) 1 16 Tryz.underlying81 hi hz0 hz1 hz2 rfl (by decide) v L.length (L.map Value.string) hrW ⟨w.heap.size, 0, none⟩ 1 1 [.string x] rfl (fun j u hu => by rw [addr_add, Nat.zero_add, Lib.cell_of_heap hnew]; simpa using hu) (fun u hu => by simp at hu; subst hu; rfl) (by decide) (by unfold maxLen; omega) (by omega) (by omega) W.heap.size rfl
  have el : L.length + 1 = (L ++ [x]).length := by simp
  have em : L.map Value.string ++ [.string x] = (L ++ [x]).map Value.string := by simp
  rw [el, em] at a2
  have hap : (appG #[81, 81] 81 #[v, .slice (some ⟨w.heap.size, 0, none⟩) 1 1]).run Tryz.prog (w.alloc (.cells #[.string x] 9)).drew = .ok (.slice (some ⟨g, 0, none⟩) (L ++ [x]).length cap) w2 := by rw [← hW, ← el]; exact a1
  have hnb : v.ownBlock ≠ some b := h.ne
  have hb2 : w2.heap[b]? = w.heap[b]? := (a3.block b (by omega) (fun e => hnb e.symm)).trans (hbW.block b hblt)
  have HF : Hid (Rdy B b (.slice (some ⟨g, 0, none⟩) (L ++ [x]).length cap) (L ++ [x]) (w2.setCell ⟨b, 0, none⟩ (.slice (some ⟨g, 0, none⟩) (L ++ [x]).length cap)) ∧ (v.ownBlock = some g ∨ w.heap.size ≤ g) ∧ Oth (RdS b v) w (w2.setCell ⟨b, 0, none⟩ (.slice (some ⟨g, 0, none⟩) (L ++ [x]).length cap))) := by
    refine ⟨h.box_set hb2 a2, ?_, ?_⟩
    · rcases a4 with a4 | a4
      · exact .inl a4
      · exact .inr (by omega)
    · have o1 : Oth (RdS b v) w w2 := ⟨a3.os.trans hbW.os, a3.tape.trans hbW.tape, a3.output.trans hbW.output, by have := a3.size; omega, fun k hk hn => (a3.block k (by omega) (fun e => hn (.inr e.symm))).trans (hbW.block k hk)⟩
      exact o1.trans (Oth.set w2 b 0 _ (.inl rfl))
  have hc := h.cell
  have hc2 : w2.cell? ⟨b, 0, none⟩ = some v := (World.cell?_of_block (w := w) hb2).trans hc
  have hf2 : w2.frozen? ⟨b, 0, none⟩ = false := Lib.frozen_of_heap (hb2.trans h.box) 0
  have hcA : (w.alloc (.cells #[.string x] 9)).cell? ⟨b, 0, none⟩ = some v := (World.cell?_of_block (w := w) (((Below.refl _ w).alloc (Nat.le_refl _) (.cells #[.string x] 9)).block b hblt)).trans hc
  have hta := fun xT => ta_str x xT w.drew
  clear h hrW a1 a2 a3 a4 hb2 hbW hnew hsz hB hl hW el em hblt hnb hz0 hz1 hz2 hi
  generalize (L ++ [x]).length = n1 at *
  go_enter Tryz.func143, Tryz.ntmps143
  go_wp2
  go_region
  all_goals
    go_wp2
    go_end0
    exact ⟨rfl, _, _, HF.out⟩
end Go.Proofs.YtankaiopdbcndaaGreatDoor

/- The library's heap at names: up and down. -/
namespace Go.Proofs.YtankaiopdbcndaaGreatDoor
open Go.RowKit Go.Shelf

set_option maxHeartbeats 4000000 in
set_option maxRecDepth 100000 in
theorem up_any (B b g c j : Nat) (L : List ByteArray) (w : World) (h : Rdy B b (.slice (some ⟨g, 0, none⟩) L.length c) L w) (hj : j < L.length) (hl : L.length ≤ 1000000) :
    Calls Tryz.prog 75 #[rdy b, .int .i64 (j : Int)] w fun e w' => e = .returned (.tuple #[]) ∧ Rdy B b (.slice (some ⟨g, 0, none⟩) L.length c) (upH nlt j L j) w' ∧ Oth (RdS b (.slice (some ⟨g, 0, none⟩) L.length c)) w w' := by
  have H0 : Hid (Rdy B b (.slice (some ⟨g, 0, none⟩) L.length c) L w) := h
  obtain ⟨n, hn⟩ : ∃ n, n = L.length := ⟨_, rfl⟩
  have HN : Hid (n = L.length) := hn
  have hn1 : (n : Int) ≤ 1000000 := by omega
  rw [← hn] at hj H0 ⊢
  clear h hl hn
  go_enter Tryz.func75, Tryz.ntmps75
  go_wp2
  go_loopw [1] (fun v wr => ∃ (k f : Nat) (X : List ByteArray), v = .int .i64 (k : Int) ∧ Hid (k < n ∧ X.length = n ∧ k ≤ f ∧ upH nlt f X k = upH nlt j L j ∧ Rdy B b (.slice (some ⟨g, 0, none⟩) n c) X wr ∧ Oth (RdS b (.slice (some ⟨g, 0, none⟩) n c)) w wr)) (fun v _ => (RowKit.intOf v).toNat)
  case atStart => exact ⟨j, j, L, rfl, hj, HN.out.symm, Nat.le_refl _, rfl, H0.out, Oth.refl _ _⟩
  case round =>
    obtain ⟨k, f, X, rfl, HI⟩ := hrel
    obtain ⟨hk, hX, hkf, hup, hR, hO⟩ := HI.out
    obtain ⟨i, hi⟩ : ∃ i, i = (k - 1) / 2 := ⟨_, rfl⟩
    have hcl := hR.cell
    have hL1 := m_less hcl
    have hS1 := fun (m : Nat) => m_swap (w := wr.drewN m) hcl
    have e1 : ((k : Int) - 1).tdiv 2 = (i : Int) := by
      by_cases h0 : k = 0
      · subst h0; subst hi; rfl
      · rw [show (k : Int) - 1 = ((k - 1 : Nat) : Int) by omega, Int.tdiv_eq_ediv_of_nonneg (by omega)]; omega
    have e2 : IntKind.i64.wrap ((k : Int) - 1) = (k : Int) - 1 := by rw [IntKind.wrap_i64]; omega
    have e3 : IntKind.i64.wrap (i : Int) = (i : Int) := by rw [IntKind.wrap_i64]; omega
    have HI2 : Hid (i = (k - 1) / 2) := hi
    clear hcl hi
    have hX2 : Hid (Rdy B b (.slice (some ⟨g, 0, none⟩) X.length c) X wr) := hX.symm ▸ hR
    by_cases h0 : i = k
    · subst h0
      have HE : Hid (upH nlt f X i = X) := by
        show _ = _
        cases f with
        | zero => rfl
        | succ f => unfold upH; rw [if_pos (.inl HI2.out.symm)]
      have HF : Hid (Rdy B b (.slice (some ⟨g, 0, none⟩) n c) (upH nlt j L j) wr ∧ Oth (RdS b (.slice (some ⟨g, 0, none⟩) n c)) w wr) := ⟨by rw [← hup, HE.out]; exact hR, hO⟩
      clear hL1 hS1 hX2 HE hup hR hO hX hkf hk HI H0 HI2
      go_wp2
      go_end0
      exact ⟨rfl, HF.out⟩
    · have e4 : ¬ (i : Int) = (k : Int) := by omega
      have hi2 := HI2.out
      have HLs : Hid (Calls Tryz.prog 140 #[.slice (some ⟨g, 0, none⟩) n c, .int .i64 (k : Int), .int .i64 (i : Int)] wr fun e w' => e = .returned (.bool (nlt (X.getD k default) (X.getD i default))) ∧ ∃ m, w' = wr.drewN m) := Less_any g n c k i _ _ wr hk (by omega) (hX2.out.at (by omega)) (hX2.out.at (by omega))
      cases hlt : nlt (X.getD k default) (X.getD i default) with
      | false =>
        have HE : Hid (upH nlt f X k = X) := by
          show _ = _
          cases f with
          | zero => rfl
          | succ f => unfold upH; rw [if_pos (.inr (by rw [← hi2]; exact hlt))]
        have HF : Hid (∀ m, Rdy B b (.slice (some ⟨g, 0, none⟩) n c) (upH nlt j L j) (wr.drewN m) ∧ Oth (RdS b (.slice (some ⟨g, 0, none⟩) n c)) w (wr.drewN m)) := fun m => ⟨by rw [← hup, HE.out]; exact hR.drewN m, hO.trans (Oth.drewN _ _ m)⟩
        rw [hlt] at HLs
        clear hS1 hX2 HE hup hR hO hX hkf hk HI H0 h0 hi2 hlt
        go_wp2_with (first | (go_at_call 140; refine HLs.out.mono ?_; rintro e w1 ⟨rfl, m, rfl⟩) | go_in)
        go_end0
        exact ⟨rfl, HF.out _⟩
      | true =>
        have hf1 : 0 < f := by omega
        have HE : Hid (upH nlt f X k = upH nlt (f - 1) (swp X i k) i) := by
          show _ = _
          obtain ⟨f2, rfl⟩ : ∃ f2, f = f2 + 1 := ⟨f - 1, by omega⟩
          rw [show f2 + 1 - 1 = f2 by omega]
          conv => lhs; unfold upH
          rw [if_neg (by rw [← hi2, hlt]; intro h; rcases h with h | h; exact h0 h; cases h), ← hi2]
        have HSw : Hid (∀ m, Calls Tryz.prog 141 #[.slice (some ⟨g, 0, none⟩) n c, .int .i64 (i : Int), .int .i64 (k : Int)] (wr.drewN m) fun e w' => e = .returned (.tuple #[]) ∧ Hid (Rdy B b (.slice (some ⟨g, 0, none⟩) n c) (swp X i k) w' ∧ Oth (RdS b (.slice (some ⟨g, 0, none⟩) n c)) w w')) := fun m => by
          have := Swap_any B b g c i k X (wr.drewN m) (hX2.out.drewN m) (by omega) (by omega)
          rw [hX] at this
          exact this.mono fun e w' ⟨q1, q2, q3⟩ => ⟨q1, q2, (hO.trans (Oth.drewN _ _ m)).trans q3⟩
        have HK : Hid (i < n ∧ (swp X i k).length = n ∧ i ≤ f - 1 ∧ upH nlt (f - 1) (swp X i k) i = upH nlt j L j ∧ i < k) := ⟨by omega, by rw [swp_len]; exact hX, by omega, by rw [← HE.out]; exact hup, by omega⟩
        rw [hlt] at HLs
        clear hX2 HE hup hR hO hX hkf hk HI H0 h0 hi2 hlt hf1
        go_wp2_with (first
          | (go_at_call 140; refine HLs.out.mono ?_; rintro e w1 ⟨rfl, m, rfl⟩)
          | (go_at_call 141; refine (HSw.out _).mono ?_; rintro e w2 ⟨rfl, H2⟩)
          | go_in)
        obtain ⟨k1, k2, k3, k4, k5⟩ := HK.out
        refine ⟨⟨i, f - 1, swp X i k, rfl, k1, k2, k3, k4, H2.out.1, H2.out.2⟩, ?_⟩
        simp [RowKit.intOf]
        omega

set_option maxHeartbeats 4000000 in
set_option maxRecDepth 100000 in
theorem down_any (B b g c n : Nat) (L : List ByteArray) (w : World) (h : Rdy B b (.slice (some ⟨g, 0, none⟩) L.length c) L w) (hn : n ≤ L.length) (hl : L.length ≤ 1000000) :
    Calls Tryz.prog 76 #[rdy b, .int .i64 0, .int .i64 (n : Int)] w fun e w' => (∃ r : Bool, e = .returned (.bool r)) ∧ Rdy B b (.slice (some ⟨g, 0, none⟩) L.length c) (dnH nlt L.length L n 0) w' ∧ Oth (RdS b (.slice (some ⟨g, 0, none⟩) L.length c)) w w' := by
  have H0 : Hid (Rdy B b (.slice (some ⟨g, 0, none⟩) L.length c) L w) := h
  obtain ⟨N, hN⟩ : ∃ N, N = L.length := ⟨_, rfl⟩
  have HN : Hid (N = L.length) := hN
  have hN1 : (N : Int) ≤ 1000000 := by omega
  have hn1 : (n : Int) ≤ 1000000 := by omega
  have HNn : Hid (n ≤ N) := by rw [hN]; exact hn
  rw [← hN] at H0 ⊢
  clear h hl hN hn
  go_enter Tryz.func76, Tryz.ntmps76
  go_wp2
  go_loopw [7] (fun v wr => ∃ (k f : Nat) (X : List ByteArray), v = .int .i64 (k : Int) ∧ Hid (k ≤ N ∧ X.length = N ∧ N ≤ k + f ∧ dnH nlt f X n k = dnH nlt N L n 0 ∧ Rdy B b (.slice (some ⟨g, 0, none⟩) N c) X wr ∧ Oth (RdS b (.slice (some ⟨g, 0, none⟩) N c)) w wr)) (fun v _ => N - (RowKit.intOf v).toNat)
  case atStart => exact ⟨0, N, L, rfl, Nat.zero_le _, HN.out.symm, by omega, rfl, H0.out, Oth.refl _ _⟩
  case round =>
    obtain ⟨k, f, X, rfl, HI⟩ := hrel
    obtain ⟨hk, hX, hkf, hup, hR, hO⟩ := HI.out
    have hX2 : Hid (Rdy B b (.slice (some ⟨g, 0, none⟩) X.length c) X wr) := hX.symm ▸ hR
    have hcl := hR.cell
    have hL1 := fun (m : Nat) => m_less (w := wr.drewN m) hcl
    have hS1 := fun (m : Nat) => m_swap (w := wr.drewN m) hcl
    have hL0 := m_less hcl
    obtain ⟨j1, hj1⟩ : ∃ j1, j1 = 2 * k + 1 := ⟨_, rfl⟩
    obtain ⟨j2, hj2⟩ : ∃ j2, j2 = 2 * k + 2 := ⟨_, rfl⟩
    have e0 : (2 : Int) * (k : Int) = ((2 * k : Nat) : Int) := by omega
    have e1 : ((2 * k : Nat) : Int) + 1 = (j1 : Int) := by omega
    have e2 : (j1 : Int) + 1 = (j2 : Int) := by omega
    have w0 : IntKind.i64.wrap ((2 * k : Nat) : Int) = ((2 * k : Nat) : Int) := by rw [IntKind.wrap_i64]; omega
    have w1 : IntKind.i64.wrap (j1 : Int) = (j1 : Int) := by rw [IntKind.wrap_i64]; omega
    have w2 : IntKind.i64.wrap (j2 : Int) = (j2 : Int) := by rw [IntKind.wrap_i64]; omega
    obtain ⟨d, hd⟩ : ∃ d, d = 2 * k := ⟨_, rfl⟩
    rw [← hd] at e0 e1 w0
    have HJ : Hid (j1 = 2 * k + 1 ∧ j2 = 2 * k + 2) := ⟨hj1, hj2⟩
    clear hcl hd
    by_cases h1 : n ≤ j1
    · have c1 : (n : Int) ≤ (j1 : Int) := by omega
      have HE : Hid (dnH nlt f X n k = X) := by
        show _ = _
        cases f with
        | zero => rfl
        | succ f => unfold dnH; rw [if_pos (.inl (by omega))]
      have HF : Hid (Rdy B b (.slice (some ⟨g, 0, none⟩) N c) (dnH nlt N L n 0) wr ∧ Oth (RdS b (.slice (some ⟨g, 0, none⟩) N c)) w wr) := ⟨by rw [← hup, HE.out]; exact hR, hO⟩
      clear hL1 hS1 hL0 hX2 HE hup hR hO hX hkf hk HI H0 h1 hj1 hj2 HJ
      go_wp2
      go_ret
      exact ⟨⟨_, rfl⟩, HF.out⟩
    · have c1 : ¬ (n : Int) ≤ (j1 : Int) := by omega
      have c2 : ¬ (j1 : Int) < 0 := by omega
      have hjN : j1 < N := by have := HNn.out; omega
      by_cases h2 : j2 < n
      · have c3 : (j2 : Int) < (n : Int) := by omega
        have hj2N : j2 < N := by have := HNn.out; omega
        have HA : Hid (Calls Tryz.prog 140 #[.slice (some ⟨g, 0, none⟩) N c, .int .i64 (j2 : Int), .int .i64 (j1 : Int)] wr fun e w' => e = .returned (.bool (nlt (X.getD j2 default) (X.getD j1 default))) ∧ ∃ m2, w' = wr.drewN m2) := Less_any g N c j2 j1 _ _ wr (by have := HNn.out; omega) (by have := HNn.out; omega) (hX2.out.at (by have := HNn.out; omega)) (hX2.out.at (by have := HNn.out; omega))
        cases hr1 : nlt (X.getD j2 default) (X.getD j1 default) with
        | true =>
          have HKid : Hid (kidH nlt X n k = j2) := by
            show _ = _
            unfold kidH
            rw [← hj1, ← hj2, if_pos ⟨h2, hr1⟩]
          rw [hr1] at HA
          have HC : Hid (∀ m : Nat, Calls Tryz.prog 140 #[.slice (some ⟨g, 0, none⟩) N c, .int .i64 (j2 : Int), .int .i64 (k : Int)] (wr.drewN m) fun e w' => e = .returned (.bool (nlt (X.getD j2 default) (X.getD k default))) ∧ ∃ m2, w' = wr.drewN m2) := fun m => (Less_any g N c j2 k _ _ (wr.drewN m) (by omega) (by omega) ((hX2.out.drewN m).at (by omega)) ((hX2.out.drewN m).at (by omega))).mono fun e w' ⟨q1, m2, q2⟩ => ⟨q1, m + m2, by rw [q2, World.drewN_drewN]⟩
          cases hr2 : nlt (X.getD j2 default) (X.getD k default) with
          | false =>
            rw [hr2] at HC
            have HE : Hid (dnH nlt f X n k = X) := by
              show _ = _
              cases f with
              | zero => rfl
              | succ f => unfold dnH; rw [if_pos (.inr (by rw [HKid.out]; exact hr2))]
            have HF : Hid (∀ m, Rdy B b (.slice (some ⟨g, 0, none⟩) N c) (dnH nlt N L n 0) (wr.drewN m) ∧ Oth (RdS b (.slice (some ⟨g, 0, none⟩) N c)) w (wr.drewN m)) := fun m => ⟨by rw [← hup, HE.out]; exact hR.drewN m, hO.trans (Oth.drewN _ _ m)⟩
            clear hS1 hX2 HE hup hR hO hX hkf hk HI H0 h1 hj1 hj2 HJ HKid hr2
            go_wp2_with (first
              | (go_at_call 140; with_reducible refine HA.out.mono ?_; rintro e w1 ⟨rfl, m, rfl⟩)
              | (go_at_call 140; with_reducible refine (HC.out _).mono ?_; rintro e w2 ⟨rfl, m2, rfl⟩)
              | go_in)
            go_ret
            exact ⟨⟨_, rfl⟩, HF.out _⟩
          | true =>
            rw [hr2] at HC
            have HE : Hid (dnH nlt f X n k = dnH nlt (f - 1) (swp X k j2) n j2) := by
              show _ = _
              obtain ⟨f2, rfl⟩ : ∃ f2, f = f2 + 1 := ⟨f - 1, by have := HNn.out; omega⟩
              rw [show f2 + 1 - 1 = f2 by omega]
              conv => lhs; unfold dnH
              rw [HKid.out, if_neg (by rw [hr2]; intro h; rcases h with h | h; omega; cases h)]
            have HSw : Hid (∀ m, Calls Tryz.prog 141 #[.slice (some ⟨g, 0, none⟩) N c, .int .i64 (k : Int), .int .i64 (j2 : Int)] (wr.drewN m) fun e w' => e = .returned (.tuple #[]) ∧ Hid (Rdy B b (.slice (some ⟨g, 0, none⟩) N c) (swp X k j2) w' ∧ Oth (RdS b (.slice (some ⟨g, 0, none⟩) N c)) w w')) := fun m => by
              have := Swap_any B b g c k j2 X (wr.drewN m) (hX2.out.drewN m) (by have := HNn.out; omega) (by have := HNn.out; omega)
              rw [hX] at this
              exact this.mono fun e w' ⟨q1, q2, q3⟩ => ⟨q1, q2, (hO.trans (Oth.drewN _ _ m)).trans q3⟩
            have HK : Hid (j2 ≤ N ∧ (swp X k j2).length = N ∧ N ≤ j2 + (f - 1) ∧ dnH nlt (f - 1) (swp X k j2) n j2 = dnH nlt N L n 0 ∧ k < j2) := ⟨by have := HNn.out; omega, by rw [swp_len]; exact hX, by have := HNn.out; omega, by rw [← HE.out]; exact hup, by omega⟩
            clear hX2 HE hup hR hO hX hkf hk HI H0 h1 hj1 hj2 HJ HKid hr2
            go_wp2_with (first
              | (go_at_call 140; with_reducible refine HA.out.mono ?_; rintro e w1 ⟨rfl, m, rfl⟩)
              | (go_at_call 140; with_reducible refine (HC.out _).mono ?_; rintro e w2 ⟨rfl, m2, rfl⟩)
              | (go_at_call 141; refine (HSw.out _).mono ?_; rintro e w3 ⟨rfl, H3⟩)
              | go_in)
            obtain ⟨k1, k2, k3, k4, k5⟩ := HK.out
            refine ⟨⟨j2, f - 1, swp X k j2, rfl, k1, k2, k3, k4, H3.out.1, H3.out.2⟩, ?_⟩
            simp [RowKit.intOf]
            omega
        | false =>
          have HKid : Hid (kidH nlt X n k = j1) := by
            show _ = _
            unfold kidH
            rw [← hj1, ← hj2, if_neg (fun h => by rw [hr1] at h; cases h.2)]
          rw [hr1] at HA
          have HC : Hid (∀ m : Nat, Calls Tryz.prog 140 #[.slice (some ⟨g, 0, none⟩) N c, .int .i64 (j1 : Int), .int .i64 (k : Int)] (wr.drewN m) fun e w' => e = .returned (.bool (nlt (X.getD j1 default) (X.getD k default))) ∧ ∃ m2, w' = wr.drewN m2) := fun m => (Less_any g N c j1 k _ _ (wr.drewN m) (by omega) (by omega) ((hX2.out.drewN m).at (by omega)) ((hX2.out.drewN m).at (by omega))).mono fun e w' ⟨q1, m2, q2⟩ => ⟨q1, m + m2, by rw [q2, World.drewN_drewN]⟩
          cases hr2 : nlt (X.getD j1 default) (X.getD k default) with
          | false =>
            rw [hr2] at HC
            have HE : Hid (dnH nlt f X n k = X) := by
              show _ = _
              cases f with
              | zero => rfl
              | succ f => unfold dnH; rw [if_pos (.inr (by rw [HKid.out]; exact hr2))]
            have HF : Hid (∀ m, Rdy B b (.slice (some ⟨g, 0, none⟩) N c) (dnH nlt N L n 0) (wr.drewN m) ∧ Oth (RdS b (.slice (some ⟨g, 0, none⟩) N c)) w (wr.drewN m)) := fun m => ⟨by rw [← hup, HE.out]; exact hR.drewN m, hO.trans (Oth.drewN _ _ m)⟩
            clear hS1 hX2 HE hup hR hO hX hkf hk HI H0 h1 hj1 hj2 HJ HKid hr2
            go_wp2_with (first
              | (go_at_call 140; with_reducible refine HA.out.mono ?_; rintro e w1 ⟨rfl, m, rfl⟩)
              | (go_at_call 140; with_reducible refine (HC.out _).mono ?_; rintro e w2 ⟨rfl, m2, rfl⟩)
              | go_in)
            go_ret
            exact ⟨⟨_, rfl⟩, HF.out _⟩
          | true =>
            rw [hr2] at HC
            have HE : Hid (dnH nlt f X n k = dnH nlt (f - 1) (swp X k j1) n j1) := by
              show _ = _
              obtain ⟨f2, rfl⟩ : ∃ f2, f = f2 + 1 := ⟨f - 1, by have := HNn.out; omega⟩
              rw [show f2 + 1 - 1 = f2 by omega]
              conv => lhs; unfold dnH
              rw [HKid.out, if_neg (by rw [hr2]; intro h; rcases h with h | h; omega; cases h)]
            have HSw : Hid (∀ m, Calls Tryz.prog 141 #[.slice (some ⟨g, 0, none⟩) N c, .int .i64 (k : Int), .int .i64 (j1 : Int)] (wr.drewN m) fun e w' => e = .returned (.tuple #[]) ∧ Hid (Rdy B b (.slice (some ⟨g, 0, none⟩) N c) (swp X k j1) w' ∧ Oth (RdS b (.slice (some ⟨g, 0, none⟩) N c)) w w')) := fun m => by
              have := Swap_any B b g c k j1 X (wr.drewN m) (hX2.out.drewN m) (by have := HNn.out; omega) (by have := HNn.out; omega)
              rw [hX] at this
              exact this.mono fun e w' ⟨q1, q2, q3⟩ => ⟨q1, q2, (hO.trans (Oth.drewN _ _ m)).trans q3⟩
            have HK : Hid (j1 ≤ N ∧ (swp X k j1).length = N ∧ N ≤ j1 + (f - 1) ∧ dnH nlt (f - 1) (swp X k j1) n j1 = dnH nlt N L n 0 ∧ k < j1) := ⟨by have := HNn.out; omega, by rw [swp_len]; exact hX, by have := HNn.out; omega, by rw [← HE.out]; exact hup, by omega⟩
            clear hX2 HE hup hR hO hX hkf hk HI H0 h1 hj1 hj2 HJ HKid hr2
            go_wp2_with (first
              | (go_at_call 140; with_reducible refine HA.out.mono ?_; rintro e w1 ⟨rfl, m, rfl⟩)
              | (go_at_call 140; with_reducible refine (HC.out _).mono ?_; rintro e w2 ⟨rfl, m2, rfl⟩)
              | (go_at_call 141; refine (HSw.out _).mono ?_; rintro e w3 ⟨rfl, H3⟩)
              | go_in)
            obtain ⟨k1, k2, k3, k4, k5⟩ := HK.out
            refine ⟨⟨j1, f - 1, swp X k j1, rfl, k1, k2, k3, k4, H3.out.1, H3.out.2⟩, ?_⟩
            simp [RowKit.intOf]
            omega
      · have c3 : ¬ (j2 : Int) < (n : Int) := by omega
        have HKid : Hid (kidH nlt X n k = j1) := by
          show _ = _
          unfold kidH
          rw [← hj1, ← hj2, if_neg (fun h => h2 h.1)]
        have HC : Hid (Calls Tryz.prog 140 #[.slice (some ⟨g, 0, none⟩) N c, .int .i64 (j1 : Int), .int .i64 (k : Int)] wr fun e w' => e = .returned (.bool (nlt (X.getD j1 default) (X.getD k default))) ∧ ∃ m2, w' = wr.drewN m2) := Less_any g N c j1 k _ _ wr (by omega) (by omega) (hX2.out.at (by omega)) (hX2.out.at (by omega))
        cases hr2 : nlt (X.getD j1 default) (X.getD k default) with
        | false =>
          rw [hr2] at HC
          have HE : Hid (dnH nlt f X n k = X) := by
            show _ = _
            cases f with
            | zero => rfl
            | succ f => unfold dnH; rw [if_pos (.inr (by rw [HKid.out]; exact hr2))]
          have HF : Hid (∀ m, Rdy B b (.slice (some ⟨g, 0, none⟩) N c) (dnH nlt N L n 0) (wr.drewN m) ∧ Oth (RdS b (.slice (some ⟨g, 0, none⟩) N c)) w (wr.drewN m)) := fun m => ⟨by rw [← hup, HE.out]; exact hR.drewN m, hO.trans (Oth.drewN _ _ m)⟩
          clear hS1 hX2 HE hup hR hO hX hkf hk HI H0 h1 hj1 hj2 HJ HKid hr2
          go_wp2_with (first
            | (go_at_call 140; with_reducible refine HC.out.mono ?_; rintro e w2 ⟨rfl, m2, rfl⟩)
            | go_in)
          go_ret
          exact ⟨⟨_, rfl⟩, HF.out _⟩
        | true =>
          rw [hr2] at HC
          have HE : Hid (dnH nlt f X n k = dnH nlt (f - 1) (swp X k j1) n j1) := by
            show _ = _
            obtain ⟨f2, rfl⟩ : ∃ f2, f = f2 + 1 := ⟨f - 1, by have := HNn.out; omega⟩
            rw [show f2 + 1 - 1 = f2 by omega]
            conv => lhs; unfold dnH
            rw [HKid.out, if_neg (by rw [hr2]; intro h; rcases h with h | h; omega; cases h)]
          have HSw : Hid (∀ m, Calls Tryz.prog 141 #[.slice (some ⟨g, 0, none⟩) N c, .int .i64 (k : Int), .int .i64 (j1 : Int)] (wr.drewN m) fun e w' => e = .returned (.tuple #[]) ∧ Hid (Rdy B b (.slice (some ⟨g, 0, none⟩) N c) (swp X k j1) w' ∧ Oth (RdS b (.slice (some ⟨g, 0, none⟩) N c)) w w')) := fun m => by
            have := Swap_any B b g c k j1 X (wr.drewN m) (hX2.out.drewN m) (by have := HNn.out; omega) (by have := HNn.out; omega)
            rw [hX] at this
            exact this.mono fun e w' ⟨q1, q2, q3⟩ => ⟨q1, q2, (hO.trans (Oth.drewN _ _ m)).trans q3⟩
          have HK : Hid (j1 ≤ N ∧ (swp X k j1).length = N ∧ N ≤ j1 + (f - 1) ∧ dnH nlt (f - 1) (swp X k j1) n j1 = dnH nlt N L n 0 ∧ k < j1) := ⟨by have := HNn.out; omega, by rw [swp_len]; exact hX, by have := HNn.out; omega, by rw [← HE.out]; exact hup, by omega⟩
          clear hX2 HE hup hR hO hX hkf hk HI H0 h1 hj1 hj2 HJ HKid hr2
          go_wp2_with (first
            | (go_at_call 140; with_reducible refine HC.out.mono ?_; rintro e w2 ⟨rfl, m2, rfl⟩)
            | (go_at_call 141; refine (HSw.out _).mono ?_; rintro e w3 ⟨rfl, H3⟩)
            | go_in)
          obtain ⟨k1, k2, k3, k4, k5⟩ := HK.out
          refine ⟨⟨j1, f - 1, swp X k j1, rfl, k1, k2, k3, k4, H3.out.1, H3.out.2⟩, ?_⟩
          simp [RowKit.intOf]
          omega
end Go.Proofs.YtankaiopdbcndaaGreatDoor

/- The library's heap at names: one comes, the least goes. -/
namespace Go.Proofs.YtankaiopdbcndaaGreatDoor
open Go.RowKit Go.Shelf

/-- A heap of names in memory: these names, in whatever order. -/
structure HpAt (B b : Nat) (v : Value) (L : List ByteArray) (w : World) : Prop where
  rd : Rdy B b v L w
  hp : Hp nlt L L.length
/-- The row is the one that it was, or a new one. -/
def NewB (v v2 : Value) (w : World) : Prop := ∀ g, v2.ownBlock = some g → v.ownBlock = some g ∨ w.heap.size ≤ g
theorem NewB.refl (v : Value) (w : World) : NewB v v w := fun _ h => .inl h
theorem oth_two {b : Nat} {v v2 : Value} {w w1 w2 : World} (h1 : Oth (RdS b v) w w1) (h2 : Oth (RdS b v2) w1 w2) (hn : NewB v v2 w) : Oth (RdS b v) w w2 :=
  ⟨h2.os.trans h1.os, h2.tape.trans h1.tape, h2.output.trans h1.output, Nat.le_trans h1.size h2.size, fun g hg hS => (h2.block g (Nat.lt_of_lt_of_le hg h1.size) (fun h => by
    rcases h with h | h
    · exact hS (.inl h)
    · rcases hn g h with h | h
      · exact hS (.inr h)
      · omega)).trans (h1.block g hg hS)⟩

set_option maxHeartbeats 4000000 in
set_option maxRecDepth 100000 in
theorem HPush_any (B b : Nat) (v : Value) (L : List ByteArray) (x : ByteArray) (w : World) (h : HpAt B b v L w) (hB : B ≤ w.heap.size) (hl : L.length ≤ 100000) :
    Calls Tryz.prog 52 #[rdy b, .iface 9 (.string x)] w fun e w' => e = .returned (.tuple #[]) ∧ ∃ v2 L2, HpAt B b v2 L2 w' ∧ L2.Perm (x :: L) ∧ NewB v v2 w ∧ Oth (RdS b v) w w' := by
  have HP : Hid (Calls Tryz.prog 143 #[.pointer (some ⟨b, 0, none⟩), .iface 9 (.string x)] w fun e w' => e = .returned (.tuple #[]) ∧ ∃ g c, w'.cell? ⟨b, 0, none⟩ = some (.slice (some ⟨g, 0, none⟩) (L.length + 1) c) ∧ Hid (Rdy B b (.slice (some ⟨g, 0, none⟩) (L ++ [x]).length c) (L ++ [x]) w' ∧ (v.ownBlock = some g ∨ w.heap.size ≤ g) ∧ Oth (RdS b v) w w')) := (RPush_any B b v L x w h.rd hB (by omega)).mono fun e w' ⟨q1, g, c, q2, q3, q4⟩ => ⟨q1, g, c, by rw [q2.cell]; simp, q2, q3, q4⟩
  have HU : Hid (∀ (W : World) (g c : Nat), Hid (Rdy B b (.slice (some ⟨g, 0, none⟩) (L ++ [x]).length c) (L ++ [x]) W ∧ (v.ownBlock = some g ∨ w.heap.size ≤ g) ∧ Oth (RdS b v) w W) → Calls Tryz.prog 75 #[rdy b, .int .i64 (L.length : Int)] W fun e w' => e = .returned (.tuple #[]) ∧ ∃ v2 L2, HpAt B b v2 L2 w' ∧ L2.Perm (x :: L) ∧ NewB v v2 w ∧ Oth (RdS b v) w w') := fun W g c hW => by
    obtain ⟨q1, q2, q3⟩ := hW.out
    refine (up_any B b g c L.length (L ++ [x]) W q1 (by simp) (by simp; omega)).mono fun e w' ⟨r1, r2, r3⟩ => ⟨r1, ?_⟩
    have hlen : (upH nlt L.length (L ++ [x]) L.length).length = (L ++ [x]).length := upH_len nlt _ _ _
    have hnb : NewB v (.slice (some ⟨g, 0, none⟩) (L ++ [x]).length c) w := fun g2 hg2 => by
      have : g = g2 := by simpa [Value.ownBlock] using hg2
      subst this
      exact q2
    refine ⟨_, _, ⟨r2, ?_⟩, ?_, hnb, oth_two q3 r3 hnb⟩
    · rw [hlen, show (L ++ [x]).length = L.length + 1 by simp]
      exact push_hp nlt_wk L x h.hp
    · exact (upH_perm nlt _ _ _ (by simp)).trans (List.perm_append_comm)
  have hM := fun W => m_push (v := .pointer (some ⟨b, 0, none⟩)) (w := W)
  have hL1 := fun (W : World) (v : Value) (h : W.cell? ⟨b, 0, none⟩ = some v) => m_len h
  have k1 : ((L.length + 1 : Nat) : Int) - 1 = (L.length : Int) := by omega
  have k2 : IntKind.i64.wrap (L.length : Int) = (L.length : Int) := by rw [IntKind.wrap_i64]; omega
  obtain ⟨n1, hn1⟩ : ∃ n1, n1 = L.length + 1 := ⟨_, rfl⟩
  rw [← hn1] at k1 HP
  clear h hB hl hn1
  go_enter Tryz.func52, Tryz.ntmps52
  go_wp2_with (first
    | (go_at_call 143; refine HP.out.mono ?_; rintro e w1 ⟨rfl, g, c, hc1, H1⟩; have hl1 := hL1 _ _ hc1)
    | (go_at_call 75; refine (HU.out _ _ _ H1).mono ?_; rintro e w2 ⟨rfl, H2⟩)
    | go_in)
  go_end0
  exact ⟨rfl, H2⟩

theorem pop_last (L : List ByteArray) (h0 : 0 < L.length) : (dnH nlt L.length (swp L 0 (L.length - 1)) (L.length - 1) 0).getD (L.length - 1) default = L.getD 0 default := by
  have hs : (swp L 0 (L.length - 1)).length = L.length := swp_len _ _ _
  rw [dnH_keep nlt _ _ _ _ _ (by omega) (Nat.le_refl _), swp_get L (by omega) (by omega), if_pos rfl]

set_option maxHeartbeats 4000000 in
set_option maxRecDepth 100000 in
theorem HPop_any (B b : Nat) (v : Value) (L : List ByteArray) (w : World) (h : HpAt B b v L w) (h0 : 0 < L.length) (hl : L.length ≤ 100000) :
    Calls Tryz.prog 54 #[rdy b] w fun e w' => e = .returned (.iface 9 (.string (L.getD 0 default))) ∧ ∃ v2, HpAt B b v2 (popH nlt L) w' ∧ NewB v v2 w ∧ Oth (RdS b v) w w' := by
  obtain ⟨g, c, rfl, _, _, _⟩ := h.rd.form h0
  obtain ⟨n, hn⟩ : ∃ n, n = L.length - 1 := ⟨_, rfl⟩
  obtain ⟨N, hN⟩ : ∃ N, N = L.length := ⟨_, rfl⟩
  obtain ⟨X, hX⟩ : ∃ X, X = swp L 0 n := ⟨_, rfl⟩
  have hXl : X.length = N := by rw [hX, swp_len, hN]
  obtain ⟨D, hD⟩ : ∃ D, D = dnH nlt N X n 0 := ⟨_, rfl⟩
  have hDl : D.length = N := by rw [hD, dnH_len, hXl]
  have hpop : D.take n = popH nlt L := by unfold popH; rw [hD, hX, hn, hN]
  have hlast : D.getD n default = L.getD 0 default := by rw [hD, hX, hN, hn]; exact pop_last L h0
  have hrd := h.rd
  rw [← hN] at hrd
  have HSw : Hid (Calls Tryz.prog 141 #[.slice (some ⟨g, 0, none⟩) N c, .int .i64 0, .int .i64 (n : Int)] w fun e w' => e = .returned (.tuple #[]) ∧ Hid (Rdy B b (.slice (some ⟨g, 0, none⟩) N c) X w' ∧ Oth (RdS b (.slice (some ⟨g, 0, none⟩) N c)) w w')) := by
    have := Swap_any B b g c 0 n L w h.rd h0 (by omega)
    rw [← hN, ← hX] at this
    exact this
  have HDn : Hid (∀ W, Hid (Rdy B b (.slice (some ⟨g, 0, none⟩) N c) X W ∧ Oth (RdS b (.slice (some ⟨g, 0, none⟩) N c)) w W) → Calls Tryz.prog 76 #[rdy b, .int .i64 0, .int .i64 (n : Int)] W fun e w' => (∃ r : Bool, e = .returned (.bool r)) ∧ Hid (Rdy B b (.slice (some ⟨g, 0, none⟩) N c) D w' ∧ Oth (RdS b (.slice (some ⟨g, 0, none⟩) N c)) w w')) := fun W hW => by
    have := down_any B b g c n X W (by rw [hXl]; exact hW.out.1) (by omega) (by omega)
    rw [hXl, ← hD] at this
    exact this.mono fun e w' ⟨q1, q2, q3⟩ => ⟨q1, q2, hW.out.2.trans q3⟩
  have HPo : Hid (∀ W, Hid (Rdy B b (.slice (some ⟨g, 0, none⟩) N c) D W ∧ Oth (RdS b (.slice (some ⟨g, 0, none⟩) N c)) w W) → Calls Tryz.prog 142 #[.pointer (some ⟨b, 0, none⟩)] W fun e w' => e = .returned (.iface 9 (.string (L.getD 0 default))) ∧ ∃ v2, HpAt B b v2 (popH nlt L) w' ∧ NewB (.slice (some ⟨g, 0, none⟩) N c) v2 w ∧ Oth (RdS b (.slice (some ⟨g, 0, none⟩) N c)) w w') := fun W hW => by
    have := RPop_any B b g c D W (by rw [hDl]; exact hW.out.1) (by omega) (by omega)
    rw [hDl, show N - 1 = n by omega, hlast, hpop] at this
    refine this.mono fun e w' ⟨q1, q2, q3⟩ => ⟨q1, _, ⟨q2, ?_⟩, fun g2 hg2 => .inl (by simpa [Value.ownBlock] using hg2), hW.out.2.trans q3⟩
    have hlp : (popH nlt L).length = L.length - 1 := by rw [← hpop, List.length_take]; omega
    rw [hlp]
    exact pop_hp nlt_wk L h.hp
  have hM := fun W => m_pop (v := .pointer (some ⟨b, 0, none⟩)) (w := W)
  have hc := hrd.cell
  have hL1 := m_len hc
  have hS1 := m_swap hc
  have k1 : (N : Int) - 1 = (n : Int) := by omega
  have k2 : IntKind.i64.wrap (n : Int) = (n : Int) := by rw [IntKind.wrap_i64]; omega
  rw [← hN]
  clear h h0 hl hn hN hX hXl hD hDl hpop hlast hrd
  go_enter Tryz.func54, Tryz.ntmps54
  go_wp2_with (first
    | (go_at_call 141; refine HSw.out.mono ?_; rintro e w1 ⟨rfl, H1⟩)
    | (go_at_call 76; refine (HDn.out _ H1).mono ?_; rintro e w2 ⟨⟨r, rfl⟩, H2⟩)
    | (go_at_call 142; refine (HPo.out _ H2).mono ?_; rintro e w3 ⟨rfl, H3⟩)
    | go_in)
  go_ret
  exact ⟨rfl, H3⟩
end Go.Proofs.YtankaiopdbcndaaGreatDoor

/- Targets: their names and what they need, plain and in memory. -/
namespace Go.Proofs.YtankaiopdbcndaaGreatDoor
open Go.RowKit Go.Shelf Go.Maps

/-- A target: its name; its lists as they lie; and what stands in them. -/
structure Tg where
  nm : ByteArray
  vs : Value
  vn : Value
  vo : Value
  vc : Value
  ss : List ByteArray
  ns : List ByteArray
  os : List ByteArray
  cs : List ByteArray
def tnm (t : Tg) : List UInt8 := t.nm.data.toList
/-- How a list of texts reads in a map: by where it lies. -/
def slE (v : Value) : Option (DataW Unit × List MemPlace) := match v with
  | .slice none n c => some (.agg [.lit (.int .i64 (n : Int)), .lit (.int .i64 (c : Int))], [])
  | .slice (some ⟨g, o, none⟩) n c => some (.agg [.lit (.int .i64 (g : Int)), .lit (.int .i64 (o : Int)), .lit (.int .i64 (n : Int)), .lit (.int .i64 (c : Int))], [])
  | .slice (some ⟨g, o, some s⟩) n c => some (.agg [.lit (.int .i64 (g : Int)), .lit (.int .i64 (o : Int)), .lit (.int .i64 (s : Int)), .lit (.int .i64 (n : Int)), .lit (.int .i64 (c : Int))], [])
  | _ => none
def slD (v : Value) : DataW Unit := ((slE v).map (·.1)).getD .nil
/-- A list of texts, as it lies. -/
def IsSl (v : Value) : Prop := ∃ ao n c, v = .slice ao n c
theorem slE_is {v : Value} (h : IsSl v) : slE v = some (slD v, []) := by
  obtain ⟨ao, n, c, rfl⟩ := h
  match ao with
  | none => rfl
  | some ⟨g, o, none⟩ => rfl
  | some ⟨g, o, some s⟩ => rfl
theorem slE_sl {v : Value} {d : DataW Unit} {p : List MemPlace} (h : slE v = some (d, p)) : IsSl v := by
  unfold slE at h
  split at h
  · exact ⟨_, _, _, rfl⟩
  · exact ⟨_, _, _, rfl⟩
  · exact ⟨_, _, _, rfl⟩
  · cases h
theorem slE_inj {u v : Value} {d : DataW Unit} {p q : List MemPlace} (h : slE u = some (d, p)) (k : slE v = some (d, q)) : u = v := by
  obtain ⟨ao, n, c, rfl⟩ := slE_sl h
  obtain ⟨ao2, n2, c2, rfl⟩ := slE_sl k
  match ao, ao2 with
  | none, none =>
    simp [slE] at h k
    obtain ⟨h, _⟩ := h
    obtain ⟨k, _⟩ := k
    rw [← h] at k
    simp at k
    rw [show n2 = n by omega, show c2 = c by omega]
  | some ⟨g, o, none⟩, some ⟨g2, o2, none⟩ =>
    simp [slE] at h k
    obtain ⟨h, _⟩ := h
    obtain ⟨k, _⟩ := k
    rw [← h] at k
    simp at k
    rw [show g2 = g by omega, show o2 = o by omega, show n2 = n by omega, show c2 = c by omega]
  | some ⟨g, o, some s⟩, some ⟨g2, o2, some s2⟩ =>
    simp [slE] at h k
    obtain ⟨h, _⟩ := h
    obtain ⟨k, _⟩ := k
    rw [← h] at k
    simp at k
    rw [show g2 = g by omega, show o2 = o by omega, show s2 = s by omega, show n2 = n by omega, show c2 = c by omega]
  | none, some ⟨g2, o2, none⟩ | none, some ⟨g2, o2, some s2⟩ | some ⟨g, o, none⟩, none | some ⟨g, o, none⟩, some ⟨g2, o2, some s2⟩ | some ⟨g, o, some s⟩, none | some ⟨g, o, some s⟩, some ⟨g2, o2, none⟩ =>
    exfalso
    simp [slE] at h k
    have e := h.1.trans k.1.symm
    simp at e
def tD (t : Tg) : DataW Unit := slD t.vn
/-- What each name needs: its list, by names; the last one of a name stands. -/
def ndD (L : List Tg) : DataW Unit := L.foldl (fun D f => D.put (.string (tnm f)) (tD f)) (.map [])
theorem ndD_snoc (L : List Tg) (f : Tg) : ndD (L ++ [f]) = (ndD L).put (.string (tnm f)) (tD f) := by simp [ndD, List.foldl_append]
theorem ndD_tidy (L : List Tg) : Tidy (ndD L) := by
  refine snocInd (P := fun L => Tidy (ndD L)) tidy_empty (fun l a ih => ?_) L
  rw [ndD_snoc]
  exact ih.put (by exact trivial) _
theorem has_ndD (L : List Tg) (k : List UInt8) : Maps.has (ndD L) (.string k) = L.any (fun f => decide (tnm f = k)) := by
  refine snocInd (P := fun L => Maps.has (ndD L) (.string k) = L.any (fun f => decide (tnm f = k))) rfl (fun l a ih => ?_) L
  rw [ndD_snoc, List.any_append, ← ih]
  by_cases h : tnm a = k
  · subst h
    rw [has_put_same (ndD_tidy l).isMap (by exact trivial)]
    simp
  · rw [has_put_other (fun e => h (by injection e with e; exact e.symm))]
    simp [h]
theorem size_ndD (L : List Tg) : Maps.size (ndD L) ≤ L.length ∧ (Maps.size (ndD L) = L.length ↔ (L.map tnm).Nodup) := by
  refine snocInd (P := fun L => Maps.size (ndD L) ≤ L.length ∧ (Maps.size (ndD L) = L.length ↔ (L.map tnm).Nodup)) ⟨Nat.le_refl _, by simp [ndD, Maps.size]⟩ (fun l a ih => ?_) L
  rw [ndD_snoc, size_put (ndD_tidy l), has_ndD, List.length_append, List.map_append]
  obtain ⟨h1, h2⟩ := ih
  have e1 : [a].length = 1 := rfl
  rw [e1]
  by_cases h : l.any (fun f => decide (tnm f = tnm a)) = true
  · rw [if_pos h]
    refine ⟨by omega, ⟨fun e => by omega, fun e => ?_⟩⟩
    exfalso
    obtain ⟨f, hf, he⟩ := List.any_eq_true.1 h
    rw [List.nodup_append] at e
    exact e.2.2 (tnm f) (List.mem_map.2 ⟨f, hf, rfl⟩) (tnm a) (by simp) (by simpa using he)
  · rw [if_neg h]
    refine ⟨by omega, ⟨fun e => ?_, fun e => ?_⟩⟩
    · rw [List.nodup_append]
      refine ⟨h2.1 (by omega), by simp, fun x hx y hy e => ?_⟩
      obtain ⟨f, hf, rfl⟩ := List.mem_map.1 hx
      have hy' : y = tnm a := by simpa using hy
      exact h (List.any_eq_true.2 ⟨f, hf, by rw [e, hy']; simp⟩)
    · have := h2.2 (List.nodup_append.1 e).1
      omega
theorem at_ndD {L : List Tg} (hn : (L.map tnm).Nodup) {f : Tg} (hf : f ∈ L) (z : DataW Unit) : (ndD L).atKey (.string (tnm f)) z = tD f := by
  refine snocInd (P := fun L => (L.map tnm).Nodup → f ∈ L → (ndD L).atKey (.string (tnm f)) z = tD f) (fun _ h => by cases h) (fun l a ih => ?_) L hn hf
  intro hn hf
  rw [ndD_snoc]
  rw [List.map_append, List.nodup_append] at hn
  rcases List.mem_append.1 hf with h | h
  · have hne : tnm f ≠ tnm a := hn.2.2 _ (List.mem_map.2 ⟨f, h, rfl⟩) _ (by simp)
    rw [atKey_put_other (fun e => hne (by injection e))]
    exact ih hn.1 h
  · have e : f = a := by simpa using h
    subst e
    exact atKey_put_same (ndD_tidy l).isMap (by exact trivial) _ _
theorem atNo_ndD {L : List Tg} {k : List UInt8} (h : ∀ f ∈ L, tnm f ≠ k) (z : DataW Unit) : (ndD L).atKey (.string k) z = z := by
  refine atKey_of_not_has ?_ z
  rw [has_ndD, List.any_eq_false]
  intro f hf
  simpa using h f hf

def tgC (t : Tg) : List Value := [.string t.nm, t.vs, t.vn, t.vo, t.vc]
/-- Targets lie in a block from a place on. -/
def TgAt (g o : Nat) (L : List Tg) (w : World) : Prop := ∀ j (hj : j < L.length), w.cell? ⟨g, o + j * 5, none⟩ = some (.string L[j].nm) ∧ w.cell? ⟨g, o + j * 5 + 1, none⟩ = some L[j].vs ∧ w.cell? ⟨g, o + j * 5 + 2, none⟩ = some L[j].vn ∧ w.cell? ⟨g, o + j * 5 + 3, none⟩ = some L[j].vo ∧ w.cell? ⟨g, o + j * 5 + 4, none⟩ = some L[j].vc
theorem TgAt.below {B g o : Nat} {L : List Tg} {w w' : World} (h : TgAt g o L w) (hb : Below B w w') (hg : g < B) : TgAt g o L w' := fun j hj => by
  obtain ⟨h0, h1, h2, h3, h4⟩ := h j hj
  exact ⟨(hb.cell (p := ⟨g, _, none⟩) hg).trans h0, (hb.cell (p := ⟨g, _, none⟩) hg).trans h1, (hb.cell (p := ⟨g, _, none⟩) hg).trans h2, (hb.cell (p := ⟨g, _, none⟩) hg).trans h3, (hb.cell (p := ⟨g, _, none⟩) hg).trans h4⟩
/-- Texts, and whose block is there. -/
def TxIn (w : World) (v : Value) (ss : List ByteArray) : Prop := IsSl v ∧ ss.length ≤ 1048576 ∧ ∃ ao c, v = .slice ao ss.length c ∧ (ss = [] ∨ ∃ g o, ao = some ⟨g, o, none⟩ ∧ g < w.heap.size ∧ ∀ j (hj : j < ss.length), w.cell? ⟨g, o + j, none⟩ = some (.string ss[j]))
theorem TxIn.below {B : Nat} {w w' : World} {v : Value} {ss : List ByteArray} (h : TxIn w v ss) (hb : Below B w w') (hB : w.heap.size ≤ B) : TxIn w' v ss := by
  obtain ⟨h1, h2, ao, c, h3, h4⟩ := h
  refine ⟨h1, h2, ao, c, h3, ?_⟩
  rcases h4 with h4 | ⟨g, o, e, hg, hc⟩
  · exact .inl h4
  · exact .inr ⟨g, o, e, Nat.lt_of_lt_of_le hg hb.size, fun j hj => (hb.cell (p := ⟨g, o + j, none⟩) (by show g < B; omega)).trans (hc j hj)⟩
/-- A slice that begins at ao has the targets L, whose lists are there. -/
structure IsTg (w : World) (ao : Option Addr) (L : List Tg) : Prop where
  at_ : L = [] ∨ ∃ g o, ao = some ⟨g, o, none⟩ ∧ g < w.heap.size ∧ TgAt g o L w
  tx : ∀ t ∈ L, TxIn w t.vs t.ss ∧ TxIn w t.vn t.ns ∧ TxIn w t.vo t.os ∧ TxIn w t.vc t.cs
  sz : ∀ t ∈ L, t.nm.size ≤ 1048576
theorem IsTg.below {B : Nat} {w w' : World} {ao : Option Addr} {L : List Tg} (h : IsTg w ao L) (hb : Below B w w') (hB : w.heap.size ≤ B) : IsTg w' ao L := by
  refine ⟨?_, fun t ht => ?_, h.sz⟩
  · rcases h.at_ with h | ⟨g, o, e, hg, hc⟩
    · exact .inl h
    · exact .inr ⟨g, o, e, Nat.lt_of_lt_of_le hg hb.size, hc.below hb (by omega)⟩
  · obtain ⟨h1, h2, h3, h4⟩ := h.tx t ht
    exact ⟨h1.below hb hB, h2.below hb hB, h3.below hb hB, h4.below hb hB⟩
end Go.Proofs.YtankaiopdbcndaaGreatDoor

/- IndexFunc, ContainsFunc at texts and at targets, by functions that only look. -/
namespace Go.Proofs.YtankaiopdbcndaaGreatDoor
open Go.RowKit Go.Shelf Go.Maps

set_option maxHeartbeats 4000000 in
set_option maxRecDepth 100000 in
theorem idxSb (v : Value) (L : List ByteArray) (N : Nat) (x0 : Value) (p : ByteArray → Bool) (w : World) (hn : L.length ≤ 1048576) (hl : TxIn w v L) (eg : ∀ args w, (callFunc N args).run Tryz.prog w = .ok (.enter N args) w)
    (hc : ∀ x ∈ L, ∀ W, Below w.heap.size w W → Calls Tryz.prog N #[x0, .string x] W fun e w' => e = .returned (.bool (p x)) ∧ Below W.heap.size W w') :
    Calls Tryz.prog 72 #[v, .func (.func N) #[x0] #[]] w fun e w' => ∃ r : Int, e = .returned (.int .i64 r) ∧ decide (0 ≤ r) = L.any p ∧ Below w.heap.size w w' := by
  obtain ⟨_, _, ao, cap, rfl, hmem⟩ := hl
  have HL : Hid (L = [] ∨ ∃ g o, ao = some ⟨g, o, none⟩ ∧ g < w.heap.size ∧ ∀ j (hj : j < L.length), w.cell? ⟨g, o + j, none⟩ = some (.string L[j])) := hmem
  clear hmem
  have HCa : Hid (∀ x ∈ L, ∀ W, Below w.heap.size w W → Calls Tryz.prog N #[x0, .string x] W fun e w' => e = .returned (.bool (p x)) ∧ Below W.heap.size W w') := hc
  have hn1 : (L.length : Int) ≤ 1048576 := by omega
  clear hc
  go_enter Tryz.func72, Tryz.ntmps72
  go_wp2
  go_loopw [8] (fun i wr => ∃ k : Nat, k ≤ L.length ∧ i = .int .i64 (k : Int) ∧ Hid (∀ j, (hj : j < L.length) → j < k → p L[j] = false) ∧ Hid (Below w.heap.size w wr)) (fun i _ => L.length - (intOf i).toNat)
  case atStart =>
    refine ⟨0, Nat.zero_le _, rfl, ?_, Below.refl _ _⟩
    exact (fun j hj h => absurd h (Nat.not_lt_zero _) : ∀ j, (hj : j < L.length) → j < 0 → p L[j] = false)
  case round =>
    obtain ⟨k, hk, rfl, HN, HB⟩ := hrel
    have hb := HB.out
    by_cases hlt : k < L.length
    · have hki : (k : Int) < (L.length : Int) := by omega
      rcases HL.out with h | ⟨g, o, rfl, hg, hcc⟩
      · exfalso; rw [h] at hlt; exact absurd hlt (by simp)
      have c0 : wr.cell? ⟨g, o + k, none⟩ = some (.string L[k]) := (hb.cell (p := ⟨g, o + k, none⟩) hg).trans (hcc k hlt)
      have HC := HCa.out _ (List.getElem_mem hlt) wr hb
      have HP : p L[k] = true → L.any p = true := fun h => List.any_eq_true.2 ⟨L[k], List.getElem_mem hlt, h⟩
      have HN2 : p L[k] = false → ∀ j, (hj : j < L.length) → j < k + 1 → p L[j] = false := fun h j hj hjk => by
        rcases (show j < k ∨ j = k by omega) with e | e
        · exact HN.out j hj e
        · subst e; exact h
      generalize hx : L[k] = x at c0 HC HP HN2
      have HC2 : Hid (Calls Tryz.prog N #[x0, .string x] wr fun e w' => e = .returned (.bool (p x)) ∧ Below wr.heap.size wr w') := HC
      clear hcc hx HC
      cases hpx : p x with
      | true =>
        have HT : Hid (L.any p = true) := HP hpx
        rw [hpx] at HC2
        clear HP HN2 hb hpx
        go_wp2_with (first | (go_at_fn N; refine HC2.out.mono ?_; rintro e w1 ⟨rfl, hb1⟩) | go_in)
        go_ret
        refine ⟨k, rfl, ?_, HB.out.trans (hb1.mono HB.out.size)⟩
        rw [HT.out]
        simp
      | false =>
        have HT : Hid (∀ j, (hj : j < L.length) → j < k + 1 → p L[j] = false) := HN2 hpx
        rw [hpx] at HC2
        clear HP HN2 hb hpx
        go_wp2_with (first | (go_at_fn N; refine HC2.out.mono ?_; rintro e w1 ⟨rfl, hb1⟩) | go_in)
        exact ⟨⟨k + 1, by omega, by go_num, HT, HB.out.trans (hb1.mono HB.out.size)⟩, by simp [intOf]; omega⟩
    · obtain rfl : k = L.length := by omega
      have HT : Hid (L.any p = false) := by
        show _ = _
        rw [List.any_eq_false]
        intro x hx
        obtain ⟨j, hj, rfl⟩ := List.mem_iff_getElem.1 hx
        rw [HN.out j hj hj]
        simp
      clear hb HCa
      go_wp2
      go_ret
      refine ⟨-1, rfl, ?_, HB.out⟩
      rw [HT.out]
      rfl

set_option maxHeartbeats 1000000 in
theorem conSb (v : Value) (L : List ByteArray) (N : Nat) (x0 : Value) (p : ByteArray → Bool) (w : World) (hn : L.length ≤ 1048576) (hl : TxIn w v L) (eg : ∀ args w, (callFunc N args).run Tryz.prog w = .ok (.enter N args) w)
    (hc : ∀ x ∈ L, ∀ W, Below w.heap.size w W → Calls Tryz.prog N #[x0, .string x] W fun e w' => e = .returned (.bool (p x)) ∧ Below W.heap.size W w') :
    Calls Tryz.prog 48 #[v, .func (.func N) #[x0] #[]] w fun e w' => e = .returned (.bool (L.any p)) ∧ Below w.heap.size w w' := by
  have HI : Hid (Calls Tryz.prog 72 #[v, .func (.func N) #[x0] #[]] w fun e w' => ∃ r : Int, e = .returned (.int .i64 r) ∧ decide (0 ≤ r) = L.any p ∧ Below w.heap.size w w') := idxSb v L N x0 p w hn hl eg hc
  clear hc hl eg hn
  go_enter Tryz.func48, Tryz.ntmps48
  go_wp2_with (first | (go_at_call 72; refine HI.out.mono ?_; rintro e w1 ⟨r, rfl, hr, hb1⟩; have HR : Hid (decide (0 ≤ r) = L.any p) := hr; clear hr) | go_in)
  go_ret
  exact ⟨by rw [← HR.out]; first | rfl | simp, hb1⟩

set_option maxHeartbeats 4000000 in
set_option maxRecDepth 100000 in
theorem idxTn (ao : Option Addr) (cap : Nat) (L : List Tg) (N : Nat) (p : Tg → Bool) (w : World) (hn : L.length ≤ 1048576) (hl : IsTg w ao L) (eg : ∀ args w, (callFunc N args).run Tryz.prog w = .ok (.enter N args) w)
    (hc : ∀ x ∈ L, ∀ W, Below w.heap.size w W → Calls Tryz.prog N #[.agg #[.string x.nm, x.vs, x.vn, x.vo, x.vc]] W fun e w' => e = .returned (.bool (p x)) ∧ Below W.heap.size W w') :
    Calls Tryz.prog 73 #[.slice ao L.length cap, .func (.func N) #[] #[]] w fun e w' => ∃ r : Int, e = .returned (.int .i64 r) ∧ decide (0 ≤ r) = L.any p ∧ Below w.heap.size w w' := by
  have HL : Hid (IsTg w ao L) := hl
  clear hl
  have HCa : Hid (∀ x ∈ L, ∀ W, Below w.heap.size w W → Calls Tryz.prog N #[.agg #[.string x.nm, x.vs, x.vn, x.vo, x.vc]] W fun e w' => e = .returned (.bool (p x)) ∧ Below W.heap.size W w') := hc
  have hn1 : (L.length : Int) ≤ 1048576 := by omega
  clear hc
  go_enter Tryz.func73, Tryz.ntmps73
  go_wp2
  go_loopw [8] (fun i wr => ∃ k : Nat, k ≤ L.length ∧ i = .int .i64 (k : Int) ∧ Hid (∀ j, (hj : j < L.length) → j < k → p L[j] = false) ∧ Hid (Below w.heap.size w wr)) (fun i _ => L.length - (intOf i).toNat)
  case atStart =>
    refine ⟨0, Nat.zero_le _, rfl, ?_, Below.refl _ _⟩
    exact (fun j hj h => absurd h (Nat.not_lt_zero _) : ∀ j, (hj : j < L.length) → j < 0 → p L[j] = false)
  case round =>
    obtain ⟨k, hk, rfl, HN, HB⟩ := hrel
    have hb := HB.out
    by_cases hlt : k < L.length
    · have hki : (k : Int) < (L.length : Int) := by omega
      rcases HL.out.at_ with h | ⟨g, o, rfl, hg, hcc⟩
      · exfalso; rw [h] at hlt; exact absurd hlt (by simp)
      obtain ⟨c0, c1, c2, c3, c4⟩ := (hcc.below hb hg) k hlt
      have HC := HCa.out _ (List.getElem_mem hlt) wr hb
      have HP : p L[k] = true → L.any p = true := fun h => List.any_eq_true.2 ⟨L[k], List.getElem_mem hlt, h⟩
      have HN2 : p L[k] = false → ∀ j, (hj : j < L.length) → j < k + 1 → p L[j] = false := fun h j hj hjk => by
        rcases (show j < k ∨ j = k by omega) with e | e
        · exact HN.out j hj e
        · subst e; exact h
      generalize hx : L[k] = x at c0 c1 c2 c3 c4 HC HP HN2
      have HC2 : Hid (Calls Tryz.prog N #[.agg #[.string x.nm, x.vs, x.vn, x.vo, x.vc]] wr fun e w' => e = .returned (.bool (p x)) ∧ Below wr.heap.size wr w') := HC
      clear hcc hx HC
      cases hpx : p x with
      | true =>
        have HT : Hid (L.any p = true) := HP hpx
        rw [hpx] at HC2
        clear HP HN2 hb hpx
        go_wp2_with (first | (go_at_fn N; refine HC2.out.mono ?_; rintro e w1 ⟨rfl, hb1⟩) | go_in)
        go_ret
        refine ⟨k, rfl, ?_, HB.out.trans (hb1.mono HB.out.size)⟩
        rw [HT.out]
        simp
      | false =>
        have HT : Hid (∀ j, (hj : j < L.length) → j < k + 1 → p L[j] = false) := HN2 hpx
        rw [hpx] at HC2
        clear HP HN2 hb hpx
        go_wp2_with (first | (go_at_fn N; refine HC2.out.mono ?_; rintro e w1 ⟨rfl, hb1⟩) | go_in)
        exact ⟨⟨k + 1, by omega, by go_num, HT, HB.out.trans (hb1.mono HB.out.size)⟩, by simp [intOf]; omega⟩
    · obtain rfl : k = L.length := by omega
      have HT : Hid (L.any p = false) := by
        show _ = _
        rw [List.any_eq_false]
        intro x hx
        obtain ⟨j, hj, rfl⟩ := List.mem_iff_getElem.1 hx
        rw [HN.out j hj hj]
        simp
      clear hb HCa
      go_wp2
      go_ret
      refine ⟨-1, rfl, ?_, HB.out⟩
      rw [HT.out]
      rfl

set_option maxHeartbeats 1000000 in
theorem conTn (ao : Option Addr) (cap : Nat) (L : List Tg) (N : Nat) (p : Tg → Bool) (w : World) (hn : L.length ≤ 1048576) (hl : IsTg w ao L) (eg : ∀ args w, (callFunc N args).run Tryz.prog w = .ok (.enter N args) w)
    (hc : ∀ x ∈ L, ∀ W, Below w.heap.size w W → Calls Tryz.prog N #[.agg #[.string x.nm, x.vs, x.vn, x.vo, x.vc]] W fun e w' => e = .returned (.bool (p x)) ∧ Below W.heap.size W w') :
    Calls Tryz.prog 50 #[.slice ao L.length cap, .func (.func N) #[] #[]] w fun e w' => e = .returned (.bool (L.any p)) ∧ Below w.heap.size w w' := by
  have HI : Hid (Calls Tryz.prog 73 #[.slice ao L.length cap, .func (.func N) #[] #[]] w fun e w' => ∃ r : Int, e = .returned (.int .i64 r) ∧ decide (0 ≤ r) = L.any p ∧ Below w.heap.size w w') := idxTn ao cap L N p w hn hl eg hc
  clear hc hl eg hn
  go_enter Tryz.func50, Tryz.ntmps50
  go_wp2_with (first | (go_at_call 73; refine HI.out.mono ?_; rintro e w1 ⟨r, rfl, hr, hb1⟩; have HR : Hid (decide (0 ≤ r) = L.any p) := hr; clear hr) | go_in)
  go_ret
  exact ⟨by rw [← HR.out]; first | rfl | simp, hb1⟩

set_option maxHeartbeats 4000000 in
set_option maxRecDepth 100000 in
theorem idxTc (ao : Option Addr) (cap : Nat) (L : List Tg) (N : Nat) (x0 : Value) (p : Tg → Bool) (w : World) (hn : L.length ≤ 1048576) (hl : IsTg w ao L) (eg : ∀ args w, (callFunc N args).run Tryz.prog w = .ok (.enter N args) w)
    (hc : ∀ x ∈ L, ∀ W, Below w.heap.size w W → Calls Tryz.prog N #[.agg #[.string x.nm, x.vs, x.vn, x.vo, x.vc], x0] W fun e w' => e = .returned (.bool (p x)) ∧ Below W.heap.size W w') :
    Calls Tryz.prog 73 #[.slice ao L.length cap, .func (.func N) #[] #[x0]] w fun e w' => ∃ r : Int, e = .returned (.int .i64 r) ∧ decide (0 ≤ r) = L.any p ∧ Below w.heap.size w w' := by
  have HL : Hid (IsTg w ao L) := hl
  clear hl
  have HCa : Hid (∀ x ∈ L, ∀ W, Below w.heap.size w W → Calls Tryz.prog N #[.agg #[.string x.nm, x.vs, x.vn, x.vo, x.vc], x0] W fun e w' => e = .returned (.bool (p x)) ∧ Below W.heap.size W w') := hc
  have hn1 : (L.length : Int) ≤ 1048576 := by omega
  clear hc
  go_enter Tryz.func73, Tryz.ntmps73
  go_wp2
  go_loopw [8] (fun i wr => ∃ k : Nat, k ≤ L.length ∧ i = .int .i64 (k : Int) ∧ Hid (∀ j, (hj : j < L.length) → j < k → p L[j] = false) ∧ Hid (Below w.heap.size w wr)) (fun i _ => L.length - (intOf i).toNat)
  case atStart =>
    refine ⟨0, Nat.zero_le _, rfl, ?_, Below.refl _ _⟩
    exact (fun j hj h => absurd h (Nat.not_lt_zero _) : ∀ j, (hj : j < L.length) → j < 0 → p L[j] = false)
  case round =>
    obtain ⟨k, hk, rfl, HN, HB⟩ := hrel
    have hb := HB.out
    by_cases hlt : k < L.length
    · have hki : (k : Int) < (L.length : Int) := by omega
      rcases HL.out.at_ with h | ⟨g, o, rfl, hg, hcc⟩
      · exfalso; rw [h] at hlt; exact absurd hlt (by simp)
      obtain ⟨c0, c1, c2, c3, c4⟩ := (hcc.below hb hg) k hlt
      have HC := HCa.out _ (List.getElem_mem hlt) wr hb
      have HP : p L[k] = true → L.any p = true := fun h => List.any_eq_true.2 ⟨L[k], List.getElem_mem hlt, h⟩
      have HN2 : p L[k] = false → ∀ j, (hj : j < L.length) → j < k + 1 → p L[j] = false := fun h j hj hjk => by
        rcases (show j < k ∨ j = k by omega) with e | e
        · exact HN.out j hj e
        · subst e; exact h
      generalize hx : L[k] = x at c0 c1 c2 c3 c4 HC HP HN2
      have HC2 : Hid (Calls Tryz.prog N #[.agg #[.string x.nm, x.vs, x.vn, x.vo, x.vc], x0] wr fun e w' => e = .returned (.bool (p x)) ∧ Below wr.heap.size wr w') := HC
      clear hcc hx HC
      cases hpx : p x with
      | true =>
        have HT : Hid (L.any p = true) := HP hpx
        rw [hpx] at HC2
        clear HP HN2 hb hpx
        go_wp2_with (first | (go_at_fn N; refine HC2.out.mono ?_; rintro e w1 ⟨rfl, hb1⟩) | go_in)
        go_ret
        refine ⟨k, rfl, ?_, HB.out.trans (hb1.mono HB.out.size)⟩
        rw [HT.out]
        simp
      | false =>
        have HT : Hid (∀ j, (hj : j < L.length) → j < k + 1 → p L[j] = false) := HN2 hpx
        rw [hpx] at HC2
        clear HP HN2 hb hpx
        go_wp2_with (first | (go_at_fn N; refine HC2.out.mono ?_; rintro e w1 ⟨rfl, hb1⟩) | go_in)
        exact ⟨⟨k + 1, by omega, by go_num, HT, HB.out.trans (hb1.mono HB.out.size)⟩, by simp [intOf]; omega⟩
    · obtain rfl : k = L.length := by omega
      have HT : Hid (L.any p = false) := by
        show _ = _
        rw [List.any_eq_false]
        intro x hx
        obtain ⟨j, hj, rfl⟩ := List.mem_iff_getElem.1 hx
        rw [HN.out j hj hj]
        simp
      clear hb HCa
      go_wp2
      go_ret
      refine ⟨-1, rfl, ?_, HB.out⟩
      rw [HT.out]
      rfl

set_option maxHeartbeats 1000000 in
theorem conTc (ao : Option Addr) (cap : Nat) (L : List Tg) (N : Nat) (x0 : Value) (p : Tg → Bool) (w : World) (hn : L.length ≤ 1048576) (hl : IsTg w ao L) (eg : ∀ args w, (callFunc N args).run Tryz.prog w = .ok (.enter N args) w)
    (hc : ∀ x ∈ L, ∀ W, Below w.heap.size w W → Calls Tryz.prog N #[.agg #[.string x.nm, x.vs, x.vn, x.vo, x.vc], x0] W fun e w' => e = .returned (.bool (p x)) ∧ Below W.heap.size W w') :
    Calls Tryz.prog 50 #[.slice ao L.length cap, .func (.func N) #[] #[x0]] w fun e w' => e = .returned (.bool (L.any p)) ∧ Below w.heap.size w w' := by
  have HI : Hid (Calls Tryz.prog 73 #[.slice ao L.length cap, .func (.func N) #[] #[x0]] w fun e w' => ∃ r : Int, e = .returned (.int .i64 r) ∧ decide (0 ≤ r) = L.any p ∧ Below w.heap.size w w') := idxTc ao cap L N x0 p w hn hl eg hc
  clear hc hl eg hn
  go_enter Tryz.func50, Tryz.ntmps50
  go_wp2_with (first | (go_at_call 73; refine HI.out.mono ?_; rintro e w1 ⟨r, rfl, hr, hb1⟩; have HR : Hid (decide (0 ≤ r) = L.any p) := hr; clear hr) | go_in)
  go_ret
  exact ⟨by rw [← HR.out]; first | rfl | simp, hb1⟩
end Go.Proofs.YtankaiopdbcndaaGreatDoor
