/- Roots, plain: by halves, and level by level: the same. -/
import Derived.Test.YtagelkaenbdlaaaDoorRoot
namespace Go.Proofs.YtagelkaenbdlaaaDoor
open Go.RowKit

theorem sideF_pow : ∀ f n e : Nat, 2 ^ e < n → n ≤ 2 ^ e + f → ∃ e', sideF f n (2 ^ e) = 2 ^ e' ∧ 2 ^ e' < n ∧ n ≤ 2 ^ (e' + 1) := by
  intro f
  induction f with
  | zero => intro n e h1 h2; omega
  | succ f ih =>
    intro n e h1 h2
    have hp := Nat.two_pow_pos e
    have hs : 2 ^ (e + 1) = 2 * 2 ^ e := by rw [Nat.pow_succ, Nat.mul_comm]
    unfold sideF
    by_cases h : 2 * 2 ^ e < n
    · rw [if_pos h, ← hs]
      exact ih n (e + 1) (by omega) (by omega)
    · rw [if_neg h]
      exact ⟨e, rfl, h1, by omega⟩
theorem side_pow (n : Nat) (h : 2 ≤ n) : ∃ e, side n = 2 ^ e ∧ 2 ^ e < n ∧ n ≤ 2 ^ (e + 1) := sideF_pow n n 0 (by omega) (by omega)
theorem pow_uniq (n a b : Nat) (h1 : 2 ^ a < n) (h2 : n ≤ 2 ^ (a + 1)) (h3 : 2 ^ b < n) (h4 : n ≤ 2 ^ (b + 1)) : a = b := by
  rcases Nat.lt_trichotomy a b with h | h | h
  · have := Nat.pow_le_pow_right (n := 2) (by decide) (show a + 1 ≤ b from h)
    omega
  · exact h
  · have := Nat.pow_le_pow_right (n := 2) (by decide) (show b + 1 ≤ a from h)
    omega
theorem side_half (n : Nat) (h : 3 ≤ n) : side n = 2 * side ((n + 1) / 2) := by
  obtain ⟨e, h1, h2, h3⟩ := side_pow n (by omega)
  obtain ⟨d, k1, k2, k3⟩ := side_pow ((n + 1) / 2) (by omega)
  have hd : 2 ^ (d + 1) = 2 * 2 ^ d := by rw [Nat.pow_succ, Nat.mul_comm]
  have hd2 : 2 ^ (d + 1 + 1) = 2 * 2 ^ (d + 1) := by rw [Nat.pow_succ, Nat.mul_comm]
  have : e = d + 1 := pow_uniq n e (d + 1) h2 h3 (by omega) (by omega)
  rw [h1, k1, this, hd]

/-- The root of nodes, by halves. -/
def treeF : Nat → List ByteArray → ByteArray
  | 0, _ => ⟨#[]⟩
  | f + 1, xs => if xs.length ≤ 1 then xs.getD 0 ⟨#[]⟩ else pairB (treeF f (xs.take (side xs.length))) (treeF f (xs.drop (side xs.length)))
def tree (xs : List ByteArray) : ByteArray := treeF (xs.length + 1) xs
theorem treeF_more : ∀ f g (xs : List ByteArray), xs.length < f → xs.length < g → treeF f xs = treeF g xs := by
  intro f
  induction f with
  | zero => intro g xs h; omega
  | succ f ih =>
    intro g xs h1 h2
    cases g with
    | zero => omega
    | succ g =>
      unfold treeF
      by_cases h : xs.length ≤ 1
      · rw [if_pos h, if_pos h]
      · rw [if_neg h, if_neg h]
        have hl := side_lt xs.length (by omega)
        have hp := side_pos xs.length
        rw [ih g (xs.take (side xs.length)) (by rw [List.length_take]; omega) (by rw [List.length_take]; omega), ih g (xs.drop (side xs.length)) (by rw [List.length_drop]; omega) (by rw [List.length_drop]; omega)]
theorem side_two : side 2 = 1 := by decide
theorem tree_one (x : ByteArray) : tree [x] = x := rfl
theorem tree_split (xs : List ByteArray) (h : 2 ≤ xs.length) : tree xs = pairB (tree (xs.take (side xs.length))) (tree (xs.drop (side xs.length))) := by
  have hl := side_lt xs.length h
  have hp := side_pos xs.length
  have e : tree xs = pairB (treeF xs.length (xs.take (side xs.length))) (treeF xs.length (xs.drop (side xs.length))) := by
    unfold tree
    conv => lhs; unfold treeF
    rw [if_neg (by omega)]
  rw [e]
  unfold tree
  rw [treeF_more xs.length _ (xs.take (side xs.length)) (by rw [List.length_take]; omega) (Nat.lt_succ_self _), treeF_more xs.length _ (xs.drop (side xs.length)) (by rw [List.length_drop]; omega) (Nat.lt_succ_self _)]
theorem rootB_one (s : ByteArray) : rootB [s] = leafB s := by
  unfold rootB
  rw [show ([s] : List ByteArray).length = 0 + 1 from rfl]
  unfold rootF
  rw [if_neg (by simp), if_pos (by simp), List.getD_cons_zero]
theorem rootB_tree : ∀ (n : Nat) (ss : List ByteArray), ss.length = n → 0 < n → rootB ss = tree (ss.map leafB) := by
  intro n
  induction n using Nat.strongRecOn with
  | _ n ih =>
    intro ss hn h0
    by_cases h1 : n = 1
    · match ss, (hn.trans h1) with
      | [s], _ => rw [rootB_one, List.map_cons, List.map_nil, tree_one]
    · have hm : (ss.map leafB).length = ss.length := List.length_map _
      have hl := side_lt ss.length (by omega)
      have hp := side_pos ss.length
      rw [rootB_split ss (by omega), tree_split _ (by omega), hm, ← List.map_take, ← List.map_drop]
      rw [ih _ (by rw [List.length_take]; omega) (ss.take (side ss.length)) rfl (by rw [List.length_take]; omega), ih _ (by rw [List.length_drop]; omega) (ss.drop (side ss.length)) rfl (by rw [List.length_drop]; omega)]

/-- One level up: two and two are paired; what is left over goes up as it is. -/
def level : List ByteArray → List ByteArray
  | a :: b :: r => pairB a b :: level r
  | l => l
theorem level_len : ∀ (n : Nat) (l : List ByteArray), l.length ≤ n → (level l).length = (l.length + 1) / 2 := by
  intro n
  induction n with
  | zero => intro l h; match l, h with | [], _ => simp [level]
  | succ n ih =>
    intro l h
    match l, h with
    | [], _ => simp [level]
    | [a], _ => simp [level]
    | a :: b :: r, h =>
      simp only [List.length_cons] at h
      simp only [level, List.length_cons]
      rw [ih r (by omega)]
      omega
theorem level_app : ∀ (n : Nat) (l m : List ByteArray), l.length ≤ n → l.length % 2 = 0 → level (l ++ m) = level l ++ level m := by
  intro n
  induction n with
  | zero => intro l m h _; match l, h with | [], _ => simp [level]
  | succ n ih =>
    intro l m h he
    match l, h with
    | [], _ => simp [level]
    | [a], _ => simp at he
    | a :: b :: r, h =>
      simp only [List.length_cons] at h he
      simp only [List.cons_append, level]
      rw [ih r m (by omega) (by omega)]
theorem tree_level : ∀ (n : Nat) (xs : List ByteArray), xs.length = n → 2 ≤ n → tree xs = tree (level xs) := by
  intro n
  induction n using Nat.strongRecOn with
  | _ n ih =>
    intro xs hn h2
    by_cases h3 : n = 2
    · match xs, (hn.trans h3) with
      | [a, b], _ =>
        rw [tree_split [a, b] (by simp), show ([a, b] : List ByteArray).length = 2 from rfl, side_two, show ([a, b] : List ByteArray).take 1 = [a] from rfl, show ([a, b] : List ByteArray).drop 1 = [b] from rfl, tree_one, tree_one, show level [a, b] = [pairB a b] from by simp [level], tree_one]
    · have hl := side_lt xs.length (by omega)
      have hp := side_pos ((xs.length + 1) / 2)
      have hh := side_half xs.length (by omega)
      have hlev := level_len _ xs (Nat.le_refl _)
      have htl : (xs.take (side xs.length)).length = side xs.length := by rw [List.length_take]; omega
      have hdl : (xs.drop (side xs.length)).length = xs.length - side xs.length := List.length_drop
      have happ : level xs = level (xs.take (side xs.length)) ++ level (xs.drop (side xs.length)) := by
        conv => lhs; rw [← List.take_append_drop (side xs.length) xs]
        exact level_app _ _ _ (Nat.le_refl _) (by rw [htl]; omega)
      have htk := level_len _ (xs.take (side xs.length)) (Nat.le_refl _)
      rw [htl] at htk
      rw [tree_split xs (by omega), tree_split (level xs) (by omega), hlev]
      have e1 : (level xs).take (side ((xs.length + 1) / 2)) = level (xs.take (side xs.length)) := by
        rw [happ, List.take_left' (by omega)]
      have e2 : (level xs).drop (side ((xs.length + 1) / 2)) = level (xs.drop (side xs.length)) := by
        rw [happ, List.drop_left' (by omega)]
      rw [e1, e2, ih _ (by omega) (xs.take (side xs.length)) rfl (by omega)]
      by_cases hd : 2 ≤ (xs.drop (side xs.length)).length
      · rw [ih _ (by omega) (xs.drop (side xs.length)) rfl hd]
      · match hx : xs.drop (side xs.length), hdl with
        | [], hdl => simp at hdl; omega
        | [x], _ => rw [show level [x] = [x] from by simp [level]]
        | x :: y :: r, _ => rw [hx] at hd; simp at hd
end Go.Proofs.YtagelkaenbdlaaaDoor
