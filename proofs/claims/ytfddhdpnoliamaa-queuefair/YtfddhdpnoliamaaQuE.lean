/- One job, one tenant is deleted from its row. -/
import Derived.Test.YtfddhdpnoliamaaQuD
namespace Go.Proofs.Ytfddhdpnoliamaa
open Go.RowKit Go.Shelf

theorem jcs_take (l : List Jb) (i : Nat) (hi : i ≤ l.length) : (jcs l).take (i * 3) = jcs (l.take i) := by
  conv => lhs; rw [← List.take_append_drop i l, jcs_app]
  rw [List.take_append_of_le_length (by rw [jcs_len, List.length_take, Nat.min_eq_left hi]; omega), List.take_of_length_le (by rw [jcs_len, List.length_take, Nat.min_eq_left hi]; omega)]
theorem jcs_drop (l : List Jb) (i : Nat) (hi : i ≤ l.length) : (jcs l).drop (i * 3) = jcs (l.drop i) := by
  conv => lhs; rw [← List.take_append_drop i l, jcs_app]
  have : (jcs (l.take i)).length = i * 3 := by rw [jcs_len, List.length_take, Nat.min_eq_left hi]
  rw [← this, List.drop_left]
theorem jc_one (j : Jb) : ∀ u ∈ jc j, u.oneCell' = true := by
  intro u hu
  simp [jc] at hu
  rcases hu with rfl | rfl | rfl <;> rfl
theorem jcs_one (l : List Jb) : ∀ u ∈ jcs l, u.oneCell' = true := by
  intro u hu
  obtain ⟨j, _, hj⟩ := List.mem_flatMap.1 hu
  exact jc_one j u hj

theorem delJ_row {B : Nat} {v : Value} {l : List Jb} {w : World} (h : w.ownsRow B 34 3 v l.length (jcs l)) (i : Nat) (hi : i < l.length) :
    Calls Try.prog 40 #[v, .int .i64 (i : Int), .int .i64 ((i + 1 : Nat) : Int)] w fun e w' => ∃ v', e = .returned v' ∧ w'.ownsRow B 34 3 v' (l.take i ++ l.drop (i + 1)).length (jcs (l.take i ++ l.drop (i + 1))) ∧ v'.ownBlock = v.ownBlock ∧ Upd (ob v) (ob v) w w' := by
  rcases h.2 with ⟨_, h0⟩ | ⟨g, cap, cur, rfl, hb, hg, hn, hm, hs, ht⟩
  · omega
  · refine (delJ_any g cap l.length i cur w hg hs hn hi (by rw [ht]; exact jcs_one l)).mono ?_
    rintro e w' ⟨rfl, ⟨cur', hg', hs', ht'⟩, hu⟩
    have hl : (l.take i ++ l.drop (i + 1)).length = l.length - 1 := by rw [List.length_append, List.length_take, List.length_drop, Nat.min_eq_left (by omega)]; omega
    refine ⟨_, rfl, ⟨by rw [jcs_len], .inr ⟨g, cap, cur', by rw [hl], hb, hg', by omega, hm, by omega, ?_⟩⟩, rfl, hu⟩
    rw [hl, ht', ht, jcs_drop l (i + 1) (by omega)]
    have e1 : cur.toList.take (i * 3) = (jcs l).take (i * 3) := by rw [← ht, List.take_take, Nat.min_eq_left (by omega)]
    rw [e1, jcs_take l i (by omega), ← jcs_app]

theorem delT_row {B : Nat} {v : Value} {cs : List Ce} {w : World} (h : w.ownsRow B 64 1 v cs.length (cs.map pc)) (i : Nat) (hi : i < cs.length) :
    Calls Try.prog 41 #[v, .int .i64 (i : Int), .int .i64 ((i + 1 : Nat) : Int)] w fun e w' => ∃ v', e = .returned v' ∧ w'.ownsRow B 64 1 v' (cs.take i ++ cs.drop (i + 1)).length ((cs.take i ++ cs.drop (i + 1)).map pc) ∧ v'.ownBlock = v.ownBlock ∧ Upd (ob v) (ob v) w w' := by
  rcases h.2 with ⟨_, h0⟩ | ⟨g, cap, cur, rfl, hb, hg, hn, hm, hs, ht⟩
  · omega
  · refine (delT_any g cap cs.length i cur w hg hs hn hi (by rw [ht]; intro u hu; obtain ⟨c, _, rfl⟩ := List.mem_map.1 hu; rfl)).mono ?_
    rintro e w' ⟨rfl, ⟨cur', hg', hs', ht'⟩, hu⟩
    have hl : (cs.take i ++ cs.drop (i + 1)).length = cs.length - 1 := by rw [List.length_append, List.length_take, List.length_drop, Nat.min_eq_left (by omega)]; omega
    refine ⟨_, rfl, ⟨by simp, .inr ⟨g, cap, cur', by rw [hl], hb, hg', by omega, hm, by omega, ?_⟩⟩, rfl, hu⟩
    rw [hl, ht', ht]
    have e1 : cur.toList.take (i * 1) = (cs.map pc).take i := by rw [← ht, List.take_take, Nat.min_eq_left (by omega), Nat.mul_one]
    rw [e1, Nat.mul_one, ← List.map_take, ← List.map_drop, ← List.map_append]
end Go.Proofs.Ytfddhdpnoliamaa
