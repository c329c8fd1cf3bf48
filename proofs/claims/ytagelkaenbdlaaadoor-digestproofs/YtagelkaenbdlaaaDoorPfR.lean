/- The document's own ProofOf. -/
import Derived.Test.YtagelkaenbdlaaaDoorPfX
namespace Go.Proofs.YtagelkaenbdlaaaDoor
open Go.RowKit

set_option maxHeartbeats 4000000 in
set_option maxRecDepth 100000 in
theorem ProofOf_any : ∀ (f : Nat) (g o cap : Nat) (ss : List ByteArray) (i : Nat) (w : World), ss.length ≤ f → i < ss.length → ss.length ≤ 2000 → ss.length ≤ cap → (∀ s ∈ ss, s.size ≤ 100000) → Row w g o ss →
    Calls Tryd.prog 17 #[.slice (some ⟨g, o, none⟩) ss.length cap, .int .i64 i] w fun e w' => ∃ v, e = .returned v ∧ w'.ownsRow w.heap.size 9 1 v (proofL ss i).length (scs (proofL ss i)) ∧ Below w.heap.size w w' := by
  intro f
  induction f with
  | zero => intro g o cap ss i w h1 h2; omega
  | succ f ih =>
    intro g o cap ss i w h1 h2 h3 h4 h5 h6
    have hg : g < w.heap.size := World.block_lt_of_cell? w ⟨g, o + 0, none⟩ (h6 0 (by omega))
    by_cases hone : ss.length = 1
    · have hB := proofL_one ss i (by omega)
      rw [hone, hB]
      clear ih h1 h2 h3 h4 h5 h6 hone hB
      go_enter Tryd.func17, Tryd.ntmps17
      go_wp2
      go_ret
      exact ⟨_, rfl, World.ownsRow_nil _ _ _ _, Below.refl _ _⟩
    · obtain ⟨i0, hi, hz0, hz1, hz2⟩ := info_p infS
      have hl := side_lt ss.length (by omega)
      have hp := side_pos ss.length
      have HF : Hid (Calls Tryd.prog 45 #[.int .i64 ss.length] w fun e w' => e = .returned (.int .i64 (side ss.length : Nat)) ∧ w' = w) := Half_any ss.length w (by omega)
      have hlo : i < side ss.length → proofL ss i = proofL (ss.take (side ss.length)) i ++ [rootB (ss.drop (side ss.length))] := proofL_lo ss i (by omega)
      have hhi : side ss.length ≤ i → proofL ss i = proofL (ss.drop (side ss.length)) (i - side ss.length) ++ [rootB (ss.take (side ss.length))] := proofL_hi ss i (by omega)
      have hpl := proofL_len _ ss i (Nat.le_refl _) (by omega)
      generalize side ss.length = k at hl hp hlo hhi HF
      have e1 : (ss.take k).length = k := by rw [List.length_take]; omega
      have e2 : (ss.drop k).length = ss.length - k := List.length_drop ..
      have hs0 := cut_front3 g o ss.length cap k (by omega) h4
      have hs1 := cut_front g o ss.length cap k (by omega) h4
      have hs2 := cut_back g o ss.length cap k hl h4
      have hn1 : ((ss.length : Int) == 1) = false := beq_eq_false_iff_ne.2 (by omega)
      have i1 : (0 : Int) ≤ (k : Int) := by omega
      have i2 : (k : Int) ≤ (ss.length : Int) := by omega
      by_cases hik : i < k
      · have hB := hlo hik
        have HP1 : Hid (∀ w', Below w.heap.size w w' → Calls Tryd.prog 17 #[.slice (some ⟨g, o, none⟩) k k, .int .i64 i] w' fun e w'' => ∃ v, e = .returned v ∧ w''.ownsRow w.heap.size 9 1 v (proofL (ss.take k) i).length (scs (proofL (ss.take k) i)) ∧ Below w'.heap.size w' w'') := fun w' hb => by
          have := ih g o k (ss.take k) i w' (by omega) (by omega) (by omega) (by omega) (fun s hs => h5 s (List.mem_of_mem_take hs)) ((h6.take k).up hb hg)
          rw [e1] at this
          exact this.mono fun e w'' ⟨v, a, b, c⟩ => ⟨v, a, own_down b hb.size, c⟩
        have HR2 : Hid (∀ w', Below w.heap.size w w' → Calls Tryd.prog 14 #[.slice (some ⟨g, o + k, none⟩) (ss.length - k) (cap - k)] w' fun e w'' => e = .returned (.string (rootB (ss.drop k))) ∧ Below w'.heap.size w' w'') := fun w' hb =>
          RootOf_any _ (ss.drop k) w' ⟨by omega, Or.inr ⟨by omega, g, o + k, cap - k, by rw [e2], by omega, (h6.drop k).up hb hg⟩⟩ ⟨by omega, fun s hs => h5 s (List.mem_of_mem_drop hs)⟩
        rw [hB, scs_snoc, List.length_append]
        rw [hB, List.length_append] at hpl
        simp only [List.length_cons, List.length_nil] at hpl ⊢
        generalize rootB (ss.drop k) = r at HR2
        generalize proofL (ss.take k) i = ps at HP1 hpl
        generalize hm : ps.length = m at *
        have q1 : m + 1 ≤ maxLen := by unfold maxLen; omega
        have q2 : (m + 1) * 16 ≤ 140737488355328 := by omega
        have hone' : ∀ u ∈ [Value.string r], u.oneCell' = true := by intro u hu; simp at hu; subst hu; rfl
        have hii : (i : Int) < (k : Int) := by omega
        clear ih h1 h2 h3 h5 h6 hone e1 e2 hg hlo hhi hB hm hs1
        generalize ss.length = n at *
        go_enter Tryd.func17, Tryd.ntmps17
        go_wp2_with (go_at_call 45; refine HF.out.mono ?_; rintro e w' ⟨rfl, rfl⟩)
        go_region_held3 (fun W => Below w'.heap.size w' W)
          (first | assumption | (exact (Below.refl _ _).drew) | (exact (bl_al (bl_tr (bl_tr (Below.refl _ _).drew hb1) hb2) _).grown hgrow (bl_al (bl_tr (bl_tr (Below.refl _ _).drew hb1) hb2) _).size (fun j hj => (hown1.lt j hj).1)) | (exact bl_tr (by assumption) hb2) | (exact bl_tr (by assumption) hb1) | (exact bl_al (by assumption) _) | fail)
          (first
            | (go_at_call 17; refine (HP1.out _ (by assumption)).mono ?_; rintro e w1 ⟨v1, rfl, hown1, hb1⟩)
            | (go_at_call 14; refine (HR2.out _ (by assumption)).mono ?_; rintro e w2 ⟨rfl, hb2⟩)
            | ((refine step_append_lies (w2.alloc (.cells #[.string r] 9)) (by rfl) (Operand.tmp 20) (Operand.tmp 25) 25 (by rfl) w'.heap.size 9 i0 (.string ⟨#[]⟩) 1 16 Tryd.underlying25 hi hz0 hz1 hz2 rfl (by decide) v1 m (scs ps) (by rfl) ((own_below hown1 hb2).alloc _) ⟨w2.heap.size, 0, none⟩ 1 1 [.string r] (by rfl) rfl (new_one w2 r) hone' (by decide) q1 q2 (bl_al (bl_tr (bl_tr (Below.refl _ _).drew hb1) hb2) _).size (w2.heap.size + 1) (by rw [World.size_alloc]) ?_; intro g5 cap5 w5 hown5 hgrow hat hltg))
            | fail)
        all_goals
          have B3 : Hid (Below w'.heap.size w' w5) := by assumption
          have O3 : Hid _ := hown5
          clear hown5
          go_wp2
          go_ret
          exact ⟨_, rfl, O3.out, B3.out⟩
      · have hB := hhi (by omega)
        have HP1 : Hid (∀ w', Below w.heap.size w w' → Calls Tryd.prog 17 #[.slice (some ⟨g, o + k, none⟩) (ss.length - k) (cap - k), .int .i64 ((i : Int) - (k : Int))] w' fun e w'' => ∃ v, e = .returned v ∧ w''.ownsRow w.heap.size 9 1 v (proofL (ss.drop k) (i - k)).length (scs (proofL (ss.drop k) (i - k))) ∧ Below w'.heap.size w' w'') := fun w' hb => by
          have := ih g (o + k) (cap - k) (ss.drop k) (i - k) w' (by omega) (by omega) (by omega) (by omega) (fun s hs => h5 s (List.mem_of_mem_drop hs)) ((h6.drop k).up hb hg)
          rw [e2, show ((i - k : Nat) : Int) = (i : Int) - (k : Int) from by omega] at this
          exact this.mono fun e w'' ⟨v, a, b, c⟩ => ⟨v, a, own_down b hb.size, c⟩
        have HR2 : Hid (∀ w', Below w.heap.size w w' → Calls Tryd.prog 14 #[.slice (some ⟨g, o, none⟩) k cap] w' fun e w'' => e = .returned (.string (rootB (ss.take k))) ∧ Below w'.heap.size w' w'') := fun w' hb =>
          RootOf_any _ (ss.take k) w' ⟨by omega, Or.inr ⟨by omega, g, o, cap, by rw [e1], by omega, (h6.take k).up hb hg⟩⟩ ⟨by omega, fun s hs => h5 s (List.mem_of_mem_take hs)⟩
        rw [hB, scs_snoc, List.length_append]
        rw [hB, List.length_append] at hpl
        simp only [List.length_cons, List.length_nil] at hpl ⊢
        generalize rootB (ss.take k) = r at HR2
        generalize proofL (ss.drop k) (i - k) = ps at HP1 hpl
        generalize hm : ps.length = m at *
        have q1 : m + 1 ≤ maxLen := by unfold maxLen; omega
        have q2 : (m + 1) * 16 ≤ 140737488355328 := by omega
        have hone' : ∀ u ∈ [Value.string r], u.oneCell' = true := by intro u hu; simp at hu; subst hu; rfl
        have hii : (k : Int) ≤ (i : Int) := by omega
        have hi2 : (i : Int) ≤ 2000 := by omega
        clear ih h1 h2 h3 h5 h6 hone e1 e2 hg hlo hhi hB hm hik hs0
        generalize ss.length = n at *
        go_enter Tryd.func17, Tryd.ntmps17
        go_wp2_with (go_at_call 45; refine HF.out.mono ?_; rintro e w' ⟨rfl, rfl⟩)
        have j1 : IntKind.i64.wrap ((i : Int) - (k : Int)) = (i : Int) - (k : Int) := by rw [IntKind.wrap_i64]; omega
        go_region_held3 (fun W => Below w'.heap.size w' W)
          (first | assumption | (exact (Below.refl _ _).drew) | (exact (bl_al (bl_tr (bl_tr (Below.refl _ _).drew hb1) hb2) _).grown hgrow (bl_al (bl_tr (bl_tr (Below.refl _ _).drew hb1) hb2) _).size (fun j hj => (hown1.lt j hj).1)) | (exact bl_tr (by assumption) hb2) | (exact bl_tr (by assumption) hb1) | (exact bl_al (by assumption) _) | fail)
          (first
            | (go_at_call 17; refine (HP1.out _ (by assumption)).mono ?_; rintro e w1 ⟨v1, rfl, hown1, hb1⟩)
            | (go_at_call 14; refine (HR2.out _ (by assumption)).mono ?_; rintro e w2 ⟨rfl, hb2⟩)
            | ((refine step_append_lies (w2.alloc (.cells #[.string r] 9)) (by rfl) (Operand.tmp 33) (Operand.tmp 38) 25 (by rfl) w'.heap.size 9 i0 (.string ⟨#[]⟩) 1 16 Tryd.underlying25 hi hz0 hz1 hz2 rfl (by decide) v1 m (scs ps) (by rfl) ((own_below hown1 hb2).alloc _) ⟨w2.heap.size, 0, none⟩ 1 1 [.string r] (by rfl) rfl (new_one w2 r) hone' (by decide) q1 q2 (bl_al (bl_tr (bl_tr (Below.refl _ _).drew hb1) hb2) _).size (w2.heap.size + 1) (by rw [World.size_alloc]) ?_; intro g5 cap5 w5 hown5 hgrow hat hltg))
            | fail)
        all_goals
          have B3 : Hid (Below w'.heap.size w' w5) := by assumption
          have O3 : Hid _ := hown5
          clear hown5
          go_wp2
          go_ret
          exact ⟨_, rfl, O3.out, B3.out⟩
end Go.Proofs.YtagelkaenbdlaaaDoor
