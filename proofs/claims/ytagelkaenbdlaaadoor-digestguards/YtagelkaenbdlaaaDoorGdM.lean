/- The document's Summed: the texts that are summed on the way to a root. -/
import Derived.Test.YtagelkaenbdlaaaDoorGdS
import Derived.Test.YtagelkaenbdlaaaDoorPfX
namespace Go.Proofs.YtagelkaenbdlaaaDoor
open Go.RowKit

theorem tx_sub {w : World} {v : Value} {ss : List ByteArray} (h : Tx w v ss) : ss.length ≤ 4611686018427387904 := h.1
theorem scs_app (l m : List ByteArray) : scs (l ++ m) = scs l ++ scs m := by simp [scs]
theorem scs_one (l : List ByteArray) : ∀ u ∈ scs l, u.oneCell' = true := by
  intro u hu
  obtain ⟨x, _, rfl⟩ := List.mem_map.1 hu
  rfl
theorem scs_len (l : List ByteArray) : (scs l).length = l.length := by simp [scs]
/-- The cells of a row, as they are appended. -/
theorem own_news {w : World} {B g cap : Nat} {xs : List ByteArray} (h : w.ownsRow B 9 1 (.slice (some ⟨g, 0, none⟩) xs.length cap) xs.length (scs xs)) : ∀ (j : Nat) (u : Value), (scs xs)[j]? = some u → w.cell? ((⟨g, 0, none⟩ : Addr).add j) = some u := by
  intro j u hj
  have hjl : j < xs.length := by
    have := (List.getElem?_eq_some_iff.1 hj).1
    rwa [scs_len] at this
  rw [add0]
  exact (h.cellAt j (by omega)).trans hj

set_option maxHeartbeats 4000000 in
set_option maxRecDepth 100000 in
theorem Summed_any : ∀ (f : Nat) (g o cap : Nat) (ss : List ByteArray) (w : World), ss.length ≤ f → 0 < ss.length → ss.length ≤ 2000 → ss.length ≤ cap → (∀ s ∈ ss, s.size ≤ 100000) → Row w g o ss →
    Calls Tryd.prog 24 #[.slice (some ⟨g, o, none⟩) ss.length cap] w fun e w' => ∃ gg cc, e = .returned (.slice (some ⟨gg, 0, none⟩) (summedL ss).length cc) ∧ w'.ownsRow w.heap.size 9 1 (.slice (some ⟨gg, 0, none⟩) (summedL ss).length cc) (summedL ss).length (scs (summedL ss)) ∧ Below w.heap.size w w' := by
  intro f
  induction f with
  | zero => intro g o cap ss w h1 h2; omega
  | succ f ih =>
    intro g o cap ss w h1 h2 h3 h4 h5 h6
    have hg : g < w.heap.size := World.block_lt_of_cell? w ⟨g, o + 0, none⟩ (h6 0 (by omega))
    by_cases hone : ss.length = 1
    · match ss, hone with
      | [s], _ =>
        rw [summedL_one]
        have c0 : w.cell? ⟨g, o, none⟩ = some (.string s) := h6 0 (by simp)
        obtain ⟨y, hy⟩ : ∃ y : ByteArray, y = leafT s := ⟨_, rfl⟩
        have k1 := catS ⟨#[0]⟩ s y (by rw [hy]; rfl) (by have : (⟨#[0]⟩ : ByteArray).size = 1 := rfl; have := h5 s (by simp); omega)
        rw [← hy]
        have hcv2 : (convert 55 9 (.slice (some ⟨w.heap.size, 0, none⟩) 1 1)).run Tryd.prog (w.alloc (.cells #[.int .u8 0] 5)).drew = .ok (.string ⟨#[0]⟩) (w.alloc (.cells #[.int .u8 0] 5)).drew :=
          run_convert_bytes_back (w.alloc (.cells #[.int .u8 0] 5)).drew 55 9 5 ⟨w.heap.size, 0, none⟩ 1 [0] Tryd.underlying55 Tryd.underlying5 Tryd.underlying9 fun j hj => by
            rw [add0]
            match j, hj with
            | 0, _ => exact al_at w _ _ _ 0 _ rfl rfl
        have HS : Hid (∀ W, Below w.heap.size w W → W.cell? ⟨g, o, none⟩ = some (.string s)) := fun W hb => (hb.cell (p := ⟨g, o, none⟩) hg).trans c0
        clear ih h1 h2 h3 h4 h5 h6 hy c0
        go_enter Tryd.func24, Tryd.ntmps24
        go_wp2
        have hc1 := HS.out _ (bl_al (Below.refl _ _) (.cells #[.int .u8 0] 5)).drew
        have hc0 := HS.out _ (Below.refl _ _).drew
        go_region
        all_goals
          go_wp2
          go_ret
          refine ⟨_, _, rfl, ?_, (bl_al (bl_al (Below.refl _ _) _) _).drew⟩
          have h0 := ownRow_lit1 (w.alloc (.cells #[.int .u8 0] 5)) y
          rw [World.size_alloc] at h0
          exact own_down h0 (by omega)
    · obtain ⟨i0, hi, hz0, hz1, hz2⟩ := info_p infS
      have hl := side_lt ss.length (by omega)
      have hp := side_pos ss.length
      have HF : Hid (Calls Tryd.prog 45 #[.int .i64 ss.length] w fun e w' => e = .returned (.int .i64 (side ss.length : Nat)) ∧ w' = w) := Half_any ss.length w (by omega)
      have hsp := summedL_split ss (by omega)
      have hln := summedL_len _ ss (Nat.le_refl _) (by omega)
      generalize side ss.length = k at hl hp hsp HF
      have e1 : (ss.take k).length = k := by rw [List.length_take]; omega
      have e2 : (ss.drop k).length = ss.length - k := List.length_drop ..
      have hs0 := cut_front3 g o ss.length cap k (by omega) h4
      have hs2 := cut_back g o ss.length cap k hl h4
      have hn0 : ((ss.length : Int) == 0) = false := beq_eq_false_iff_ne.2 (by omega)
      have hn1 : ((ss.length : Int) == 1) = false := beq_eq_false_iff_ne.2 (by omega)
      have i1 : (0 : Int) ≤ (k : Int) := by omega
      have i2 : (k : Int) ≤ (ss.length : Int) := by omega
      have HA : Hid (∀ w', Below w.heap.size w w' → Calls Tryd.prog 24 #[.slice (some ⟨g, o, none⟩) k k] w' fun e w'' => ∃ gg cc, e = .returned (.slice (some ⟨gg, 0, none⟩) (summedL (ss.take k)).length cc) ∧ w''.ownsRow w.heap.size 9 1 (.slice (some ⟨gg, 0, none⟩) (summedL (ss.take k)).length cc) (summedL (ss.take k)).length (scs (summedL (ss.take k))) ∧ Below w'.heap.size w' w'') := fun w' hb => by
        have := ih g o k (ss.take k) w' (by omega) (by omega) (by omega) (by omega) (fun s hs => h5 s (List.mem_of_mem_take hs)) ((h6.take k).up hb hg)
        rw [e1] at this
        exact this.mono fun e w'' ⟨gg, cc, a, b, c⟩ => ⟨gg, cc, a, own_down b hb.size, c⟩
      have HB : Hid (∀ w', Below w.heap.size w w' → Calls Tryd.prog 24 #[.slice (some ⟨g, o + k, none⟩) (ss.length - k) (cap - k)] w' fun e w'' => ∃ gg cc, e = .returned (.slice (some ⟨gg, 0, none⟩) (summedL (ss.drop k)).length cc) ∧ w''.ownsRow w.heap.size 9 1 (.slice (some ⟨gg, 0, none⟩) (summedL (ss.drop k)).length cc) (summedL (ss.drop k)).length (scs (summedL (ss.drop k))) ∧ Below w'.heap.size w' w'') := fun w' hb => by
        have := ih g (o + k) (cap - k) (ss.drop k) w' (by omega) (by omega) (by omega) (by omega) (fun s hs => h5 s (List.mem_of_mem_drop hs)) ((h6.drop k).up hb hg)
        rw [e2] at this
        exact this.mono fun e w'' ⟨gg, cc, a, b, c⟩ => ⟨gg, cc, a, own_down b hb.size, c⟩
      have HR1 : Hid (∀ w', Below w.heap.size w w' → Calls Tryd.prog 14 #[.slice (some ⟨g, o, none⟩) k k] w' fun e w'' => e = .returned (.string (rootB (ss.take k))) ∧ Below w'.heap.size w' w'') := fun w' hb =>
        RootOf_any _ (ss.take k) w' ⟨by omega, Or.inr ⟨by omega, g, o, k, by rw [e1], by omega, (h6.take k).up hb hg⟩⟩ ⟨by omega, fun s hs => h5 s (List.mem_of_mem_take hs)⟩
      have HR2 : Hid (∀ w', Below w.heap.size w w' → Calls Tryd.prog 14 #[.slice (some ⟨g, o + k, none⟩) (ss.length - k) (cap - k)] w' fun e w'' => e = .returned (.string (rootB (ss.drop k))) ∧ Below w'.heap.size w' w'') := fun w' hb =>
        RootOf_any _ (ss.drop k) w' ⟨by omega, Or.inr ⟨by omega, g, o + k, cap - k, by rw [e2], by omega, (h6.drop k).up hb hg⟩⟩ ⟨by omega, fun s hs => h5 s (List.mem_of_mem_drop hs)⟩
      have HP : Hid (∀ w', Calls Tryd.prog 55 #[.string (rootB (ss.take k)), .string (rootB (ss.drop k))] w' fun e w'' => e = .returned (.string (ptB (rootB (ss.take k)) (rootB (ss.drop k)))) ∧ Below w'.heap.size w' w'') := fun w' => pairText_any _ _ w' (rootB_dig _) (rootB_dig _)
      have l1 := summedL_len _ (ss.take k) (Nat.le_refl _) (by omega)
      have l2 := summedL_len _ (ss.drop k) (Nat.le_refl _) (by omega)
      have hlen : (summedL ss).length = (summedL (ss.take k)).length + (summedL (ss.drop k)).length + 1 := by rw [hsp, List.length_append, List.length_append]; rfl
      rw [hlen, hsp, scs_snoc, scs_app]
      generalize ptB (rootB (ss.take k)) (rootB (ss.drop k)) = pt at HP
      generalize rootB (ss.take k) = r1 at HR1 HP
      generalize rootB (ss.drop k) = r2 at HR2 HP
      generalize summedL (ss.take k) = A1 at *
      generalize summedL (ss.drop k) = A2 at *
      have hone' : ∀ u ∈ [Value.string pt], u.oneCell' = true := by intro u hu; simp at hu; subst hu; rfl
      obtain ⟨m1, hm1⟩ : ∃ m1, A1.length = m1 := ⟨_, rfl⟩
      obtain ⟨m2, hm2⟩ : ∃ m2, A2.length = m2 := ⟨_, rfl⟩
      rw [hm1] at HA
      rw [hm2] at HB
      rw [hm1, hm2]
      have HM : Hid (A1.length = m1 ∧ A2.length = m2) := ⟨hm1, hm2⟩
      have b1 : m1 ≤ 4000 := by omega
      have b2 : m2 ≤ 4000 := by omega
      have b3 : 0 < m2 := by omega
      have q1 : m1 + m2 ≤ maxLen := by unfold maxLen; omega
      have q2 : (m1 + m2) * 16 ≤ 140737488355328 := by omega
      have q3 : m1 + m2 + 1 ≤ maxLen := by unfold maxLen; omega
      have q4 : (m1 + m2 + 1) * 16 ≤ 140737488355328 := by omega
      have hA2l : (scs A2).length = m2 * 1 := by rw [scs_len, hm2, Nat.mul_one]
      have hA2o := scs_one A2
      clear ih h1 h2 h3 h5 h6 hone e1 e2 hg hm1 hm2 hlen hsp hln l1 l2
      generalize ss.length = n at *
      go_enter Tryd.func24, Tryd.ntmps24
      go_wp2_with (go_at_call 45; refine HF.out.mono ?_; rintro e w' ⟨rfl, rfl⟩)
      go_region_held3 (fun W => Below w'.heap.size w' W)
        (first | assumption | (exact (Below.refl _ _).drew) | (exact (bl_tr (bl_tr (Below.refl _ _).drew hb1) hb2).grown hgrow (bl_tr (bl_tr (Below.refl _ _).drew hb1) hb2).size (fun j hj => (hown1.lt j hj).1)) | (exact bl_tr (by assumption) hb2) | (exact bl_tr (by assumption) hb1) | fail)
        (first
          | (go_at_call_of 24 (Value.slice (some ⟨g, o, none⟩) k k); refine (HA.out _ (by assumption)).mono ?_; rintro e w1 ⟨ga, ca, rfl, hown1, hb1⟩)
          | (go_at_call_of 24 (Value.slice (some ⟨g, o + k, none⟩) (n - k) (cap - k)); refine (HB.out _ (by assumption)).mono ?_; rintro e w2 ⟨gb, cb, rfl, hown2, hb2⟩)
          | ((refine step_append_lies w2 (by rfl) (Operand.tmp 26) (Operand.tmp 30) 25 (by rfl) w'.heap.size 9 i0 (.string ⟨#[]⟩) 1 16 Tryd.underlying25 hi hz0 hz1 hz2 rfl (by decide) (.slice (some ⟨ga, 0, none⟩) m1 ca) m1 (scs A1) (by rfl) (own_below hown1 hb2) ⟨gb, 0, none⟩ m2 cb (scs A2) (by rfl) hA2l (by have h8 := HM.out.2; subst h8; exact own_news hown2) hA2o b3 q1 q2 (bl_tr (bl_tr (Below.refl _ _).drew hb1) hb2).size w2.heap.size rfl ?_; intro g5 cap5 w5 hown5 hgrow hat hltg))
          | fail)
      all_goals
        have B3 : Hid (Below w'.heap.size w' w5) := by assumption
        have O3 : Hid (w5.ownsRow w'.heap.size 9 1 (.slice (some ⟨g5, 0, none⟩) (m1 + m2) cap5) (m1 + m2) (scs A1 ++ scs A2)) := hown5
        clear hown5 hown1 hown2 hb1 hb2 hgrow hat hltg
        go_wp2
        go_region_held3 (fun W => Below w'.heap.size w' W)
          (first | assumption | (exact B3.out.drew) | (exact (bl_al (bl_tr (bl_tr (bl_tr B3.out.drew hb6) hb7) hb8) _).grown hgrow9 (bl_al (bl_tr (bl_tr (bl_tr B3.out.drew hb6) hb7) hb8) _).size (fun j hj => (O3.out.lt j hj).1)) | (exact bl_tr (by assumption) hb8) | (exact bl_tr (by assumption) hb7) | (exact bl_tr (by assumption) hb6) | (exact bl_al (by assumption) _) | fail)
          (first
            | (go_at_call_of 14 (Value.slice (some ⟨g, o, none⟩) k k); refine (HR1.out _ (by assumption)).mono ?_; rintro e w6 ⟨rfl, hb6⟩)
            | (go_at_call_of 14 (Value.slice (some ⟨g, o + k, none⟩) (n - k) (cap - k)); refine (HR2.out _ (by assumption)).mono ?_; rintro e w7 ⟨rfl, hb7⟩)
            | (go_at_call 55; refine (HP.out _).mono ?_; rintro e w8 ⟨rfl, hb8⟩)
            | ((refine step_append_lies (w8.alloc (.cells #[.string pt] 9)) (by rfl) (Operand.tmp 32) (Operand.tmp 43) 25 (by rfl) w'.heap.size 9 i0 (.string ⟨#[]⟩) 1 16 Tryd.underlying25 hi hz0 hz1 hz2 rfl (by decide) (.slice (some ⟨g5, 0, none⟩) (m1 + m2) cap5) (m1 + m2) (scs A1 ++ scs A2) (by rfl) ((own_below (own_below (own_below O3.out.drew hb6) hb7) hb8).alloc _) ⟨w8.heap.size, 0, none⟩ 1 1 [.string pt] (by rfl) rfl (new_one w8 pt) hone' (by decide) q3 q4 (bl_al (bl_tr (bl_tr (bl_tr B3.out.drew hb6) hb7) hb8) _).size (w8.heap.size + 1) (by rw [World.size_alloc]) ?_; intro g9 cap9 w9 hown9 hgrow9 hat9 hltg9))
            | fail)
        all_goals
          have B9 : Hid (Below w'.heap.size w' w9) := by assumption
          have O9 : Hid (w9.ownsRow w'.heap.size 9 1 (.slice (some ⟨g9, 0, none⟩) (m1 + m2 + 1) cap9) (m1 + m2 + 1) (scs A1 ++ scs A2 ++ [.string pt])) := hown9
          clear hown9
          go_wp2
          go_ret
          exact ⟨_, _, rfl, O9.out, B9.out⟩
end Go.Proofs.YtagelkaenbdlaaaDoor
