/- The program's proofSize, shownRoot and Shows. -/
import Derived.Test.YtagelkaenbdlaaaDoorShP
namespace Go.Proofs.YtagelkaenbdlaaaDoor
open Go.RowKit

set_option maxHeartbeats 2000000 in
theorem proofSize_any (i n : Nat) (w : World) (hn : n ≤ 2000) (h0 : 0 < n) (hi : i < n) :
    Calls Tryd.prog 50 #[.int .i64 i, .int .i64 n] w fun e w' => e = .returned (.int .i64 (sidesL i n).length) ∧ w' = w := by
  have hlen := sidesL_len _ i n (Nat.le_refl _) h0
  obtain ⟨T, hT⟩ : ∃ T, T = (sidesL i n).length := ⟨_, rfl⟩
  rw [← hT]
  rw [← hT] at hlen
  have HT : Hid (T = (sidesL i n).length) := hT
  clear hT
  go_enter Tryd.func50, Tryd.ntmps50
  go_wp2
  go_loop [0, 1, 5] (fun a b s => ∃ i' n' k : Nat, a = .int .i64 i' ∧ b = .int .i64 n' ∧ s = .int .i64 k ∧ i' < n' ∧ n' ≤ 2000 ∧ k ≤ 2000 ∧ Hid (T = k + (sidesL i' n').length)) (fun _ b _ => (intOf b).toNat)
  case atStart => exact ⟨i, n, 0, rfl, rfl, rfl, hi, hn, by omega, by show _ = _; rw [Nat.zero_add]; exact HT.out⟩
  case round =>
    obtain ⟨i', n', k, rfl, rfl, rfl, hi', hn', hk, HK⟩ := hrel
    clear HT hi h0
    by_cases h1 : n' ≤ 1
    · have h1i : (n' : Int) ≤ 1 := by omega
      have e : T = k := by have := HK.out; rw [sidesL_one i' n' h1] at this; simpa using this
      subst e
      go_wp2
      go_ret
      exact ⟨rfl, rfl⟩
    · have hl := side_lt n' (by omega)
      have hp := side_pos n'
      have h1i : (1 : Int) < (n' : Int) := by omega
      have hkk : k + 1 ≤ 2000 := by
        have := HK.out
        by_cases h : i' < side n'
        · rw [sidesL_lo i' n' (by omega) h, List.length_cons] at this; omega
        · rw [sidesL_hi i' n' (by omega) (by omega), List.length_cons] at this; omega
      have HF : Hid (Calls Tryd.prog 64 #[.int .i64 n'] w fun e w' => e = .returned (.int .i64 (side n' : Nat)) ∧ w' = w) := firstSide_any n' w (by omega)
      have hlo : i' < side n' → Hid (T = (k + 1) + (sidesL i' (side n')).length) := fun h => by
        show _ = _
        have := HK.out
        rw [sidesL_lo i' n' (by omega) h, List.length_cons] at this; omega
      have hhi : side n' ≤ i' → Hid (T = (k + 1) + (sidesL (i' - side n') (n' - side n')).length) := fun h => by
        show _ = _
        have := HK.out
        rw [sidesL_hi i' n' (by omega) h, List.length_cons] at this; omega
      generalize side n' = d at hl hp HF hlo hhi
      by_cases hd : i' < d
      · have HL := hlo hd
        have hdi : (i' : Int) < (d : Int) := by omega
        clear hlo hhi HK
        go_wp2_with (go_at_call 64; refine HF.out.mono ?_; rintro e w' ⟨rfl, rfl⟩)
        refine ⟨⟨i', d, k + 1, rfl, rfl, by go_num, hd, by omega, by omega, HL⟩, by simp [intOf]; omega⟩
      · have HL := hhi (by omega)
        have hdi : (d : Int) ≤ (i' : Int) := by omega
        clear hlo hhi HK
        go_wp2_with (go_at_call 64; refine HF.out.mono ?_; rintro e w' ⟨rfl, rfl⟩)
        refine ⟨⟨i' - d, n' - d, k + 1, by go_num, by go_num, by go_num, by omega, by omega, by omega, HL⟩, by simp [intOf]; omega⟩

/-- A slice of texts that has at least one: its last one, and those ahead. -/
theorem list_last (ps : List ByteArray) (h : 0 < ps.length) : ∃ qs q, ps = qs ++ [q] ∧ qs.length + 1 = ps.length := by
  refine ⟨ps.dropLast, ps.getLast (by intro e; rw [e] at h; cases h), ?_, ?_⟩
  · rw [List.dropLast_concat_getLast]
  · rw [List.length_dropLast]; omega

set_option maxHeartbeats 4000000 in
set_option maxRecDepth 100000 in
theorem shownRoot_any : ∀ (f : Nat) (t : ByteArray) (i n : Nat) (v : Value) (ps : List ByteArray) (w : World), n ≤ f → i < n → n ≤ 2000 → t.size ≤ 100000 → Tx w v ps → (∀ p ∈ ps, digOk p = true) → ps.length = (sidesL i n).length → Roots w →
    Calls Tryd.prog 51 #[.string t, .int .i64 i, .int .i64 n, v] w fun e w' => e = .returned (.string (shownB t i n ps)) ∧ Below w.heap.size w w' := by
  intro f
  induction f with
  | zero => intro t i n v ps w h1 h2; omega
  | succ f ih =>
    intro t i n v ps w h1 h2 h3 h4 h5 h6 h7 h8
    by_cases hone : n = 1
    · subst hone
      have hB := shown_one t i 1 ps (by omega)
      have HL : Hid (Calls Tryd.prog 63 #[.string t] w fun e w' => e = .returned (.string (shownB t i 1 ps)) ∧ Below w.heap.size w w') := by rw [hB]; exact leaf_any t w (by omega) h8
      obtain ⟨a, cap, rfl⟩ := h5.shape
      generalize shownB t i 1 ps = y at HL
      clear ih h1 h2 h3 h4 h5 h6 h7 h8 hB
      go_enter Tryd.func51, Tryd.ntmps51
      go_wp2_with fail
      refine HL.out.mono ?_
      rintro e w1 ⟨rfl, hb1⟩
      have B1 : Hid (Below w.heap.size w w1) := hb1
      clear hb1
      go_wp2
      go_ret
      exact ⟨rfl, B1.out⟩
    · have hl := side_lt n (by omega)
      have hp := side_pos n
      have HF : Hid (∀ W, Calls Tryd.prog 64 #[.int .i64 n] W fun e w' => e = .returned (.int .i64 (side n : Nat)) ∧ w' = W) := fun W => firstSide_any n W (by omega)
      have hps : 0 < ps.length := by
        by_cases h : i < side n
        · rw [sidesL_lo i n (by omega) h, List.length_cons] at h7; omega
        · rw [sidesL_hi i n (by omega) (by omega), List.length_cons] at h7; omega
      obtain ⟨qs, q, rfl, hq⟩ := list_last ps hps
      have hdq : digOk q = true := h6 q (by simp)
      have hdqs : ∀ p ∈ qs, digOk p = true := fun p hp => h6 p (by simp [hp])
      rcases h5.2 with ⟨he, _⟩ | ⟨h0, g, o, cap, rfl, hc, hrow⟩
      · rw [he] at hps; cases hps
      · have hgl : g < w.heap.size := World.block_lt_of_cell? w ⟨g, o + 0, none⟩ (hrow 0 h0)
        have c1 : w.cell? ⟨g, o + qs.length, none⟩ = some (.string q) := by
          have := hrow qs.length (by omega)
          rw [this]
          simp
        have hT : ∀ w', Below w.heap.size w w' → Tx w' (.slice (some ⟨g, o, none⟩) qs.length cap) qs := fun w' hb => by
          refine ⟨by have := h5.1; omega, ?_⟩
          by_cases hz : qs.length = 0
          · have : qs = [] := List.length_eq_zero_iff.1 hz
            subst this
            exact Or.inl ⟨rfl, _, cap, rfl⟩
          · refine Or.inr ⟨by omega, g, o, cap, rfl, by omega, ?_⟩
            have := (hrow.take qs.length).up hb hgl
            rwa [List.take_left' rfl] at this
        have hs1 := cut_front g o (qs ++ [q]).length cap qs.length (by omega) hc
        have hm : (qs ++ [q]).length = qs.length + 1 := by omega
        rw [hm] at hs1 ⊢
        have hml : qs.length ≤ 4611686018427387904 := by have := h5.1; omega
        by_cases hik : i < side n
        · have hq2 : qs.length = (sidesL i (side n)).length := by
            rw [sidesL_lo i n (by omega) hik, List.length_cons] at h7; omega
          have hB := shown_lo t i n qs q (by omega) hik hq2
          have HS : Hid (∀ w', Below w.heap.size w w' → Calls Tryd.prog 51 #[.string t, .int .i64 i, .int .i64 (side n : Nat), .slice (some ⟨g, o, none⟩) qs.length cap] w' fun e w'' => e = .returned (.string (shownB t i (side n) qs)) ∧ Below w'.heap.size w' w'') := fun w' hb =>
            ih t i (side n) _ qs w' (by omega) hik (by omega) h4 (hT w' hb) hdqs hq2 (h8.up hb)
          have HP : Hid (∀ w', Below w.heap.size w w' → Calls Tryd.prog 56 #[.string (shownB t i (side n) qs), .string q] w' fun e w'' => e = .returned (.string (shownB t i n (qs ++ [q]))) ∧ Below w'.heap.size w' w'') := fun w' hb => by
            rw [hB]
            exact pair_any _ _ w' (dig_size (shown_dig _ _ _ _)) (dig_size hdq) (h8.up hb)
          generalize shownB t i n (qs ++ [q]) = r at HP
          generalize shownB t i (side n) qs = r1 at HP HS
          generalize side n = k at *
          generalize qs.length = m at *
          have hn1 : ((n : Int) == 1) = false := beq_eq_false_iff_ne.2 (by omega)
          have hki : (i : Int) < (k : Int) := by omega
          have j0 : (((m + 1 : Nat) : Int) - 1) = (m : Int) := by omega
          have j1 : IntKind.i64.wrap (((m + 1 : Nat) : Int) - 1) = (m : Int) := by rw [IntKind.wrap_i64]; omega
          have j2 : (0 : Int) ≤ (m : Int) := by omega
          have j3 : (m : Int) < ((m + 1 : Nat) : Int) := by omega
          clear ih h1 h2 h3 h4 h5 h6 h7 h8 hone hps hq hdq hdqs hrow hgl hT hm hq2 hB hl hp h0
          go_enter Tryd.func51, Tryd.ntmps51
          go_wp2
          go_region
          all_goals
            go_wp2_with fail
            refine (HF.out _).mono ?_
            rintro e w' ⟨rfl, rfl⟩
            go_wp2_with fail
            refine (HS.out _ (Below.refl _ _).drew).mono ?_
            rintro e w1 ⟨rfl, hb1⟩
            have B1 : Hid (Below w.heap.size w w1) := bl_tr (Below.refl _ _).drew hb1
            clear hb1
            go_wp2_with fail
            refine (HP.out _ B1.out).mono ?_
            rintro e w2 ⟨rfl, hb2⟩
            have B2 : Hid (Below w.heap.size w w2) := bl_tr B1.out hb2
            clear hb2
            go_wp2
            go_ret
            exact ⟨rfl, B2.out⟩
        · have hq2 : qs.length = (sidesL (i - side n) (n - side n)).length := by
            rw [sidesL_hi i n (by omega) (by omega), List.length_cons] at h7; omega
          have hB := shown_hi t i n qs q (by omega) (by omega) hq2
          have HS : Hid (∀ w', Below w.heap.size w w' → Calls Tryd.prog 51 #[.string t, .int .i64 ((i : Int) - (side n : Nat)), .int .i64 ((n : Int) - (side n : Nat)), .slice (some ⟨g, o, none⟩) qs.length cap] w' fun e w'' => e = .returned (.string (shownB t (i - side n) (n - side n) qs)) ∧ Below w'.heap.size w' w'') := fun w' hb => by
            have := ih t (i - side n) (n - side n) _ qs w' (by omega) (by omega) (by omega) h4 (hT w' hb) hdqs hq2 (h8.up hb)
            rwa [show ((i - side n : Nat) : Int) = (i : Int) - (side n : Nat) from by omega, show ((n - side n : Nat) : Int) = (n : Int) - (side n : Nat) from by omega] at this
          have HP : Hid (∀ w', Below w.heap.size w w' → Calls Tryd.prog 56 #[.string q, .string (shownB t (i - side n) (n - side n) qs)] w' fun e w'' => e = .returned (.string (shownB t i n (qs ++ [q]))) ∧ Below w'.heap.size w' w'') := fun w' hb => by
            rw [hB]
            exact pair_any _ _ w' (dig_size hdq) (dig_size (shown_dig _ _ _ _)) (h8.up hb)
          generalize shownB t i n (qs ++ [q]) = r at HP
          generalize shownB t (i - side n) (n - side n) qs = r1 at HP HS
          generalize side n = k at *
          generalize qs.length = m at *
          have hn1 : ((n : Int) == 1) = false := beq_eq_false_iff_ne.2 (by omega)
          have hki : (k : Int) ≤ (i : Int) := by omega
          have hii : (i : Int) < (n : Int) := by omega
          have hni : (n : Int) ≤ 2000 := by omega
          have j0 : (((m + 1 : Nat) : Int) - 1) = (m : Int) := by omega
          have j1 : IntKind.i64.wrap (((m + 1 : Nat) : Int) - 1) = (m : Int) := by rw [IntKind.wrap_i64]; omega
          have j2 : (0 : Int) ≤ (m : Int) := by omega
          have j3 : (m : Int) < ((m + 1 : Nat) : Int) := by omega
          clear ih h1 h2 h3 h4 h5 h6 h7 h8 hone hps hq hdq hdqs hrow hgl hT hm hq2 hB hl hp h0 hik
          go_enter Tryd.func51, Tryd.ntmps51
          go_wp2
          go_region
          all_goals
            go_wp2_with fail
            refine (HF.out _).mono ?_
            rintro e w' ⟨rfl, rfl⟩
            go_wp2_with fail
            refine (HS.out _ (Below.refl _ _).drew).mono ?_
            rintro e w1 ⟨rfl, hb1⟩
            have B1 : Hid (Below w.heap.size w w1) := bl_tr (Below.refl _ _).drew hb1
            clear hb1
            go_wp2_with fail
            refine (HP.out _ B1.out).mono ?_
            rintro e w2 ⟨rfl, hb2⟩
            have B2 : Hid (Below w.heap.size w w2) := bl_tr B1.out hb2
            clear hb2
            go_wp2
            go_ret
            exact ⟨rfl, B2.out⟩
end Go.Proofs.YtagelkaenbdlaaaDoor
