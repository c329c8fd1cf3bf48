/- The document's CheckCommand. -/
import Derived.Test.YtcpomkgfcpfedaaGreatDoorSbQ
import Derived.Test.YtcpomkgfcpfedaaGreatDoorRefTexts
namespace Go.Proofs.YtcpomkgfcpfedaaGreatDoor
open Go.RowKit Go.Shelf

theorem rig_lin (n : Nat) (s : List UInt8) : (linF n s).isSome = rigF n s := linF_rig n s
theorem TxAt.texts {w : World} {ao : Option Addr} {ss : List ByteArray} (h : TxAt w ao ss) (cap : Nat) (hn : ss.length ≤ 4611686018427387904) : IsTexts w (.slice ao ss.length cap) ss := by
  refine ⟨hn, ao, cap, rfl, ?_⟩
  rcases h with h | ⟨g, o, e, _, hc⟩
  · exact .inl h
  · exact .inr ⟨g, o, e, hc⟩

set_option maxHeartbeats 2000000 in
set_option maxRecDepth 100000 in
theorem CheckCommand_any (ao : Option Addr) (cap : Nat) (ss : List ByteArray) (w : World) (h : TxAt w ao ss) (hlen : ss.length ≤ 4611686018427387904) :
    Calls Tryz.prog 5 #[.slice ao ss.length cap] w fun e w' => e = .returned (.tuple #[.int .i64 ((chkF ss).1 : Int), .int .i64 ((chkF ss).2 : Int)]) ∧ Below w.heap.size w w' := by
  by_cases hok : okList 60 ss
  · have HCL : Hid (Calls Tryz.prog 8 #[.slice ao ss.length cap, .int .i64 (60 : Int)] w fun e w' => e = .returned (.int .i64 0) ∧ w' = w) := (cl_any 60 _ ss w (h.texts cap hlen)).1 hok
    have HE : Hid (chkF ss = match badF ss.length ss with | some i => (i, 1) | none => (0, 0)) := by
      have hno : ¬ (60 < ss.length ∨ ∃ s ∈ ss, 100000 < s.size) := by
        rintro (h1 | ⟨s, h1, h2⟩)
        · have := hok.1; omega
        · have := hok.2 s h1; omega
      show _ = _
      unfold chkF
      rw [if_neg hno]
      rfl
    have HS : Hid (∀ s ∈ ss, s.size ≤ 100000) := hok.2
    have HT : Hid (TxAt w ao ss) := h
    have HN : Hid (ss.length ≤ 60) := hok.1
    obtain ⟨c1, c2, hch⟩ : ∃ c1 c2 : Nat, chkF ss = (c1, c2) := ⟨_, _, rfl⟩
    have HCH : Hid (chkF ss = (c1, c2)) := hch
    have hli : (ss.length : Int) ≤ 9223372036854775807 := by have := hok.1; omega
    rw [hch]
    simp only
    clear hok h hlen hch
    go_enter Tryz.func5, Tryz.ntmps5
    go_wp2_with (first
      | (go_at_call 8; refine HCL.out.mono ?_; rintro e w1 ⟨rfl, hw⟩; subst w1)
      | go_in)
    go_loopw [5] (fun v wr => ∃ k : Nat, k ≤ ss.length ∧ v = .int .i64 (k : Int) ∧ Hid (Below w.heap.size w wr ∧ ∀ j (hj : j < ss.length), j < k → (linF ss.length ss[j].data.toList).isSome = true)) (fun v _ => ss.length - (intOf v).toNat)
    case atStart => exact ⟨0, by omega, rfl, Below.refl _ _, fun j _ hj => absurd hj (by omega)⟩
    case round =>
      obtain ⟨k, hk, rfl, HI⟩ := hrel
      by_cases hkl : k < ss.length
      · rcases HT.out.below HI.out.1 with h0 | ⟨g, o, rfl, hg, hc⟩
        · exfalso; rw [h0] at hkl; exact absurd hkl (by simp)
        have cs := hc k hkl
        obtain ⟨s, hs⟩ : ∃ s, ss[k] = s := ⟨_, rfl⟩
        rw [hs] at cs
        have hki : (k : Int) < (ss.length : Int) := by omega
        have hR := RightLine_any ss.length s wr (by rw [← hs]; exact HS.out _ (List.getElem_mem hkl))
        cases hr : rigF ss.length s.data.toList with
        | false =>
          rw [hr] at hR
          have HR : Hid (Calls Tryz.prog 9 #[.string s, .int .i64 (ss.length : Int)] wr fun e w' => e = .returned (.bool false) ∧ Hid (Below wr.heap.size wr w')) := hR
          have HB2 : Hid (c1 = k ∧ c2 = 1) := by
            have hnone : linF ss.length ss[k].data.toList = none := by
              have h1 := rig_lin ss.length s.data.toList
              rw [hr] at h1
              rw [hs]
              cases h2 : linF ss.length s.data.toList with
              | none => rfl
              | some l => rw [h2] at h1; cases h1
            have h1 := bad_some hkl HI.out.2 hnone
            have h2 := HE.out
            rw [h1, HCH.out] at h2
            injection h2 with h2 h3
            exact ⟨h2, h3⟩
          obtain ⟨rfl, rfl⟩ := HB2.out
          clear hR hr hs hc
          go_wp2_with (first
            | (go_at_call 9; refine HR.out.mono ?_; rintro e w3 ⟨rfl, HB3⟩)
            | go_in)
          go_ret2
          exact ⟨rfl, below_low HI.out.1 HB3.out HI.out.1.size⟩
        | true =>
          rw [hr] at hR
          have HR : Hid (Calls Tryz.prog 9 #[.string s, .int .i64 (ss.length : Int)] wr fun e w' => e = .returned (.bool true) ∧ Hid (Below wr.heap.size wr w')) := hR
          have HSO : Hid (∀ j (hj : j < ss.length), j < k + 1 → (linF ss.length ss[j].data.toList).isSome = true) := by
            intro j hj hjk
            by_cases e : j = k
            · subst e
              rw [hs, rig_lin, hr]
            · exact HI.out.2 j hj (by omega)
          clear hR hr hs hc
          go_wp2_with (first
            | (go_at_call 9; refine HR.out.mono ?_; rintro e w3 ⟨rfl, HB3⟩)
            | go_in)
          refine ⟨⟨k + 1, by omega, by go_num, below_low HI.out.1 HB3.out HI.out.1.size, HSO.out⟩, by simp [intOf]; omega⟩
      · obtain rfl : k = ss.length := by omega
        have hki : ¬ (ss.length : Int) < (ss.length : Int) := by omega
        have HB2 : Hid (c1 = 0 ∧ c2 = 0) := by
          have h1 := bad_none (fun j hj => HI.out.2 j hj hj)
          have h2 := HE.out
          rw [h1, HCH.out] at h2
          injection h2 with h2 h3
          exact ⟨h2, h3⟩
        obtain ⟨rfl, rfl⟩ := HB2.out
        go_wp2
        go_ret2
        exact ⟨rfl, HI.out.1⟩
  · have HCL : Hid (Calls Tryz.prog 8 #[.slice ao ss.length cap, .int .i64 (60 : Int)] w fun e w' => e = .returned (.int .i64 2) ∧ w' = w) := (cl_any 60 _ ss w (h.texts cap hlen)).2 hok
    have he : chkF ss = (0, 2) := by
      have hyes : 60 < ss.length ∨ ∃ s ∈ ss, 100000 < s.size := by
        by_cases h1 : 60 < ss.length
        · exact .inl h1
        · refine .inr (Classical.byContradiction fun hne => hok ⟨by omega, fun s hs => Nat.le_of_not_lt fun h2 => hne ⟨s, hs, h2⟩⟩)
      unfold chkF
      rw [if_pos hyes]
    rw [he]
    clear he hok h hlen
    generalize ss.length = n at *
    go_enter Tryz.func5, Tryz.ntmps5
    go_wp2_with (first
      | (go_at_call 8; refine HCL.out.mono ?_; rintro e w1 ⟨rfl, hw⟩; subst w1)
      | go_in)
    go_ret2
    exact ⟨rfl, Below.refl _ _⟩
end Go.Proofs.YtcpomkgfcpfedaaGreatDoor
