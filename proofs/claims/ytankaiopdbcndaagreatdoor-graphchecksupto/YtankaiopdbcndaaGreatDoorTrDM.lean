/- The document's CheckTree. -/
import Derived.Test.YtankaiopdbcndaaGreatDoorTc7
import Derived.Deep.QuietTactic
import Derived.BigQuiet
import Derived.BigRegion
namespace Go.Proofs.YtankaiopdbcndaaGreatDoor
open Go.RowKit Go.Shelf Go.Maps Go.WideMaps

/-- Two files may be in one tree, the one ahead of the other. -/
def fit2 (f g : Fl) : Prop := pth f < pth g ∧ inB g.pa f.pa = false ∧ inB f.pa g.pa = false
theorem inB_selfD (p : ByteArray) : inB p p = false := by unfold inB; simp
theorem fit_iff (L : List Fl) : (L.Pairwise fit2) ↔ (upF L && !thruF L L) = true := by
  rw [Bool.and_eq_true, Bool.not_eq_true']
  constructor
  · intro h
    refine ⟨decide_eq_true (h.imp fun hh => hh.1), ?_⟩
    unfold thruF
    rw [List.any_eq_false]
    intro f hf
    rw [Bool.not_eq_true, List.any_eq_false]
    intro g hg
    obtain ⟨i, hi, rfl⟩ := List.getElem_of_mem hf
    obtain ⟨j, hj, rfl⟩ := List.getElem_of_mem hg
    have hp := List.pairwise_iff_getElem.1 h
    rcases Nat.lt_trichotomy i j with hij | hij | hij
    · rw [(hp i j hi hj hij).2.2]; decide
    · subst hij; rw [inB_selfD]; decide
    · rw [(hp j i hj hi hij).2.1]; decide
  · rintro ⟨h1, h2⟩
    have h3 := up_pw h1
    unfold thruF at h2
    rw [List.any_eq_false] at h2
    rw [List.pairwise_iff_getElem] at h3 ⊢
    intro i j hi hj hij
    refine ⟨h3 i j hi hj hij, ?_, ?_⟩
    · have := h2 L[j] (List.getElem_mem hj)
      rw [Bool.not_eq_true, List.any_eq_false] at this
      simpa using this L[i] (List.getElem_mem hi)
    · have := h2 L[i] (List.getElem_mem hi)
      rw [Bool.not_eq_true, List.any_eq_false] at this
      simpa using this L[j] (List.getElem_mem hj)

set_option maxHeartbeats 2000000 in
set_option maxRecDepth 100000 in
theorem RCheck_many (ao : Option Addr) (n cap : Nat) (w : World) (hn : 60 < n) :
    Calls Tryz.prog 43 #[.slice ao n cap] w fun e w' => e = .returned (.int .i64 2) ∧ Below w.heap.size w w' := by
  have hn1 : 60 < (n : Int) := by omega
  clear hn
  go_enter Tryz.func43, Tryz.ntmps43
  go_wp2
  go_ret
  exact ⟨rfl, Below.refl _ _⟩

set_option maxHeartbeats 8000000 in
set_option maxRecDepth 100000 in
theorem RCheck_few (ao : Option Addr) (cap : Nat) (L : List Fl) (w : World) (hn : L.length ≤ 60) (hl : IsFl w ao L) :
    Calls Tryz.prog 43 #[.slice ao L.length cap] w fun e w' => e = .returned (.int .i64 (chF L)) ∧ Below w.heap.size w w' := by
  have HL : Hid (IsFl w ao L) := hl
  have HN : Hid (L.length ≤ 60) := hn
  have hn1 : (L.length : Int) ≤ 60 := by omega
  clear hl hn
  go_enter Tryz.func43, Tryz.ntmps43
  go_wp2
  go_loopw [3] (fun i wr => ∃ k : Nat, k ≤ L.length ∧ i = .int .i64 k ∧ (∀ j, (hj : j < L.length) → j < k → flE L[j] = 0) ∧ Below w.heap.size w wr) (fun i _ => L.length - (intOf i).toNat)
  case atStart => exact ⟨0, by omega, rfl, by omega, Below.refl _ _⟩
  case round =>
    obtain ⟨k, hk, rfl, hlo, hb⟩ := hrel
    have HO : Hid (∀ j, (hj : j < L.length) → j < k → flE L[j] = 0) := hlo
    have HB : Hid (Below w.heap.size w wr) := hb
    have hsz := hb.size
    have HLB : Hid (IsFl wr ao L) := HL.out.below hb (Nat.le_refl _)
    clear hlo
    by_cases hlt : k < L.length
    · rcases HLB.out with h | ⟨g, o, rfl, hgr, hc⟩
      · exfalso; rw [h] at hlt; exact absurd hlt (by simp)
      obtain ⟨c0, c1, c2⟩ := hc k hlt
      have HQ : Hid (flE L[k] ≠ 0 → chF L = flE L[k]) := fun hne => by
        have h1 := flEs_no L k hlt (fun j hj hjk => HO.out j hj hjk) hne
        unfold chF
        have := HN.out
        rw [if_neg (by omega), h1, if_neg hne]
      clear hc hb HLB
      generalize hx : L[k] = x at c0 c1 c2 HQ
      have HK : Hid (L[k] = x) := hx
      clear hx
      obtain ⟨p, t, r⟩ := x
      simp only at c0 c1 c2
      have HP : Hid (∀ W, Calls Tryz.prog 45 #[.string p] W fun e w' => e = .returned (.bool (pathOk p)) ∧ Below W.heap.size W w') := fun W => RIsPath_any p W
      by_cases hp : pathOk p = true
      · rw [hp] at HP
        by_cases h2 : 100000 < t.size
        · have HE : Hid (flE ⟨p, t, r⟩ = 2) := by
            show _ = _
            unfold flE
            rw [if_neg (by rw [hp]; decide), if_pos h2]
          have h3 : (100000 : Int) < (t.size : Int) := by omega
          clear hp h2
          go_wp2_with fail
          refine (HP.out _).mono ?_
          rintro e w1 ⟨rfl, hb1⟩
          have d1 := (hb1.cell (p := ⟨g, o + k * 3 + 1, none⟩) (by show g < _; omega)).trans c1
          have HB1 : Hid (Below w.heap.size w w1) := HB.out.trans (hb1.mono hsz)
          clear hb1
          go_wp2
          go_ret
          exact ⟨by rw [HQ.out (by rw [HE.out]; decide), HE.out]; rfl, HB1.out⟩
        · have HE : Hid (flE ⟨p, t, r⟩ = 0) := by
            show _ = _
            unfold flE
            rw [if_neg (by rw [hp]; decide), if_neg h2]
          have h3 : ¬ (100000 : Int) < (t.size : Int) := by omega
          clear hp h2
          go_wp2_with fail
          refine (HP.out _).mono ?_
          rintro e w1 ⟨rfl, hb1⟩
          have d1 := (hb1.cell (p := ⟨g, o + k * 3 + 1, none⟩) (by show g < _; omega)).trans c1
          have HB1 : Hid (Below w.heap.size w w1) := HB.out.trans (hb1.mono hsz)
          clear hb1
          go_wp2
          refine ⟨⟨k + 1, by omega, by go_num, fun j hj hjk => ?_, HB1.out⟩, by simp [intOf]; omega⟩
          by_cases h : j < k
          · exact HO.out j hj h
          · obtain rfl : j = k := by omega
            rw [HK.out]
            exact HE.out
      · have hp' : pathOk p = false := by simpa using hp
        rw [hp'] at HP
        have HE : Hid (flE ⟨p, t, r⟩ = 1) := by
          show _ = _
          unfold flE
          rw [if_pos hp']
        clear hp hp'
        go_wp2_with fail
        refine (HP.out _).mono ?_
        rintro e w1 ⟨rfl, hb1⟩
        have HB1 : Hid (Below w.heap.size w w1) := HB.out.trans (hb1.mono hsz)
        clear hb1
        go_wp2
        go_ret
        exact ⟨by rw [HQ.out (by rw [HE.out]; decide), HE.out]; rfl, HB1.out⟩
    · have h0 : flEs L = 0 := flEs_yes L fun j hj => HO.out j hj (by omega)
      have hN := HN.out
      have hki : ¬ (k : Int) < (L.length : Int) := by omega
      have HV : Hid (chF L = if (upF L && !thruF L L) = true then 0 else 6) := by
        show _ = _
        unfold chF
        rw [if_neg (by omega), if_pos h0]
      have HI : Hid (∀ (x y : ByteArray) (W : World), Calls Tryz.prog 70 #[.string x, .string y] W fun e w' => e = .returned (.bool (inB y x)) ∧ w' = W) := fun x y W => RIsInside_any y x W
      have HS : Hid (∀ i j, (hi : i < L.length) → (hj : j < L.length) → j < i → ¬ fit2 L[j] L[i] → chF L = 6) := fun i j hi hj hij hno => by
        rw [HV.out, if_neg]
        intro h
        exact hno (List.pairwise_iff_getElem.1 ((fit_iff L).2 h) j i hj hi hij)
      have HT : Hid ((∀ i j, (hi : i < L.length) → (hj : j < L.length) → j < i → fit2 L[j] L[i]) → chF L = 0) := fun h => by
        rw [HV.out, if_pos]
        exact (fit_iff L).1 (List.pairwise_iff_getElem.2 fun i j hi hj hij => h j i hj hi hij)
      clear hb h0 HO HL HV
      obtain ⟨w1, rfl⟩ : ∃ w1, w1 = wr := ⟨wr, rfl⟩
      go_wp2
      go_loopw [4] (fun i ws => ∃ a : Nat, a ≤ L.length ∧ i = .int .i64 a ∧ (∀ i j, (hi : i < L.length) → (hj : j < L.length) → i < a → j < i → fit2 L[j] L[i]) ∧ Below w1.heap.size w1 ws) (fun i _ => L.length - (intOf i).toNat)
      case atStart => exact ⟨0, by omega, rfl, by omega, Below.refl _ _⟩
      case round =>
        obtain ⟨ws, rfl⟩ : ∃ ws, ws = wr := ⟨wr, rfl⟩
        obtain ⟨a, ha, rfl, hgood, hb⟩ := hrel
        have HG : Hid (∀ i j, (hi : i < L.length) → (hj : j < L.length) → i < a → j < i → fit2 L[j] L[i]) := hgood
        have HBs : Hid (Below w1.heap.size w1 ws) := hb
        have hszs := hb.size
        clear hgood hb
        by_cases hla : a < L.length
        · rcases HLB.out with h | ⟨g, o, rfl, hgr, hc⟩
          · exfalso; rw [h] at hla; exact absurd hla (by simp)
          have HC : Hid (FlAt g o L w1) := hc
          have hla2 : (a : Int) < (L.length : Int) := by omega
          clear hc
          go_wp2
          go_loopw [5] (fun i wt => ∃ b : Nat, b ≤ a ∧ i = .int .i64 b ∧ (∀ j, (hj : j < L.length) → j < b → fit2 L[j] L[a]) ∧ Below w1.heap.size w1 wt) (fun i _ => a - (intOf i).toNat)
          case atStart => exact ⟨0, by omega, rfl, by omega, HBs.out⟩
          case round =>
            obtain ⟨wt, rfl⟩ : ∃ wt, wt = wr := ⟨wr, rfl⟩
            obtain ⟨b, hba, rfl, hgb, hbt⟩ := hrel
            have HGB : Hid (∀ j, (hj : j < L.length) → j < b → fit2 L[j] L[a]) := hgb
            have HBt : Hid (Below w1.heap.size w1 wt) := hbt
            have HBw : Hid (∀ q, Below w.heap.size w (wt.drewN q)) := fun q => below_drewN (HB.out.trans (hbt.mono hsz)) q
            clear hgb
            by_cases hlb : b < a
            · have hbL : b < L.length := by omega
              obtain ⟨a0, _, _⟩ := HC.out.below hbt hgr a hla
              obtain ⟨b0, _, _⟩ := HC.out.below hbt hgr b hbL
              have HS2 : Hid (¬ fit2 L[b] L[a] → chF L = 6) := fun h => HS.out a b hla hbL hlb h
              have HF : Hid (pth L[b] = L[b].pa.data.toList ∧ pth L[a] = L[a].pa.data.toList) := ⟨rfl, rfl⟩
              generalize hx : L[b].pa = x at b0
              generalize hy : L[a].pa = y at a0
              have HX : Hid (L[b].pa = x) := hx
              have HY : Hid (L[a].pa = y) := hy
              have hlb2 : (b : Int) < (a : Int) := by omega
              have hbL2 : (b : Int) < (L.length : Int) := by omega
              clear hx hy hbt
              cases hless : Op.bytesLess x.toList y.toList with
              | false =>
                have HZ : Hid (chF L = 6) := HS2.out fun h => by
                  have h1 := h.1
                  rw [HF.out.1, HF.out.2, HX.out, HY.out] at h1
                  rw [Lib.toList_data, Lib.toList_data, tlt, decide_eq_true h1] at hless
                  exact absurd hless (by decide)
                go_wp2
                go_quiet (fail)
                go_wp2
                go_ret
                exact ⟨by rw [HZ.out]; rfl, HBw.out _⟩
              | true =>
                have HLT : Hid (pth L[b] < pth L[a]) := by
                  show _ < _
                  rw [HF.out.1, HF.out.2, HX.out, HY.out]
                  rw [Lib.toList_data, Lib.toList_data, tlt] at hless
                  exact of_decide_eq_true hless
                have HI1 : Hid (∀ W, Calls Tryz.prog 70 #[.string x, .string y] W fun e w' => e = .returned (.bool (inB y x)) ∧ w' = W) := HI.out x y
                have HI2 : Hid (∀ W, Calls Tryz.prog 70 #[.string y, .string x] W fun e w' => e = .returned (.bool (inB x y)) ∧ w' = W) := HI.out y x
                cases h1 : inB y x with
                | true =>
                  rw [h1] at HI1
                  have HZ : Hid (chF L = 6) := HS2.out fun h => by
                    have h2 := h.2.1
                    rw [HX.out, HY.out, h1] at h2
                    exact absurd h2 (by decide)
                  clear h1 HI
                  go_wp2
                  go_quiet ((go_at_call 70; exact Calls.quiet_of_same (HI1.out _)))
                  go_wp2
                  go_ret
                  exact ⟨by rw [HZ.out]; rfl, HBw.out _⟩
                | false =>
                  rw [h1] at HI1
                  cases h2 : inB x y with
                  | true =>
                    rw [h2] at HI2
                    have HZ : Hid (chF L = 6) := HS2.out fun h => by
                      have h3 := h.2.2
                      rw [HX.out, HY.out, h2] at h3
                      exact absurd h3 (by decide)
                    clear h1 h2 HI
                    go_wp2
                    go_quiet (first | (go_at_call 70; with_reducible exact Calls.quiet_of_same (HI1.out _)) | (go_at_call 70; with_reducible exact Calls.quiet_of_same (HI2.out _)))
                    go_wp2
                    go_ret
                    exact ⟨by rw [HZ.out]; rfl, HBw.out _⟩
                  | false =>
                    rw [h2] at HI2
                    have HOK : Hid (fit2 L[b] L[a]) := ⟨HLT.out, by rw [HX.out, HY.out]; exact h1, by rw [HX.out, HY.out]; exact h2⟩
                    clear h1 h2 HI
                    go_wp2
                    go_quiet (first | (go_at_call 70; with_reducible exact Calls.quiet_of_same (HI1.out _)) | (go_at_call 70; with_reducible exact Calls.quiet_of_same (HI2.out _)))
                    go_wp2
                    refine ⟨⟨b + 1, by omega, by go_num, fun j hj hjk => ?_, below_drewN HBt.out _⟩, by simp [intOf]; omega⟩
                    by_cases h : j < b
                    · exact HGB.out j hj h
                    · obtain rfl : j = b := by omega
                      exact HOK.out
            · have hlb2 : ¬ (b : Int) < (a : Int) := by omega
              clear hbt
              go_wp2
              refine ⟨⟨a + 1, by omega, by go_num, fun i j hi hj hia hji => ?_, HBt.out⟩, by simp [intOf]; omega⟩
              by_cases h : i < a
              · exact HG.out i j hi hj h hji
              · obtain rfl : i = a := by omega
                exact HGB.out j hj (by omega)
        · have hla2 : ¬ (a : Int) < (L.length : Int) := by omega
          have HZ : Hid (chF L = 0) := HT.out fun i j hi hj hij => HG.out i j hi hj (by omega) hij
          go_wp2
          go_ret
          exact ⟨by rw [HZ.out]; rfl, HB.out.trans (HBs.out.mono hsz)⟩

theorem RCheck_any (ao : Option Addr) (cap : Nat) (L : List Fl) (w : World) (hl : IsFl w ao L) :
    Calls Tryz.prog 43 #[.slice ao L.length cap] w fun e w' => e = .returned (.int .i64 (chF L)) ∧ Below w.heap.size w w' := by
  by_cases h : 60 < L.length
  · have e : chF L = 2 := by unfold chF; rw [if_pos h]
    rw [e]
    exact RCheck_many ao _ cap w h
  · exact RCheck_few ao cap L w (by omega) hl
end Go.Proofs.YtankaiopdbcndaaGreatDoor
