/- TreeParts holds, its listed variables tied to the program's text: for every two lists of files and every text that can be read: what is under a directory of what lies over is what lies over under it; all three read behind the call as they read before; no condition of ours. -/
import Derived.Test.YtelcflmjagjbfaaGreatDoorTe8
namespace Go.Proofs.YtelcflmjagjbfaaGreatDoor
open Go.ChangeShapes Go.WideShapes Go.ChangeAt Go.RowKit Go.Shelf Go.Sort
open Go.ChangeMaps (open_string shut_string)

theorem laidOut : laidOutB Tryz.prog = true := by kernel_rfl

set_option maxHeartbeats 8000000 in
set_option maxRecDepth 100000 in
theorem treeParts_walk (ao co : Option Addr) (ac cc : Nat) (A C : List Fl) (d : ByteArray) (w : World) (ha : IsFl w ao A) (hc : IsFl w co C) (he : Env w) :
    Calls Tryz.prog 6 #[.slice ao A.length ac, .slice co C.length cc, .string d] w fun e w' => e = .returned (.bool true) ∧ Below w.heap.size w w' := by
  have HT : Hid (Calls Tryz.prog 12 #[] w fun e w' => e = .returned (.bool true) ∧ Below w.heap.size w w') := treeBegun_any w he
  have HO : Hid (∀ W, Below w.heap.size w W → Calls Tryz.prog 14 #[.slice ao A.length ac, .slice co C.length cc] W (FsP (ovE A C) (ovL A C) W)) := fun W hW => OverC ao co ac cc A C W (ha.up hW) (hc.up hW) (he.up hW).1
  by_cases h0 : ovE A C = 0
  · obtain ⟨hA, hC, _, _, hlen⟩ := ovE_zero h0
    have hX := ov_tree h0
    rw [h0, ovL_ok h0] at HO
    have HUX : Hid (∀ (xa : Option Addr) (xc : Nat) (W : World), Below w.heap.size w W → IsFl W xa (ovF A C) → Calls Tryz.prog 8 #[.slice xa (ovF A C).length xc, .string d] W (FsP (unE (ovF A C) d) (unL (ovF A C) d) W)) := fun xa xc W hW h => UnderC xa xc _ d W h (he.up hW).1
    have HUA : Hid (∀ W, Below w.heap.size w W → Calls Tryz.prog 8 #[.slice ao A.length ac, .string d] W (FsP (unE A d) (unL A d) W)) := fun W hW => UnderC ao ac A d W (ha.up hW) (he.up hW).1
    have HUC : Hid (∀ W, Below w.heap.size w W → Calls Tryz.prog 8 #[.slice co C.length cc, .string d] W (FsP (unE C d) (unL C d) W)) := fun W hW => UnderC co cc C d W (hc.up hW) (he.up hW).1
    have HM : Hid (∀ W, Below w.heap.size w W → MaxIs W) := fun W hW => (he.up hW).1
    cases hp : pathOk d with
    | false =>
      rw [unE_form hX hp] at HUX
      rw [unE_form hA hp] at HUA
      rw [unE_form hC hp] at HUC
      clear ha hc he hA hC hX hlen h0 hp
      generalize unL (ovF A C) d = uX at *
      generalize unL A d = uA at *
      generalize unL C d = uC at *
      generalize ovF A C = X at *
      go_enter Tryz.func6, Tryz.ntmps6
      go_wp2_with fail
      refine HT.out.mono ?_
      rintro e w1 ⟨rfl, hb1⟩
      have HB1 : Hid (Below w.heap.size w w1) := hb1
      clear hb1
      go_wp2_with fail
      refine (HO.out _ HB1.out).mono ?_
      rintro e w2 ⟨xa, xc, rfl, HX2, hb2⟩
      have HB2 : Hid (Below w.heap.size w w2) := HB1.out.trans (hb2.out.mono HB1.out.size)
      clear hb2
      go_wp2_with fail
      refine (HUX.out _ _ _ HB2.out HX2.out).mono ?_
      rintro e w3 ⟨ya, yc, rfl, HY3, hb3⟩
      have HB3 : Hid (Below w.heap.size w w3) := HB2.out.trans (hb3.out.mono HB2.out.size)
      clear hb3
      go_wp2_with fail
      refine (HUA.out _ HB3.out).mono ?_
      rintro e w4 ⟨pa, pc, rfl, HP4, hb4⟩
      have HB4 : Hid (Below w.heap.size w w4) := HB3.out.trans (hb4.out.mono HB3.out.size)
      clear hb4
      go_wp2_with fail
      refine (HUC.out _ HB4.out).mono ?_
      rintro e w5 ⟨qa, qc, rfl, HQ5, hb5⟩
      have HB5 : Hid (Below w.heap.size w w5) := HB4.out.trans (hb5.out.mono HB4.out.size)
      clear hb5
      go_wp2
      go_ret
      exact ⟨rfl, HB5.out⟩
    | true =>
      obtain ⟨eX1, eX2⟩ := unE_und hX hp
      obtain ⟨eA1, eA2⟩ := unE_und hA hp
      obtain ⟨eC1, eC2⟩ := unE_und hC hp
      have hov := und_ov hA hC d
      have hoE := und_ovE h0 d
      rw [eX2] at HUX
      rw [eA2] at HUA
      rw [eC2] at HUC
      have hlX : (undF (ovF A C) d).length ≤ 60 := Nat.le_trans (undF_len _ _) hlen
      have HOU : Hid (∀ (xa ya : Option Addr) (xc yc : Nat) (W : World), Below w.heap.size w W → IsFl W xa (undF A d) → IsFl W ya (undF C d) → Calls Tryz.prog 14 #[.slice xa (undF A d).length xc, .slice ya (undF C d).length yc] W (FsP 0 (undF (ovF A C) d) W)) := fun xa ya xc yc W hW h1 h2 => by
        have := OverC xa ya xc yc _ _ W h1 h2 (HM.out W hW)
        rw [hoE, ovL_ok hoE, ← hov] at this
        exact this
      have HSm : Hid (∀ (xa ya : Option Addr) (xc yc : Nat) (W : World), IsFl W xa (undF (ovF A C) d) → IsFl W ya (undF (ovF A C) d) → Calls Tryz.prog 20 #[.slice xa (undF (ovF A C) d).length xc, .slice ya (undF (ovF A C) d).length yc] W fun e w' => e = .returned (.bool true) ∧ Hid (Below W.heap.size W w')) := fun xa ya xc yc W h1 h2 => SameC xa ya xc yc _ W hlX h1 h2
      have hmem : ∀ x, x ∈ undF (ovF A C) d ↔ (x ∈ undF A d ∧ hasP (undF C d) (pth x) = false) ∨ x ∈ undF C d := fun x => by rw [hov]; exact ovF_mem _ _ _
      have hcase : (undF A d = [] ∧ undF C d = [] ∧ undF (ovF A C) d = []) ∨ (undF A d ≠ [] ∧ undF (ovF A C) d ≠ []) ∨ (undF A d = [] ∧ undF C d ≠ [] ∧ undF (ovF A C) d ≠ []) := by
        by_cases h1 : undF A d = []
        · by_cases h2 : undF C d = []
          · refine .inl ⟨h1, h2, List.eq_nil_iff_forall_not_mem.2 fun x hx => ?_⟩
            rcases (hmem x).1 hx with h | h
            · rw [h1] at h; cases h.1
            · rw [h2] at h; cases h
          · obtain ⟨x, hx⟩ := List.exists_mem_of_ne_nil _ h2
            exact .inr (.inr ⟨h1, h2, List.ne_nil_of_mem ((hmem x).2 (.inr hx))⟩)
        · refine .inr (.inl ⟨h1, ?_⟩)
          obtain ⟨x, hx⟩ := List.exists_mem_of_ne_nil _ h1
          cases e : hasP (undF C d) (pth x) with
          | false => exact List.ne_nil_of_mem ((hmem x).2 (.inl ⟨hx, e⟩))
          | true =>
            obtain ⟨y, hy, _⟩ := (hasP_iff _ _).1 e
            exact List.ne_nil_of_mem ((hmem y).2 (.inr hy))
      rw [eX1] at HUX
      rw [eA1] at HUA
      rw [eC1] at HUC
      clear ha hc he hA hC hX hlen h0 hp eX1 eX2 eA1 eA2 eC1 eC2 hov hoE hmem hlX
      generalize undF (ovF A C) d = uX at *
      generalize undF A d = uA at *
      generalize undF C d = uC at *
      generalize ovF A C = X at *
      rcases hcase with ⟨h1, h2, h3⟩ | ⟨h1, h3⟩ | ⟨h1, h2, h3⟩
      · rw [if_pos h3] at HUX
        rw [if_pos h1] at HUA
        rw [if_pos h2] at HUC
        clear h1 h2 h3
        go_enter Tryz.func6, Tryz.ntmps6
        go_wp2_with fail
        refine HT.out.mono ?_
        rintro e w1 ⟨rfl, hb1⟩
        have HB1 : Hid (Below w.heap.size w w1) := hb1
        clear hb1
        go_wp2_with fail
        refine (HO.out _ HB1.out).mono ?_
        rintro e w2 ⟨xa, xc, rfl, HX2, hb2⟩
        have HB2 : Hid (Below w.heap.size w w2) := HB1.out.trans (hb2.out.mono HB1.out.size)
        clear hb2
        go_wp2_with fail
        refine (HUX.out _ _ _ HB2.out HX2.out).mono ?_
        rintro e w3 ⟨ya, yc, rfl, HY3, hb3⟩
        have HB3 : Hid (Below w.heap.size w w3) := HB2.out.trans (hb3.out.mono HB2.out.size)
        clear hb3
        go_wp2_with fail
        refine (HUA.out _ HB3.out).mono ?_
        rintro e w4 ⟨pa, pc, rfl, HP4, hb4⟩
        have HB4 : Hid (Below w.heap.size w w4) := HB3.out.trans (hb4.out.mono HB3.out.size)
        clear hb4
        go_wp2_with fail
        refine (HUC.out _ HB4.out).mono ?_
        rintro e w5 ⟨qa, qc, rfl, HQ5, hb5⟩
        have HB5 : Hid (Below w.heap.size w w5) := HB4.out.trans (hb5.out.mono HB4.out.size)
        clear hb5
        go_wp2
        go_ret
        exact ⟨rfl, HB5.out⟩
      · rw [if_neg h3] at HUX
        rw [if_neg h1] at HUA
        clear h1 h3
        generalize (if uC = [] then (5 : Int) else 0) = eC at *
        go_enter Tryz.func6, Tryz.ntmps6
        go_wp2_with fail
        refine HT.out.mono ?_
        rintro e w1 ⟨rfl, hb1⟩
        have HB1 : Hid (Below w.heap.size w w1) := hb1
        clear hb1
        go_wp2_with fail
        refine (HO.out _ HB1.out).mono ?_
        rintro e w2 ⟨xa, xc, rfl, HX2, hb2⟩
        have HB2 : Hid (Below w.heap.size w w2) := HB1.out.trans (hb2.out.mono HB1.out.size)
        clear hb2
        go_wp2_with fail
        refine (HUX.out _ _ _ HB2.out HX2.out).mono ?_
        rintro e w3 ⟨ya, yc, rfl, HY3, hb3⟩
        have HB3 : Hid (Below w.heap.size w w3) := HB2.out.trans (hb3.out.mono HB2.out.size)
        clear hb3
        go_wp2_with fail
        refine (HUA.out _ HB3.out).mono ?_
        rintro e w4 ⟨pa, pc, rfl, HP4, hb4⟩
        have HB4 : Hid (Below w.heap.size w w4) := HB3.out.trans (hb4.out.mono HB3.out.size)
        have HY4 : Hid (IsFl w4 ya uX) := HY3.out.up hb4.out
        clear hb4
        go_wp2_with fail
        refine (HUC.out _ HB4.out).mono ?_
        rintro e w5 ⟨qa, qc, rfl, HQ5, hb5⟩
        have HB5 : Hid (Below w.heap.size w w5) := HB4.out.trans (hb5.out.mono HB4.out.size)
        have HY5 : Hid (IsFl w5 ya uX) := HY4.out.up hb5.out
        have HP5 : Hid (IsFl w5 pa uA) := HP4.out.up hb5.out
        clear hb5
        go_wp2_with fail
        refine (HOU.out _ _ _ _ _ HB5.out HP5.out HQ5.out).mono ?_
        rintro e w6 ⟨za, zc, rfl, HZ6, hb6⟩
        have HB6 : Hid (Below w.heap.size w w6) := HB5.out.trans (hb6.out.mono HB5.out.size)
        have HY6 : Hid (IsFl w6 ya uX) := HY5.out.up hb6.out
        clear hb6
        go_wp2_with fail
        refine (HSm.out _ _ _ _ _ HY6.out HZ6.out).mono ?_
        rintro e w7 ⟨rfl, hb7⟩
        have HB7 : Hid (Below w.heap.size w w7) := HB6.out.trans (hb7.out.mono HB6.out.size)
        clear hb7
        go_wp2
        go_ret
        exact ⟨rfl, HB7.out⟩
      · rw [if_neg h3] at HUX
        rw [if_pos h1] at HUA
        rw [if_neg h2] at HUC
        clear h1 h2 h3
        go_enter Tryz.func6, Tryz.ntmps6
        go_wp2_with fail
        refine HT.out.mono ?_
        rintro e w1 ⟨rfl, hb1⟩
        have HB1 : Hid (Below w.heap.size w w1) := hb1
        clear hb1
        go_wp2_with fail
        refine (HO.out _ HB1.out).mono ?_
        rintro e w2 ⟨xa, xc, rfl, HX2, hb2⟩
        have HB2 : Hid (Below w.heap.size w w2) := HB1.out.trans (hb2.out.mono HB1.out.size)
        clear hb2
        go_wp2_with fail
        refine (HUX.out _ _ _ HB2.out HX2.out).mono ?_
        rintro e w3 ⟨ya, yc, rfl, HY3, hb3⟩
        have HB3 : Hid (Below w.heap.size w w3) := HB2.out.trans (hb3.out.mono HB2.out.size)
        clear hb3
        go_wp2_with fail
        refine (HUA.out _ HB3.out).mono ?_
        rintro e w4 ⟨pa, pc, rfl, HP4, hb4⟩
        have HB4 : Hid (Below w.heap.size w w4) := HB3.out.trans (hb4.out.mono HB3.out.size)
        have HY4 : Hid (IsFl w4 ya uX) := HY3.out.up hb4.out
        clear hb4
        go_wp2_with fail
        refine (HUC.out _ HB4.out).mono ?_
        rintro e w5 ⟨qa, qc, rfl, HQ5, hb5⟩
        have HB5 : Hid (Below w.heap.size w w5) := HB4.out.trans (hb5.out.mono HB4.out.size)
        have HY5 : Hid (IsFl w5 ya uX) := HY4.out.up hb5.out
        have HP5 : Hid (IsFl w5 pa uA) := HP4.out.up hb5.out
        clear hb5
        go_wp2_with fail
        refine (HOU.out _ _ _ _ _ HB5.out HP5.out HQ5.out).mono ?_
        rintro e w6 ⟨za, zc, rfl, HZ6, hb6⟩
        have HB6 : Hid (Below w.heap.size w w6) := HB5.out.trans (hb6.out.mono HB5.out.size)
        have HY6 : Hid (IsFl w6 ya uX) := HY5.out.up hb6.out
        clear hb6
        go_wp2_with fail
        refine (HSm.out _ _ _ _ _ HY6.out HZ6.out).mono ?_
        rintro e w7 ⟨rfl, hb7⟩
        have HB7 : Hid (Below w.heap.size w w7) := HB6.out.trans (hb7.out.mono HB6.out.size)
        clear hb7
        go_wp2
        go_ret
        exact ⟨rfl, HB7.out⟩
  · generalize ovE A C = c at *
    generalize ovL A C = X at *
    have h1 : (c != 0) = true := by simpa using h0
    clear ha hc he h0
    go_enter Tryz.func6, Tryz.ntmps6
    go_wp2_with fail
    refine HT.out.mono ?_
    rintro e w1 ⟨rfl, hb1⟩
    have HB1 : Hid (Below w.heap.size w w1) := hb1
    clear hb1
    go_wp2_with fail
    refine (HO.out _ HB1.out).mono ?_
    rintro e w2 ⟨xa, xc, rfl, HX2, hb2⟩
    have HB2 : Hid (Below w.heap.size w w2) := HB1.out.trans (hb2.out.mono HB1.out.size)
    clear hb2
    go_wp2
    go_ret
    exact ⟨rfl, HB2.out⟩

set_option maxRecDepth 100000 in
theorem treeParts_lifted (os : Os) (started : os.Started) (H : Type) (enc : TypeId × Value → H) :
    ReturnsInHanded {} Tryz.checked os 6 .any (fun w args => (Rows.treePartsSpec.pre enc Tryz.prog Tryz.f6 Rows.treePartsRow.domain false w args ∧ laidMetH Tryz.prog Rows.treePartsRow.laid w) ∧ sizedMet enc Tryz.prog Tryz.f6 (OpenSpec.ofChange Rows.treePartsSpec) false w args)
      (Rows.treePartsSpec.post enc Tryz.prog Tryz.f6 false true false false) := by
  refine returns_laid own started (by kernel_rfl) Tryz.func6
    (ChangeSpec.witness_shaped (enc := enc) (C := Tryz.checked) (os := os) (X := fun w _ => laidMetH Tryz.prog Rows.treePartsRow.laid w) false (World.laidAll Tryz.prog os Rows.treePartsRow.laid) #[.slice none 0 0, .slice none 0 0, .string ByteArray.empty] 8 (World.laidAll_os _ _ _)
      (World.shaped_of_ZipB (by kernel_rfl) (by kernel_rfl)) (by kernel_rfl) (by kernel_rfl) (by kernel_rfl)
      (by rw [MakeChecks.laidMetH_plain _ _ _ (by kernel_rfl)]; exact laidMet_laidAll _ (by kernel_rfl) (by kernel_rfl))) ?_
  intro W base args ds gs before hval0 hW hsz0 lies shape
  have hval : ∀ (j : Nat) t v, Tryz.f6.params[j]? = some t → args[j]? = some v → Value.okWide Tryz.prog W .any base t v := hval0
  have hW' := hW
  obtain ⟨p, q, hA0, hV, rfl, hfz, hnd⟩ := hW
  have hA : DataW.TrodAll enc Tryz.prog W 0 (fun _ => true) true Tryz.f6.params.toList args.toList ds p := hA0
  have hsz : (DataW.weightsEach Tryz.prog (Tryz.f6.params.toList ++ Rows.treePartsSpec.plain.varTypes Tryz.prog) (ds ++ gs)).all (· ≤ reachBytes) = true := hsz0
  rw [Tryz.params6] at hA hval hsz
  obtain ⟨v0, v1, v2, d0, d1, d2, p0, p1, p2, rfl, rfl, rfl, h0, h1, h2⟩ := trodAll_three hA
  obtain ⟨rfl, rfl⟩ := trodVars_none hV
  have r0 : ∀ elems sp, d0 = .slice elems sp → elems.length ≤ 4611686018427387904 := fun elems sp he => by
    have h1 := sized_slice hsz (j := 0) (t := 22) rfl (by rw [he]; rfl) Tryz.underlying22
    have h2 := reachBytes_lt
    rw [bytesFl] at h1
    omega
  obtain ⟨L, ao, cap, rfl, i0, hln⟩ := arg_files (hval 0 22 v0 rfl rfl) h0 r0
  have lt0 : ∀ x ∈ p0, x.block < W.heap.size := by obtain ⟨m, hm⟩ := h0; exact DataW.trod_lt m _ _ _ hm
  have r1 : ∀ elems sp, d1 = .slice elems sp → elems.length ≤ 4611686018427387904 := fun elems sp he => by
    have h1 := sized_slice hsz (j := 1) (t := 22) rfl (by rw [he]; rfl) Tryz.underlying22
    have h2 := reachBytes_lt
    rw [bytesFl] at h1
    omega
  obtain ⟨M, bo, bcap, rfl, i1, _⟩ := arg_files (hval 1 22 v1 rfl rfl) h1 r1
  have lt1 : ∀ x ∈ p1, x.block < W.heap.size := by obtain ⟨m, hm⟩ := h1; exact DataW.trod_lt m _ _ _ hm
  obtain ⟨a2, rfl, rfl, rfl, w2⟩ := open_string Tryz.underlying9 (hval 2 9 v2 rfl rfl) h2
  clear hA0 hval0
  refine (treeParts_walk ao bo cap bcap L M a2 W i0 i1 (env_of lies shape)).mono fun e W' ⟨he, bel⟩ => ?_
  subst he
  exact ⟨_, rfl, _, _, _, [], _, [], hW', trodAll_mk1 (shut_bool Tryz.underlying4 _), trodAll_mk3 (Below.trod laidOut (by kernel_rfl) (of_decide_eq_true (by kernel_rfl)) h0 bel lt0) (Below.trod laidOut (by kernel_rfl) (of_decide_eq_true (by kernel_rfl)) h1 bel lt1) (shut_string Tryz.underlying9 w2), rfl, bel.frame _, fun h => by cases h⟩

theorem treeParts_row : Rows.TreePartsSaid :=
  OpenClaim.holds_of_wide 6 Tryz.f6 rfl rfl rfl rfl rfl rfl rfl ⟨rfl, rfl, rfl, rfl, rfl⟩ rfl rfl rfl rfl rfl (by kernel_rfl) Tryz.func6 (by kernel_rfl)
    (of_decide_eq_true (by kernel_rfl)) (by unfold Func.isWrapper; first | (rw [if_pos (by decide +kernel)]; kernel_rfl) | (rw [if_neg (by decide +kernel)]; exact ⟨rfl, rfl⟩))
    (fun os started H enc _ => treeParts_lifted os started H enc)

theorem treeParts_holds : Rows.TreePartsCardSaid :=
  Claim7.holds_tied_plain_at .later [] Rows.treePartsCard.laidKinds true Rows.treePartsCard.stood.harness true
    treeParts_row (fun _ h => by cases h) (by kernel_rfl) (fun _ h => by cases h) treeParts_row_tie rfl ⟨rfl, rfl⟩ (by kernel_rfl) rfl
    (fun f fn hf hfn => by
      obtain rfl : f = 6 := Option.some.inj ((show Tryz.prog.funcNamed Rows.treePartsRow.func = some 6 by kernel_rfl).symm.trans hf) |>.symm
      obtain rfl : fn = Tryz.f6 := (Option.some.inj (Tryz.func6.symm.trans hfn)).symm
      exact ⟨by kernel_rfl, fun j t ht => by
        rw [Tryz.params6] at ht
        have hm : t ∈ [22, 22, 9] := by simpa using Array.mem_of_getElem? ht
        have hall : ([22, 22, 9].all fun u => !Tryz.prog.wantsStandIn u) = true := by kernel_rfl
        exact (show Tryz.prog.wantsStandIn t = false by simpa using List.all_eq_true.1 hall t hm)⟩)
    (by kernel_rfl)
#print axioms treeParts_holds
end Go.Proofs.YtelcflmjagjbfaaGreatDoor
