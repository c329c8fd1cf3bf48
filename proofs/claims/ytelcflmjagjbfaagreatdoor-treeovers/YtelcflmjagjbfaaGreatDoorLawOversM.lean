/- TreeOvers holds, its listed variables tied to the program's text: for every two lists of files that can be read Over answers just as the document says, errors too, and both read behind the call as they read before; no condition of ours. -/
import Derived.Test.YtelcflmjagjbfaaGreatDoorTe8
namespace Go.Proofs.YtelcflmjagjbfaaGreatDoor
open Go.ChangeShapes Go.WideShapes Go.ChangeAt Go.RowKit Go.Shelf Go.Sort
open Go.ChangeMaps (open_string shut_string)

theorem laidOut : laidOutB Tryz.prog = true := by kernel_rfl
theorem ov_doc {A C : List Fl} (h : erF A C = 0) : ovE A C = oeD A C ∧ ovL A C = olD A C := by
  obtain ⟨hA, hC⟩ := erF_zero h
  have e := thru_ov (okT_of hA) (okT_of hC) (X := ovF A C) fun f => (ovF_perm A C).mem_iff.symm
  have e1 : ovE A C = oeD A C := by
    unfold ovE oeD
    rw [if_neg (by simp [h]), e]
  refine ⟨e1, ?_⟩
  unfold ovL
  rw [e1]
  unfold oeD olD
  by_cases h1 : thruF (ovF A C) (ovF A C) = true
  · rw [if_pos h1, if_pos h1, if_neg (by decide)]
  · rw [if_neg h1, if_neg h1]
    by_cases h2 : 60 < (ovF A C).length
    · rw [if_pos h2, if_pos h2, if_neg (by decide)]
    · rw [if_neg h2, if_neg h2, if_pos rfl]
theorem ovL_none {A C : List Fl} (h : ovE A C ≠ 0) : ovL A C = [] := by unfold ovL; rw [if_neg h]
theorem ovL_len (A C : List Fl) : (ovL A C).length ≤ 60 := by
  unfold ovL
  by_cases h : ovE A C = 0
  · rw [if_pos h]
    unfold ovE at h
    by_cases h1 : erF A C ≠ 0
    · rw [if_pos h1] at h; exact absurd h h1
    · rw [if_neg h1] at h
      by_cases h2 : (thruF A C || thruF C A) = true
      · rw [if_pos h2] at h; exact absurd h (by decide)
      · rw [if_neg h2] at h
        by_cases h3 : 60 < (ovF A C).length
        · rw [if_pos h3] at h; exact absurd h (by decide)
        · omega
  · rw [if_neg h]
    simp

set_option maxHeartbeats 4000000 in
set_option maxRecDepth 100000 in
theorem overs_walk (ao co : Option Addr) (ac cc : Nat) (A C : List Fl) (w : World) (ha : IsFl w ao A) (hc : IsFl w co C) (he : Env w) :
    Calls Tryz.prog 4 #[.slice ao A.length ac, .slice co C.length cc] w fun e w' => e = .returned (.bool true) ∧ Below w.heap.size w w' := by
  have HU : Hid (Calls Tryz.prog 14 #[.slice ao A.length ac, .slice co C.length cc] w (RsP (ovE A C) (ovL A C) w)) := Over_any ao co ac cc A C w ha hc he.1
  have HR : Hid (∀ W, Below w.heap.size w W → Calls Tryz.prog 15 #[.slice ao A.length ac, .slice co C.length cc] W fun e w' => e = .returned (.int .i64 (erF A C)) ∧ Below W.heap.size W w') := fun W hW => twoTrees_any ao co ac cc A C W (ha.below hW (Nat.le_refl _)) (hc.below hW (Nat.le_refl _))
  have HT : Hid (∀ W, Below w.heap.size w W → Calls Tryz.prog 12 #[] W fun e w' => e = .returned (.bool true) ∧ Below W.heap.size W w') := fun W hW => treeBegun_any W (he.up hW)
  by_cases h0 : erF A C = 0
  · obtain ⟨hA, hC⟩ := erF_zero h0
    obtain ⟨e1, e2⟩ := ov_doc h0
    have HD : Hid (∀ W, Below w.heap.size w W → Calls Tryz.prog 16 #[.slice ao A.length ac, .slice co C.length cc] W (RsP (ovE A C) (ovL A C) W)) := fun W hW => by
      rw [e1, e2]
      exact OverTree_any ao co ac cc A C W (ha.below hW (Nat.le_refl _)) (hc.below hW (Nat.le_refl _)) (okT_of hA) (okT_of hC)
    have HN : Hid ((ovE A C ≠ 0 → ovL A C = []) ∧ (ovL A C).length ≤ 60) := ⟨ovL_none, ovL_len A C⟩
    rw [h0] at HR
    clear ha hc he hA hC h0 e1 e2
    generalize ovL A C = X at *
    generalize ovE A C = er at *
    go_enter Tryz.func4, Tryz.ntmps4
    go_wp2_with fail
    refine HU.out.mono ?_
    rintro e w1 ⟨xa, xc, rfl, hx1, hb1⟩
    have HB1 : Hid (Below w.heap.size w w1) := hb1
    have HX1 : Hid (w1.ownsRow w.heap.size 30 3 (.slice xa X.length xc) X.length (flCells X)) := hx1
    clear hb1 hx1
    go_wp2_with fail
    refine (HR.out _ HB1.out).mono ?_
    rintro e w2 ⟨rfl, hb2⟩
    have HB2 : Hid (Below w.heap.size w w2) := HB1.out.trans (hb2.mono HB1.out.size)
    have HX2 : Hid (w2.ownsRow w.heap.size 30 3 (.slice xa X.length xc) X.length (flCells X)) := row_heap HX1.out fun b hb => hb2.block b (HX1.out.lt b hb).2
    clear hb2
    go_wp2_with fail
    refine (HD.out _ HB2.out).mono ?_
    rintro e w3 ⟨ya, yc, rfl, hy3, hb3⟩
    have HB3 : Hid (Below w.heap.size w w3) := HB2.out.trans (hb3.mono HB2.out.size)
    have HX3 : Hid (w3.ownsRow w.heap.size 30 3 (.slice xa X.length xc) X.length (flCells X)) := row_heap HX2.out fun b hb => hb3.block b (HX2.out.lt b hb).2
    have HY3 : Hid (w3.ownsRow w2.heap.size 30 3 (.slice ya X.length yc) X.length (flCells X)) := hy3
    clear hb3 hy3
    go_wp2_with fail
    refine (HT.out _ HB3.out).mono ?_
    rintro e w4 ⟨rfl, hb4⟩
    have HB4 : Hid (Below w.heap.size w w4) := HB3.out.trans (hb4.mono HB3.out.size)
    have HE : Hid (Calls Tryz.prog 13 #[.slice xa X.length xc, .int .i64 er, .int .i64 er, .slice ya X.length yc] w4 fun e w' => e = .returned (.bool true) ∧ Below w4.heap.size w4 w') := filesAre_ok er xa ya xc yc X X w4 (by have := HN.out.2; omega) (own_files (row_heap HX3.out fun b hb => hb4.block b (HX3.out.lt b hb).2) rfl) (own_files (row_heap HY3.out fun b hb => hb4.block b (HY3.out.lt b hb).2) rfl) HN.out.1 (fun _ => rfl)
    clear hb4
    go_wp2_with fail
    refine HE.out.mono ?_
    rintro e w5 ⟨rfl, hb5⟩
    have HB5 : Hid (Below w.heap.size w w5) := HB4.out.trans (hb5.mono HB4.out.size)
    clear hb5
    go_wp2
    go_ret
    exact ⟨rfl, HB5.out⟩
  · have e1 : ovE A C = erF A C := by unfold ovE; rw [if_pos h0]
    have e2 : ovL A C = [] := ovL_none (by rw [e1]; exact h0)
    rw [e1, e2] at HU
    generalize erF A C = c at *
    have HF : Hid (∀ (xa : Option Addr) (xc : Nat) (W : World), Calls Tryz.prog 13 #[.slice xa 0 xc, .int .i64 c, .int .i64 c, .slice none 0 0] W fun e w' => e = .returned (.bool true) ∧ Below W.heap.size W w') := fun xa xc W => filesAre_ok c xa none xc 0 [] [] W (by decide) (.inl rfl) (.inl rfl) (fun _ => rfl) (fun _ => rfl)
    have h2 : (c == 0) = false := by simpa using h0
    clear ha hc he h0 e1 e2
    go_enter Tryz.func4, Tryz.ntmps4
    go_wp2_with fail
    refine HU.out.mono ?_
    rintro e w1 ⟨xa, xc, rfl, _, hb1⟩
    have HB1 : Hid (Below w.heap.size w w1) := hb1
    clear hb1
    rw [show ([] : List Fl).length = 0 from rfl]
    go_wp2_with fail
    refine (HR.out _ HB1.out).mono ?_
    rintro e w2 ⟨rfl, hb2⟩
    have HB2 : Hid (Below w.heap.size w w2) := HB1.out.trans (hb2.mono HB1.out.size)
    clear hb2
    go_wp2_with fail
    refine (HT.out _ HB2.out).mono ?_
    rintro e w4 ⟨rfl, hb4⟩
    have HB4 : Hid (Below w.heap.size w w4) := HB2.out.trans (hb4.mono HB2.out.size)
    clear hb4
    go_wp2_with fail
    refine (HF.out _ _ _).mono ?_
    rintro e w5 ⟨rfl, hb5⟩
    have HB5 : Hid (Below w.heap.size w w5) := HB4.out.trans (hb5.mono HB4.out.size)
    clear hb5
    go_wp2
    go_ret
    exact ⟨rfl, HB5.out⟩

set_option maxRecDepth 100000 in
theorem overs_lifted (os : Os) (started : os.Started) (H : Type) (enc : TypeId × Value → H) :
    ReturnsInHanded {} Tryz.checked os 4 .any (fun w args => (Rows.treeOversSpec.pre enc Tryz.prog Tryz.f4 Rows.treeOversRow.domain false w args ∧ laidMetH Tryz.prog Rows.treeOversRow.laid w) ∧ sizedMet enc Tryz.prog Tryz.f4 (OpenSpec.ofChange Rows.treeOversSpec) false w args)
      (Rows.treeOversSpec.post enc Tryz.prog Tryz.f4 false true false false) := by
  refine returns_laid own started (by kernel_rfl) Tryz.func4
    (ChangeSpec.witness_shaped (enc := enc) (C := Tryz.checked) (os := os) (X := fun w _ => laidMetH Tryz.prog Rows.treeOversRow.laid w) false (World.laidAll Tryz.prog os Rows.treeOversRow.laid) #[.slice none 0 0, .slice none 0 0] 8 (World.laidAll_os _ _ _)
      (World.shaped_of_ZipB (by kernel_rfl) (by kernel_rfl)) (by kernel_rfl) (by kernel_rfl) (by kernel_rfl)
      (by rw [MakeChecks.laidMetH_plain _ _ _ (by kernel_rfl)]; exact laidMet_laidAll _ (by kernel_rfl) (by kernel_rfl))) ?_
  intro W base args ds gs before hval0 hW hsz0 lies shape
  have hval : ∀ (j : Nat) t v, Tryz.f4.params[j]? = some t → args[j]? = some v → Value.okWide Tryz.prog W .any base t v := hval0
  have hW' := hW
  obtain ⟨p, q, hA0, hV, rfl, hfz, hnd⟩ := hW
  have hA : DataW.TrodAll enc Tryz.prog W 0 (fun _ => true) true Tryz.f4.params.toList args.toList ds p := hA0
  have hsz : (DataW.weightsEach Tryz.prog (Tryz.f4.params.toList ++ Rows.treeOversSpec.plain.varTypes Tryz.prog) (ds ++ gs)).all (· ≤ reachBytes) = true := hsz0
  rw [Tryz.params4] at hA hval hsz
  obtain ⟨v0, v1, d0, d1, p0, p1, rfl, rfl, rfl, h0, h1⟩ := trodAll_two hA
  obtain ⟨rfl, rfl⟩ := trodVars_none hV
  have r0 : ∀ elems sp, d0 = .slice elems sp → elems.length ≤ 4611686018427387904 := fun elems sp he => by
    have h1 := sized_slice hsz (j := 0) (t := 22) rfl (by rw [he]; rfl) Tryz.underlying22
    have h2 := reachBytes_lt
    rw [bytesFl] at h1
    omega
  obtain ⟨L, ao, cap, rfl, i0, hln⟩ := arg_files (hval 0 22 v0 rfl rfl) h0 r0
  have lt0 : ∀ x ∈ p0, x.block < W.heap.size := by obtain ⟨m, hm⟩ := h0; exact DataW.trod_lt m _ _ _ hm
  have r1 : ∀ elems sp, d1 = .slice elems sp → elems.length ≤ 4611686018427387904 := fun elems sp he => by
    have h1 := sized_slice hsz (j := 1) (t := 22) rfl (by rw [he]; rfl) Tryz.underlying22
    have h2 := reachBytes_lt
    rw [bytesFl] at h1
    omega
  obtain ⟨M, bo, bcap, rfl, i1, _⟩ := arg_files (hval 1 22 v1 rfl rfl) h1 r1
  have lt1 : ∀ x ∈ p1, x.block < W.heap.size := by obtain ⟨m, hm⟩ := h1; exact DataW.trod_lt m _ _ _ hm
  clear hA0 hval0
  refine (overs_walk ao bo cap bcap L M W i0 i1 (env_of lies shape)).mono fun e W' ⟨he, bel⟩ => ?_
  subst he
  exact ⟨_, rfl, _, _, _, [], _, [], hW', trodAll_mk1 (shut_bool Tryz.underlying4 _), trodAll_mk2 (Below.trod laidOut (by kernel_rfl) (of_decide_eq_true (by kernel_rfl)) h0 bel lt0) (Below.trod laidOut (by kernel_rfl) (of_decide_eq_true (by kernel_rfl)) h1 bel lt1), rfl, bel.frame _, fun h => by cases h⟩

theorem treeOvers_row : Rows.TreeOversSaid :=
  OpenClaim.holds_of_wide 4 Tryz.f4 rfl rfl rfl rfl rfl rfl rfl ⟨rfl, rfl, rfl, rfl, rfl⟩ rfl rfl rfl rfl rfl (by kernel_rfl) Tryz.func4 (by kernel_rfl)
    (of_decide_eq_true (by kernel_rfl)) (by unfold Func.isWrapper; first | (rw [if_pos (by decide +kernel)]; kernel_rfl) | (rw [if_neg (by decide +kernel)]; exact ⟨rfl, rfl⟩))
    (fun os started H enc _ => overs_lifted os started H enc)

theorem treeOvers_holds : Rows.TreeOversCardSaid :=
  Claim7.holds_tied_plain_at .later [] Rows.treeOversCard.laidKinds true Rows.treeOversCard.stood.harness true
    treeOvers_row (fun _ h => by cases h) (by kernel_rfl) (fun _ h => by cases h) treeOvers_row_tie rfl ⟨rfl, rfl⟩ (by kernel_rfl) rfl
    (fun f fn hf hfn => by
      obtain rfl : f = 4 := Option.some.inj ((show Tryz.prog.funcNamed Rows.treeOversRow.func = some 4 by kernel_rfl).symm.trans hf) |>.symm
      obtain rfl : fn = Tryz.f4 := (Option.some.inj (Tryz.func4.symm.trans hfn)).symm
      exact ⟨by kernel_rfl, fun j t ht => by
        rw [Tryz.params4] at ht
        have hm : t ∈ [22, 22] := by simpa using Array.mem_of_getElem? ht
        have hall : ([22, 22].all fun u => !Tryz.prog.wantsStandIn u) = true := by kernel_rfl
        exact (show Tryz.prog.wantsStandIn t = false by simpa using List.all_eq_true.1 hall t hm)⟩)
    (by kernel_rfl)
#print axioms treeOvers_holds
end Go.Proofs.YtelcflmjagjbfaaGreatDoor
