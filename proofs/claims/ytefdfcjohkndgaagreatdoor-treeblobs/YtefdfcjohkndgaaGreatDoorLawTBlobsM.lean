/- TreeBlobs holds, its listed variables tied to the program's text: for every list of files that can be read Blobs answers just as the document says, errors too, and the list reads behind the call as it read before; no condition of ours. -/
import Derived.Test.YtefdfcjohkndgaaGreatDoorTa10
namespace Go.Proofs.YtefdfcjohkndgaaGreatDoor
open Go.ChangeShapes Go.WideShapes Go.ChangeAt Go.RowKit Go.Shelf Go.Sort

theorem laidOut : laidOutB Tryz.prog = true := by kernel_rfl

set_option maxHeartbeats 4000000 in
set_option maxRecDepth 100000 in
theorem tblobs_walk (ao : Option Addr) (cap : Nat) (L : List Fl) (w : World) (hl : IsFl w ao L) (he : Env w) :
    Calls Tryz.prog 5 #[.slice ao L.length cap] w fun e w' => e = .returned (.bool true) ∧ Below w.heap.size w w' := by
  have HP : Hid (Calls Tryz.prog 9 #[.slice ao L.length cap] w (BlP L w)) := Blobs_any ao cap L w hl he
  have HR : Hid (∀ W, Below w.heap.size w W → Calls Tryz.prog 14 #[.slice ao L.length cap] W fun e w' => e = .returned (.int .i64 (chF L)) ∧ Below W.heap.size W w') := fun W hW => RCheck_any ao cap L W (hl.below hW (Nat.le_refl _))
  have HT : Hid (∀ W, Below w.heap.size w W → Calls Tryz.prog 7 #[] W fun e w' => e = .returned (.bool true) ∧ Below W.heap.size W w') := fun W hW => treeBegun_any W (he.up hW)
  by_cases h0 : chF L = 0
  · have hok := okT_of h0
    unfold BlP at HP
    rw [h0] at HP
    rw [h0] at HR
    have HD : Hid (∀ W, Below w.heap.size w W → Calls Tryz.prog 17 #[.slice ao L.length cap] W fun e w' => ∃ a c, e = .returned (.slice a (blF L).length c) ∧ w'.ownsRow W.heap.size 9 1 (.slice a (blF L).length c) (blF L).length ((blF L).map encStr) ∧ Below W.heap.size W w') := fun W hW => TreeBlobs_any ao cap L W hok (hl.below hW (Nat.le_refl _))
    have HLn : Hid ((blF L).length ≤ 1000000) := by
      have h1 := compact_len (((pkT1 L).2.map fun b => b.data.toList).mergeSort fun x y => decide (x ≤ y))
      have h2 := pkT1_len hok
      rw [List.length_mergeSort, List.length_map] at h1
      show (Lib.compact _).length ≤ _
      omega
    clear hl he h0 hok
    generalize blF L = X at *
    go_enter Tryz.func5, Tryz.ntmps5
    go_wp2_with fail
    refine HP.out.mono ?_
    rintro e w1 ⟨v, rfl, hr1, _, hb1⟩
    obtain ⟨xa, xc, rfl⟩ := own_shape (hr1 trivial)
    have HB1 : Hid (Below w.heap.size w w1) := hb1
    have HX1 : Hid (w1.ownsRow w.heap.size 9 1 (.slice xa X.length xc) X.length (X.map encStr)) := hr1 trivial
    clear hb1 hr1
    go_wp2_with fail
    refine (HR.out _ HB1.out).mono ?_
    rintro e w2 ⟨rfl, hb2⟩
    have HB2 : Hid (Below w.heap.size w w2) := HB1.out.trans (hb2.mono HB1.out.size)
    have HX2 : Hid (w2.ownsRow w.heap.size 9 1 (.slice xa X.length xc) X.length (X.map encStr)) := row_heap HX1.out fun b hb => hb2.block b (HX1.out.lt b hb).2
    clear hb2
    go_wp2_with fail
    refine (HD.out _ HB2.out).mono ?_
    rintro e w3 ⟨ya, yc, rfl, hy3, hb3⟩
    have HB3 : Hid (Below w.heap.size w w3) := HB2.out.trans (hb3.mono HB2.out.size)
    have HX3 : Hid (w3.ownsRow w.heap.size 9 1 (.slice xa X.length xc) X.length (X.map encStr)) := row_heap HX2.out fun b hb => hb3.block b (HX2.out.lt b hb).2
    have HY3 : Hid (w3.ownsRow w2.heap.size 9 1 (.slice ya X.length yc) X.length (X.map encStr)) := hy3
    clear hb3 hy3
    go_wp2_with fail
    refine (HT.out _ HB3.out).mono ?_
    rintro e w4 ⟨rfl, hb4⟩
    have HB4 : Hid (Below w.heap.size w w4) := HB3.out.trans (hb4.mono HB3.out.size)
    have HE : Hid (Calls Tryz.prog 18 #[.slice xa X.length xc, .int .i64 0, .int .i64 0, .slice ya X.length yc] w4 fun e w' => e = .returned (.bool true) ∧ Below w4.heap.size w4 w') := textsAre_ok 0 xa ya xc yc _ _ w4 HLn.out (own_tl (row_heap HX3.out fun b hb => hb4.block b (HX3.out.lt b hb).2)) (own_tl (row_heap HY3.out fun b hb => hb4.block b (HY3.out.lt b hb).2)) (fun h => absurd rfl h) (fun _ => rfl)
    clear hb4
    go_wp2_with fail
    refine HE.out.mono ?_
    rintro e w5 ⟨rfl, hb5⟩
    have HB5 : Hid (Below w.heap.size w w5) := HB4.out.trans (hb5.mono HB4.out.size)
    clear hb5
    go_wp2
    go_ret
    exact ⟨rfl, HB5.out⟩
  · unfold BlP at HP
    generalize chF L = c at *
    have HF : Hid (∀ W : World, Calls Tryz.prog 18 #[.slice none 0 0, .int .i64 c, .int .i64 c, .slice none 0 0] W fun e w' => e = .returned (.bool true) ∧ Below W.heap.size W w') := fun W => textsAre_ok c none none 0 0 [] [] W (by decide) (.inl rfl) (.inl rfl) (fun _ => rfl) (fun _ => rfl)
    have h2 : (c == 0) = false := by simpa using h0
    have H0 : Hid (c ≠ 0) := h0
    clear hl he h0
    go_enter Tryz.func5, Tryz.ntmps5
    go_wp2_with fail
    refine HP.out.mono ?_
    rintro e w1 ⟨v, rfl, _, hv, hb1⟩
    obtain rfl := hv H0.out
    have HB1 : Hid (Below w.heap.size w w1) := hb1
    clear hb1 hv
    go_wp2_with fail
    refine (HR.out _ HB1.out).mono ?_
    rintro e w2 ⟨rfl, hb2⟩
    have HB2 : Hid (Below w.heap.size w w2) := HB1.out.trans (hb2.mono HB1.out.size)
    clear hb2
    go_wp2_with fail
    refine (HT.out _ HB2.out).mono ?_
    rintro e w4 ⟨rfl, hb4⟩
    have HB4 : Hid (Below w.heap.size w w4) := HB2.out.trans (hb4.mono HB2.out.size)
    clear hb4
    go_wp2_with fail
    refine (HF.out _).mono ?_
    rintro e w5 ⟨rfl, hb5⟩
    have HB5 : Hid (Below w.heap.size w w5) := HB4.out.trans (hb5.mono HB4.out.size)
    clear hb5
    go_wp2
    go_ret
    exact ⟨rfl, HB5.out⟩

set_option maxRecDepth 100000 in
theorem tblobs_lifted (os : Os) (started : os.Started) (H : Type) (enc : TypeId × Value → H) :
    ReturnsInHanded {} Tryz.checked os 5 .any (fun w args => (Rows.treeBlobsSpec.pre enc Tryz.prog Tryz.f5 Rows.treeBlobsRow.domain false w args ∧ laidMetH Tryz.prog Rows.treeBlobsRow.laid w) ∧ sizedMet enc Tryz.prog Tryz.f5 (OpenSpec.ofChange Rows.treeBlobsSpec) false w args)
      (Rows.treeBlobsSpec.post enc Tryz.prog Tryz.f5 false true false false) := by
  refine returns_laid own started (by kernel_rfl) Tryz.func5
    (ChangeSpec.witness_shaped (enc := enc) (C := Tryz.checked) (os := os) (X := fun w _ => laidMetH Tryz.prog Rows.treeBlobsRow.laid w) false (World.laidAll Tryz.prog os Rows.treeBlobsRow.laid) #[.slice none 0 0] 8 (World.laidAll_os _ _ _)
      (World.shaped_of_ZipB (by kernel_rfl) (by kernel_rfl)) (by kernel_rfl) (by kernel_rfl) (by kernel_rfl)
      (by rw [MakeChecks.laidMetH_plain _ _ _ (by kernel_rfl)]; exact laidMet_laidAll _ (by kernel_rfl) (by kernel_rfl))) ?_
  intro W base args ds gs before hval0 hW hsz0 lies shape
  have hval : ∀ (j : Nat) t v, Tryz.f5.params[j]? = some t → args[j]? = some v → Value.okWide Tryz.prog W .any base t v := hval0
  have hW' := hW
  obtain ⟨p, q, hA0, hV, rfl, hfz, hnd⟩ := hW
  have hA : DataW.TrodAll enc Tryz.prog W 0 (fun _ => true) true Tryz.f5.params.toList args.toList ds p := hA0
  have hsz : (DataW.weightsEach Tryz.prog (Tryz.f5.params.toList ++ Rows.treeBlobsSpec.plain.varTypes Tryz.prog) (ds ++ gs)).all (· ≤ reachBytes) = true := hsz0
  rw [Tryz.params5] at hA hval hsz
  obtain ⟨v0, d0, rfl, rfl, h0⟩ := trodAll_one hA
  obtain ⟨rfl, rfl⟩ := trodVars_none hV
  have r0 : ∀ elems sp, d0 = .slice elems sp → elems.length ≤ 4611686018427387904 := fun elems sp he => by
    have h1 := sized_slice hsz (j := 0) (t := 22) rfl (by rw [he]; rfl) Tryz.underlying22
    have h2 := reachBytes_lt
    rw [bytesFl] at h1
    omega
  obtain ⟨L, ao, cap, rfl, i0, _⟩ := arg_files (hval 0 22 v0 rfl rfl) h0 r0
  have lt0 : ∀ x ∈ p, x.block < W.heap.size := by obtain ⟨m, hm⟩ := h0; exact DataW.trod_lt m _ _ _ hm
  clear hA0 hval0
  refine (tblobs_walk ao cap L W i0 (env_of lies shape)).mono fun e W' ⟨he, bel⟩ => ?_
  subst he
  exact ⟨_, rfl, _, _, _, [], _, [], hW', trodAll_mk1 (shut_bool Tryz.underlying4 _), trodAll_mk1 (Below.trod laidOut (by kernel_rfl) (of_decide_eq_true (by kernel_rfl)) h0 bel lt0), rfl, bel.frame _, fun h => by cases h⟩

theorem treeBlobs_row : Rows.TreeBlobsSaid :=
  OpenClaim.holds_of_wide 5 Tryz.f5 rfl rfl rfl rfl rfl rfl rfl ⟨rfl, rfl, rfl, rfl, rfl⟩ rfl rfl rfl rfl rfl (by kernel_rfl) Tryz.func5 (by kernel_rfl)
    (of_decide_eq_true (by kernel_rfl)) (by unfold Func.isWrapper; first | (rw [if_pos (by decide +kernel)]; kernel_rfl) | (rw [if_neg (by decide +kernel)]; exact ⟨rfl, rfl⟩))
    (fun os started H enc _ => tblobs_lifted os started H enc)

theorem treeBlobs_holds : Rows.TreeBlobsCardSaid :=
  Claim7.holds_tied_plain_at .later [] Rows.treeBlobsCard.laidKinds true Rows.treeBlobsCard.stood.harness false
    treeBlobs_row (fun _ h => by cases h) (by kernel_rfl) (fun _ h => by cases h) treeBlobs_row_tie rfl ⟨rfl, rfl⟩ (by kernel_rfl) rfl
    (fun f fn hf hfn => by
      obtain rfl : f = 5 := Option.some.inj ((show Tryz.prog.funcNamed Rows.treeBlobsRow.func = some 5 by kernel_rfl).symm.trans hf) |>.symm
      obtain rfl : fn = Tryz.f5 := (Option.some.inj (Tryz.func5.symm.trans hfn)).symm
      exact ⟨by kernel_rfl, fun j t ht => by
        rw [Tryz.params5] at ht
        have hm : t ∈ [22] := by simpa using Array.mem_of_getElem? ht
        have hall : ([22].all fun u => !Tryz.prog.wantsStandIn u) = true := by kernel_rfl
        exact (show Tryz.prog.wantsStandIn t = false by simpa using List.all_eq_true.1 hall t hm)⟩)
    (by kernel_rfl)
#print axioms treeBlobs_holds
end Go.Proofs.YtefdfcjohkndgaaGreatDoor
