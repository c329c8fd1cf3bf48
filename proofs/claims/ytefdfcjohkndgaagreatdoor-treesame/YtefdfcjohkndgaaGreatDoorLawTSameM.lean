/- TreeSame holds, its listed variables tied to the program's text: for every two lists of files that can be read, both trees: they have one root just if nothing differs, and then they are the same, unless two of their texts that are unlike have one digest; both lists read behind the call as they read before; no condition of ours. -/
import Derived.Test.YtefdfcjohkndgaaGreatDoorTb10
namespace Go.Proofs.YtefdfcjohkndgaaGreatDoor
open Go.ChangeShapes Go.WideShapes Go.ChangeAt Go.RowKit Go.Shelf Go.Sort

theorem laidOut : laidOutB Tryz.prog = true := by kernel_rfl
theorem cl_two {w : World} {B1 B2 : Nat} {A C : List Fl} {v1 v2 : Value} (hA : okT A) (hC : okT C) (h1 : w.ownsRow B1 9 1 v1 (blF A).length ((blF A).map encStr)) (h2 : w.ownsRow B2 9 1 v2 (blF C).length ((blF C).map encStr)) (ty : TypeId) :
    Calls Tryz.prog 11 #[.slice (some ⟨w.heap.size, 0, none⟩) 2 2] (w.alloc (.cells #[v1, v2] ty)) fun e w' => ∃ b, e = .returned (.bool b) ∧ (b = false → InjL (bxF A ++ bxF C)) ∧ Below w.heap.size w w' := by
  have hb : Below w.heap.size w (w.alloc (.cells #[v1, v2] ty)) := (Below.refl _ w).alloc (Nat.le_refl _) _
  have tx : ∀ {B : Nat} {L : List Fl} {v : Value}, okT L → w.ownsRow B 9 1 v (blF L).length ((blF L).map encStr) → Tx (w.alloc (.cells #[v1, v2] ty)) v (bxF L) := fun {B L v} hL h => by
    refine (tx_own (B := B) (by rw [bxF_len]; have := blF_len hL; omega) ?_).up hb
    rw [bxF_len, bxF_scs]
    exact h
  have hsm : ∀ {L : List Fl}, okT L → ∀ t ∈ bxF L, t.size ≤ 140737488351300 := fun h t ht => by have := bxF_small h t ht; omega
  refine (Clash_any w.heap.size 0 2 [bxF A, bxF C] _ (by simp) (by simp only [List.flatten_cons, List.flatten_nil, List.append_nil, List.length_append, bxF_len]; have := blF_len hA; have := blF_len hC; omega) (fun l hl => ?_) (fun j hj => ?_)).mono ?_
  · simp only [List.mem_cons, List.mem_nil_iff, or_false] at hl
    rcases hl with rfl | rfl
    · exact hsm hA
    · exact hsm hC
  · match j, hj with
    | 0, _ => exact ⟨v1, Lib.cell_of_heap (heap_alloc_new w _) 0, tx hA h1⟩
    | 1, _ => exact ⟨v2, Lib.cell_of_heap (heap_alloc_new w _) 1, tx hC h2⟩
  · rintro e w' ⟨b, rfl, h, hbl⟩
    refine ⟨b, rfl, fun e => ?_, hb.trans (hbl.mono hb.size)⟩
    have := h e
    simpa using this

set_option maxHeartbeats 8000000 in
set_option maxRecDepth 100000 in
theorem tsame_walk (ao co : Option Addr) (ac cc : Nat) (A C : List Fl) (w : World) (ha : IsFl w ao A) (hc : IsFl w co C) (he : Env w) :
    Calls Tryz.prog 6 #[.slice ao A.length ac, .slice co C.length cc] w fun e w' => e = .returned (.bool true) ∧ Below w.heap.size w w' := by
  have HT : Hid (Calls Tryz.prog 7 #[] w fun e w' => e = .returned (.bool true) ∧ Below w.heap.size w w') := treeBegun_any w he
  have HU : Hid (∀ W, Below w.heap.size w W → Calls Tryz.prog 19 #[.slice ao A.length ac, .slice co C.length cc] W (DfP A C W)) := fun W hW => Differs_any ao co ac cc A C W (ha.below hW (Nat.le_refl _)) (hc.below hW (Nat.le_refl _)) (he.up hW).1
  by_cases h0 : erF A C = 0
  · obtain ⟨hA, hC⟩ := erF_zero h0
    have okA := okT_of hA
    have okC := okT_of hC
    have hd : dfL A C = difF A C := by unfold dfL; rw [if_pos h0]
    unfold DfP at HU
    rw [hd, h0] at HU
    have HRa : Hid (∀ W, Below w.heap.size w W → Calls Tryz.prog 8 #[.slice ao A.length ac] W fun e w' => e = .returned (.tuple #[.string (smD (pkT1 A).1), .int .i64 0]) ∧ Below W.heap.size W w') := fun W hW => by
      have := Root_any ao ac A W (ha.below hW (Nat.le_refl _)) (he.up hW)
      rw [if_pos hA, hA] at this
      exact this
    have HRc : Hid (∀ W, Below w.heap.size w W → Calls Tryz.prog 8 #[.slice co C.length cc] W fun e w' => e = .returned (.tuple #[.string (smD (pkT1 C).1), .int .i64 0]) ∧ Below W.heap.size W w') := fun W hW => by
      have := Root_any co cc C W (hc.below hW (Nat.le_refl _)) (he.up hW)
      rw [if_pos hC, hC] at this
      exact this
    have HBa : Hid (∀ W, Below w.heap.size w W → Calls Tryz.prog 17 #[.slice ao A.length ac] W fun e w' => ∃ a c, e = .returned (.slice a (blF A).length c) ∧ w'.ownsRow W.heap.size 9 1 (.slice a (blF A).length c) (blF A).length ((blF A).map encStr) ∧ Below W.heap.size W w') := fun W hW => TreeBlobs_any ao ac A W okA (ha.below hW (Nat.le_refl _))
    have HBc : Hid (∀ W, Below w.heap.size w W → Calls Tryz.prog 17 #[.slice co C.length cc] W fun e w' => ∃ a c, e = .returned (.slice a (blF C).length c) ∧ w'.ownsRow W.heap.size 9 1 (.slice a (blF C).length c) (blF C).length ((blF C).map encStr) ∧ Below W.heap.size W w') := fun W hW => TreeBlobs_any co cc C W okC (hc.below hW (Nat.le_refl _))
    have HSm : Hid (∀ W, Below w.heap.size w W → Calls Tryz.prog 12 #[.slice ao A.length ac, .slice co C.length cc] W (SmP A C W)) := fun W hW => SameFiles_any ao co ac cc A C W (by have := okA.1; omega) (ha.below hW (Nat.le_refl _)) (hc.below hW (Nat.le_refl _))
    have HEnd : Hid (InjL (bxF A ++ bxF C) → (A = C ∧ ((smD (pkT1 A).1).toList == (smD (pkT1 C).1).toList) = true ∧ (((difF A C).length : Int) == 0) = true) ∨ (A ≠ C ∧ ((smD (pkT1 A).1).toList == (smD (pkT1 C).1).toList) = false ∧ (((difF A C).length : Int) == 0) = false)) := fun hi => by
      by_cases e : A = C
      · refine .inl ⟨e, by rw [e]; simp, ?_⟩
        rw [(dif_none okA okC).2 e]
        rfl
      · refine .inr ⟨e, ?_, ?_⟩
        · rw [beq_eq_false_iff_ne]
          exact fun h => e (tree_inj okA okC hi (toL_inj h))
        · rw [beq_eq_false_iff_ne]
          intro h
          exact e ((dif_none okA okC).1 (List.length_eq_zero_iff.1 (by omega)))
    have HOk : Hid (okT A ∧ okT C) := ⟨okA, okC⟩
    clear ha hc he hA hC okA okC h0 hd
    generalize smD (pkT1 A).1 = rA at *
    generalize smD (pkT1 C).1 = rC at *
    generalize (difF A C).length = dl at *
    go_enter Tryz.func6, Tryz.ntmps6
    go_wp2_with fail
    refine HT.out.mono ?_
    rintro e w1 ⟨rfl, hb1⟩
    have HB1 : Hid (Below w.heap.size w w1) := hb1
    clear hb1
    go_wp2_with fail
    refine (HU.out _ HB1.out).mono ?_
    rintro e w2 ⟨xa, xc, rfl, _, hb2⟩
    have HB2 : Hid (Below w.heap.size w w2) := HB1.out.trans (hb2.mono HB1.out.size)
    clear hb2
    go_wp2_with fail
    refine (HRa.out _ HB2.out).mono ?_
    rintro e w3 ⟨rfl, hb3⟩
    have HB3 : Hid (Below w.heap.size w w3) := HB2.out.trans (hb3.mono HB2.out.size)
    clear hb3
    go_wp2_with fail
    refine (HRc.out _ HB3.out).mono ?_
    rintro e w4 ⟨rfl, hb4⟩
    have HB4 : Hid (Below w.heap.size w w4) := HB3.out.trans (hb4.mono HB3.out.size)
    clear hb4
    go_wp2_with fail
    refine (HBa.out _ HB4.out).mono ?_
    rintro e w5 ⟨a5, c5, rfl, hr5, hb5⟩
    have HB5 : Hid (Below w.heap.size w w5) := HB4.out.trans (hb5.mono HB4.out.size)
    have HR5 : Hid (w5.ownsRow w4.heap.size 9 1 (.slice a5 (blF A).length c5) (blF A).length ((blF A).map encStr)) := hr5
    clear hb5 hr5
    go_wp2_with fail
    refine (HBc.out _ HB5.out).mono ?_
    rintro e w6 ⟨a6, c6, rfl, hr6, hb6⟩
    have HB6 : Hid (Below w.heap.size w w6) := HB5.out.trans (hb6.mono HB5.out.size)
    have HCl : Hid (∀ ty, Calls Tryz.prog 11 #[.slice (some ⟨w6.heap.size, 0, none⟩) 2 2] (w6.alloc (.cells #[.slice a5 (blF A).length c5, .slice a6 (blF C).length c6] ty)) fun e w' => ∃ b, e = .returned (.bool b) ∧ (b = false → InjL (bxF A ++ bxF C)) ∧ Below w6.heap.size w6 w') := fun ty => cl_two HOk.out.1 HOk.out.2 (row_heap HR5.out fun b hb => hb6.block b (HR5.out.lt b hb).2) hr6 ty
    clear hb6 hr6 HR5 HBa HBc HRa HRc HU HT
    go_wp2_with fail
    refine (HCl.out _).mono ?_
    rintro e w7 ⟨b, rfl, hi, hb7⟩
    have HB7 : Hid (Below w.heap.size w w7) := HB6.out.trans (hb7.mono HB6.out.size)
    have HI : Hid (b = false → InjL (bxF A ++ bxF C)) := hi
    clear hb7 hi HCl
    cases b with
    | true =>
      go_wp2
      go_ret
      exact ⟨rfl, HB7.out⟩
    | false =>
      have hend := HEnd.out (HI.out rfl)
      have HS7 : Hid (Calls Tryz.prog 12 #[.slice ao A.length ac, .slice co C.length cc] w7 (SmP A C w7)) := HSm.out _ HB7.out
      rcases hend with ⟨e1, e2, e3⟩ | ⟨e1, e2, e3⟩
      · have HE1 : Hid (A = C) := e1
        clear e1
        go_wp2_with fail
        refine HS7.out.mono ?_
        rintro e w8 ⟨bb, rfl, hbb, n, rfl⟩
        obtain rfl : bb = true := hbb.2 HE1.out
        clear hbb
        go_wp2
        go_ret
        exact ⟨rfl, below_drewN HB7.out n⟩
      · have HE1 : Hid (A ≠ C) := e1
        clear e1
        go_wp2_with fail
        refine HS7.out.mono ?_
        rintro e w8 ⟨bb, rfl, hbb, n, rfl⟩
        obtain rfl : bb = false := by
          cases bb with
          | false => rfl
          | true => exact absurd (hbb.1 rfl) HE1.out
        clear hbb
        go_wp2
        go_ret
        exact ⟨rfl, below_drewN HB7.out n⟩
  · unfold DfP at HU
    generalize erF A C = c at *
    have h1 : (c != 0) = true := by simpa using h0
    clear h0 ha hc he
    go_enter Tryz.func6, Tryz.ntmps6
    go_wp2_with fail
    refine HT.out.mono ?_
    rintro e w1 ⟨rfl, hb1⟩
    have HB1 : Hid (Below w.heap.size w w1) := hb1
    clear hb1
    go_wp2_with fail
    refine (HU.out _ HB1.out).mono ?_
    rintro e w2 ⟨xa, xc, rfl, _, hb2⟩
    have HB2 : Hid (Below w.heap.size w w2) := HB1.out.trans (hb2.mono HB1.out.size)
    clear hb2
    go_wp2
    go_ret
    exact ⟨rfl, HB2.out⟩

set_option maxRecDepth 100000 in
theorem tsame_lifted (os : Os) (started : os.Started) (H : Type) (enc : TypeId × Value → H) :
    ReturnsInHanded {} Tryz.checked os 6 .any (fun w args => (Rows.treeSameSpec.pre enc Tryz.prog Tryz.f6 Rows.treeSameRow.domain false w args ∧ laidMetH Tryz.prog Rows.treeSameRow.laid w) ∧ sizedMet enc Tryz.prog Tryz.f6 (OpenSpec.ofChange Rows.treeSameSpec) false w args)
      (Rows.treeSameSpec.post enc Tryz.prog Tryz.f6 false true false false) := by
  refine returns_laid own started (by kernel_rfl) Tryz.func6
    (ChangeSpec.witness_shaped (enc := enc) (C := Tryz.checked) (os := os) (X := fun w _ => laidMetH Tryz.prog Rows.treeSameRow.laid w) false (World.laidAll Tryz.prog os Rows.treeSameRow.laid) #[.slice none 0 0, .slice none 0 0] 8 (World.laidAll_os _ _ _)
      (World.shaped_of_ZipB (by kernel_rfl) (by kernel_rfl)) (by kernel_rfl) (by kernel_rfl) (by kernel_rfl)
      (by rw [MakeChecks.laidMetH_plain _ _ _ (by kernel_rfl)]; exact laidMet_laidAll _ (by kernel_rfl) (by kernel_rfl))) ?_
  intro W base args ds gs before hval0 hW hsz0 lies shape
  have hval : ∀ (j : Nat) t v, Tryz.f6.params[j]? = some t → args[j]? = some v → Value.okWide Tryz.prog W .any base t v := hval0
  have hW' := hW
  obtain ⟨p, q, hA0, hV, rfl, hfz, hnd⟩ := hW
  have hA : DataW.TrodAll enc Tryz.prog W 0 (fun _ => true) true Tryz.f6.params.toList args.toList ds p := hA0
  have hsz : (DataW.weightsEach Tryz.prog (Tryz.f6.params.toList ++ Rows.treeSameSpec.plain.varTypes Tryz.prog) (ds ++ gs)).all (· ≤ reachBytes) = true := hsz0
  rw [Tryz.params6] at hA hval hsz
  obtain ⟨v0, v1, d0, d1, p0, p1, rfl, rfl, rfl, h0, h1⟩ := trodAll_two hA
  obtain ⟨rfl, rfl⟩ := trodVars_none hV
  have r0 : ∀ elems sp, d0 = .slice elems sp → elems.length ≤ 4611686018427387904 := fun elems sp he => by
    have h1 := sized_slice hsz (j := 0) (t := 22) rfl (by rw [he]; rfl) Tryz.underlying22
    have h2 := reachBytes_lt
    rw [bytesFl] at h1
    omega
  obtain ⟨L, ao, cap, rfl, i0, hln⟩ := arg_files (hval 0 22 v0 rfl rfl) h0 r0
  have lt0 : ∀ x ∈ p0, x.block < W.heap.size := by obtain ⟨m, hm⟩ := h0; exact DataW.trod_lt m _ _ _ hm
  have r1 : ∀ elems sp, d1 = .slice elems sp → elems.length ≤ 4611686018427387904 := fun elems sp he => by
    have h1 := sized_slice hsz (j := 1) (t := 22) rfl (by rw [he]; rfl) Tryz.underlying22
    have h2 := reachBytes_lt
    rw [bytesFl] at h1
    omega
  obtain ⟨M, bo, bcap, rfl, i1, _⟩ := arg_files (hval 1 22 v1 rfl rfl) h1 r1
  have lt1 : ∀ x ∈ p1, x.block < W.heap.size := by obtain ⟨m, hm⟩ := h1; exact DataW.trod_lt m _ _ _ hm
  clear hA0 hval0
  refine (tsame_walk ao bo cap bcap L M W i0 i1 (env_of lies shape)).mono fun e W' ⟨he, bel⟩ => ?_
  subst he
  exact ⟨_, rfl, _, _, _, [], _, [], hW', trodAll_mk1 (shut_bool Tryz.underlying4 _), trodAll_mk2 (Below.trod laidOut (by kernel_rfl) (of_decide_eq_true (by kernel_rfl)) h0 bel lt0) (Below.trod laidOut (by kernel_rfl) (of_decide_eq_true (by kernel_rfl)) h1 bel lt1), rfl, bel.frame _, fun h => by cases h⟩

theorem treeSame_row : Rows.TreeSameSaid :=
  OpenClaim.holds_of_wide 6 Tryz.f6 rfl rfl rfl rfl rfl rfl rfl ⟨rfl, rfl, rfl, rfl, rfl⟩ rfl rfl rfl rfl rfl (by kernel_rfl) Tryz.func6 (by kernel_rfl)
    (of_decide_eq_true (by kernel_rfl)) (by unfold Func.isWrapper; first | (rw [if_pos (by decide +kernel)]; kernel_rfl) | (rw [if_neg (by decide +kernel)]; exact ⟨rfl, rfl⟩))
    (fun os started H enc _ => tsame_lifted os started H enc)

theorem treeSame_holds : Rows.TreeSameCardSaid :=
  Claim7.holds_tied_plain_at .later [] Rows.treeSameCard.laidKinds true Rows.treeSameCard.stood.harness false
    treeSame_row (fun _ h => by cases h) (by kernel_rfl) (fun _ h => by cases h) treeSame_row_tie rfl ⟨rfl, rfl⟩ (by kernel_rfl) rfl
    (fun f fn hf hfn => by
      obtain rfl : f = 6 := Option.some.inj ((show Tryz.prog.funcNamed Rows.treeSameRow.func = some 6 by kernel_rfl).symm.trans hf) |>.symm
      obtain rfl : fn = Tryz.f6 := (Option.some.inj (Tryz.func6.symm.trans hfn)).symm
      exact ⟨by kernel_rfl, fun j t ht => by
        rw [Tryz.params6] at ht
        have hm : t ∈ [22, 22] := by simpa using Array.mem_of_getElem? ht
        have hall : ([22, 22].all fun u => !Tryz.prog.wantsStandIn u) = true := by kernel_rfl
        exact (show Tryz.prog.wantsStandIn t = false by simpa using List.all_eq_true.1 hall t hm)⟩)
    (by kernel_rfl)
#print axioms treeSame_holds
end Go.Proofs.YtefdfcjohkndgaaGreatDoor
