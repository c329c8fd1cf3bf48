/- TreeRoots holds, its listed variables tied to the program's text: for every list of files that can be read Root answers just as the document says, errors too, and the list reads behind the call as it read before; no condition of ours. -/
import Derived.Test.YtefdfcjohkndgaaGreatDoorTa10
namespace Go.Proofs.YtefdfcjohkndgaaGreatDoor
open Go.ChangeShapes Go.WideShapes Go.ChangeAt Go.RowKit Go.Shelf Go.Sort

theorem laidOut : laidOutB Tryz.prog = true := by kernel_rfl

set_option maxHeartbeats 4000000 in
set_option maxRecDepth 100000 in
theorem troots_walk (ao : Option Addr) (cap : Nat) (L : List Fl) (w : World) (hl : IsFl w ao L) (he : Env w) :
    Calls Tryz.prog 4 #[.slice ao L.length cap] w fun e w' => e = .returned (.bool true) ∧ Below w.heap.size w w' := by
  have HP : Hid (Calls Tryz.prog 8 #[.slice ao L.length cap] w fun e w' => e = .returned (.tuple #[.string (if chF L = 0 then smD (pkT1 L).1 else ⟨#[]⟩), .int .i64 (chF L)]) ∧ Below w.heap.size w w') := Root_any ao cap L w hl he
  have HR : Hid (∀ W, Below w.heap.size w W → Calls Tryz.prog 14 #[.slice ao L.length cap] W fun e w' => e = .returned (.int .i64 (chF L)) ∧ Below W.heap.size W w') := fun W hW => RCheck_any ao cap L W (hl.below hW (Nat.le_refl _))
  have HT : Hid (∀ W, Below w.heap.size w W → Calls Tryz.prog 7 #[] W fun e w' => e = .returned (.bool true) ∧ Below W.heap.size W w') := fun W hW => treeBegun_any W (he.up hW)
  by_cases h0 : chF L = 0
  · have hok := okT_of h0
    rw [if_pos h0, h0] at HP
    rw [h0] at HR
    have HD : Hid (∀ W, Below w.heap.size w W → Calls Tryz.prog 15 #[.slice ao L.length cap] W fun e w' => e = .returned (.string (smD (pkT1 L).1)) ∧ Below W.heap.size W w') := fun W hW => TreeRoot_any ao cap L W hok (hl.below hW (Nat.le_refl _))
    generalize smD (pkT1 L).1 = r9 at *
    have HI : Hid (∀ W : World, Calls Tryz.prog 16 #[.string r9, .int .i64 0, .int .i64 0, .string r9] W fun e w' => e = .returned (.bool true) ∧ w' = W) := fun W => textIs_ok r9 W
    clear hl he h0 hok
    go_enter Tryz.func4, Tryz.ntmps4
    go_wp2_with fail
    refine HP.out.mono ?_
    rintro e w1 ⟨rfl, hb1⟩
    have HB1 : Hid (Below w.heap.size w w1) := hb1
    clear hb1
    go_wp2_with fail
    refine (HR.out _ HB1.out).mono ?_
    rintro e w2 ⟨rfl, hb2⟩
    have HB2 : Hid (Below w.heap.size w w2) := HB1.out.trans (hb2.mono HB1.out.size)
    clear hb2
    go_wp2_with fail
    refine (HD.out _ HB2.out).mono ?_
    rintro e w3 ⟨rfl, hb3⟩
    have HB3 : Hid (Below w.heap.size w w3) := HB2.out.trans (hb3.mono HB2.out.size)
    clear hb3
    go_wp2_with fail
    refine (HT.out _ HB3.out).mono ?_
    rintro e w4 ⟨rfl, hb4⟩
    have HB4 : Hid (Below w.heap.size w w4) := HB3.out.trans (hb4.mono HB3.out.size)
    clear hb4
    go_wp2_with fail
    refine (HI.out _).mono ?_
    rintro e w5 ⟨rfl, rfl⟩
    go_wp2
    go_ret
    exact ⟨rfl, HB4.out⟩
  · rw [if_neg h0] at HP
    generalize chF L = c at *
    have h1 : (c != 0) = true := by simpa using h0
    have h2 : (c == 0) = false := by simpa using h0
    have HI : Hid (∀ W : World, Calls Tryz.prog 16 #[.string ⟨#[]⟩, .int .i64 c, .int .i64 c, .string ⟨#[]⟩] W fun e w' => e = .returned (.bool true) ∧ w' = W) := fun W => textIs_no c ⟨#[]⟩ W h1
    clear hl he h0 h1
    go_enter Tryz.func4, Tryz.ntmps4
    go_wp2_with fail
    refine HP.out.mono ?_
    rintro e w1 ⟨rfl, hb1⟩
    have HB1 : Hid (Below w.heap.size w w1) := hb1
    clear hb1
    go_wp2_with fail
    refine (HR.out _ HB1.out).mono ?_
    rintro e w2 ⟨rfl, hb2⟩
    have HB2 : Hid (Below w.heap.size w w2) := HB1.out.trans (hb2.mono HB1.out.size)
    clear hb2
    go_wp2_with fail
    refine (HT.out _ HB2.out).mono ?_
    rintro e w4 ⟨rfl, hb4⟩
    have HB4 : Hid (Below w.heap.size w w4) := HB2.out.trans (hb4.mono HB2.out.size)
    clear hb4
    go_wp2_with fail
    refine (HI.out _).mono ?_
    rintro e w5 ⟨rfl, rfl⟩
    go_wp2
    go_ret
    exact ⟨rfl, HB4.out⟩

set_option maxRecDepth 100000 in
theorem troots_lifted (os : Os) (started : os.Started) (H : Type) (enc : TypeId × Value → H) :
    ReturnsInHanded {} Tryz.checked os 4 .any (fun w args => (Rows.treeRootsSpec.pre enc Tryz.prog Tryz.f4 Rows.treeRootsRow.domain false w args ∧ laidMetH Tryz.prog Rows.treeRootsRow.laid w) ∧ sizedMet enc Tryz.prog Tryz.f4 (OpenSpec.ofChange Rows.treeRootsSpec) false w args)
      (Rows.treeRootsSpec.post enc Tryz.prog Tryz.f4 false true false false) := by
  refine returns_laid own started (by kernel_rfl) Tryz.func4
    (ChangeSpec.witness_shaped (enc := enc) (C := Tryz.checked) (os := os) (X := fun w _ => laidMetH Tryz.prog Rows.treeRootsRow.laid w) false (World.laidAll Tryz.prog os Rows.treeRootsRow.laid) #[.slice none 0 0] 8 (World.laidAll_os _ _ _)
      (World.shaped_of_ZipB (by kernel_rfl) (by kernel_rfl)) (by kernel_rfl) (by kernel_rfl) (by kernel_rfl)
      (by rw [MakeChecks.laidMetH_plain _ _ _ (by kernel_rfl)]; exact laidMet_laidAll _ (by kernel_rfl) (by kernel_rfl))) ?_
  intro W base args ds gs before hval0 hW hsz0 lies shape
  have hval : ∀ (j : Nat) t v, Tryz.f4.params[j]? = some t → args[j]? = some v → Value.okWide Tryz.prog W .any base t v := hval0
  have hW' := hW
  obtain ⟨p, q, hA0, hV, rfl, hfz, hnd⟩ := hW
  have hA : DataW.TrodAll enc Tryz.prog W 0 (fun _ => true) true Tryz.f4.params.toList args.toList ds p := hA0
  have hsz : (DataW.weightsEach Tryz.prog (Tryz.f4.params.toList ++ Rows.treeRootsSpec.plain.varTypes Tryz.prog) (ds ++ gs)).all (· ≤ reachBytes) = true := hsz0
  rw [Tryz.params4] at hA hval hsz
  obtain ⟨v0, d0, rfl, rfl, h0⟩ := trodAll_one hA
  obtain ⟨rfl, rfl⟩ := trodVars_none hV
  have r0 : ∀ elems sp, d0 = .slice elems sp → elems.length ≤ 4611686018427387904 := fun elems sp he => by
    have h1 := sized_slice hsz (j := 0) (t := 22) rfl (by rw [he]; rfl) Tryz.underlying22
    have h2 := reachBytes_lt
    rw [bytesFl] at h1
    omega
  obtain ⟨L, ao, cap, rfl, i0, _⟩ := arg_files (hval 0 22 v0 rfl rfl) h0 r0
  have lt0 : ∀ x ∈ p, x.block < W.heap.size := by obtain ⟨m, hm⟩ := h0; exact DataW.trod_lt m _ _ _ hm
  clear hA0 hval0
  refine (troots_walk ao cap L W i0 (env_of lies shape)).mono fun e W' ⟨he, bel⟩ => ?_
  subst he
  exact ⟨_, rfl, _, _, _, [], _, [], hW', trodAll_mk1 (shut_bool Tryz.underlying4 _), trodAll_mk1 (Below.trod laidOut (by kernel_rfl) (of_decide_eq_true (by kernel_rfl)) h0 bel lt0), rfl, bel.frame _, fun h => by cases h⟩

theorem treeRoots_row : Rows.TreeRootsSaid :=
  OpenClaim.holds_of_wide 4 Tryz.f4 rfl rfl rfl rfl rfl rfl rfl ⟨rfl, rfl, rfl, rfl, rfl⟩ rfl rfl rfl rfl rfl (by kernel_rfl) Tryz.func4 (by kernel_rfl)
    (of_decide_eq_true (by kernel_rfl)) (by unfold Func.isWrapper; first | (rw [if_pos (by decide +kernel)]; kernel_rfl) | (rw [if_neg (by decide +kernel)]; exact ⟨rfl, rfl⟩))
    (fun os started H enc _ => troots_lifted os started H enc)

theorem treeRoots_holds : Rows.TreeRootsCardSaid :=
  Claim7.holds_tied_plain_at .later [] Rows.treeRootsCard.laidKinds true Rows.treeRootsCard.stood.harness false
    treeRoots_row (fun _ h => by cases h) (by kernel_rfl) (fun _ h => by cases h) treeRoots_row_tie rfl ⟨rfl, rfl⟩ (by kernel_rfl) rfl
    (fun f fn hf hfn => by
      obtain rfl : f = 4 := Option.some.inj ((show Tryz.prog.funcNamed Rows.treeRootsRow.func = some 4 by kernel_rfl).symm.trans hf) |>.symm
      obtain rfl : fn = Tryz.f4 := (Option.some.inj (Tryz.func4.symm.trans hfn)).symm
      exact ⟨by kernel_rfl, fun j t ht => by
        rw [Tryz.params4] at ht
        have hm : t ∈ [22] := by simpa using Array.mem_of_getElem? ht
        have hall : ([22].all fun u => !Tryz.prog.wantsStandIn u) = true := by kernel_rfl
        exact (show Tryz.prog.wantsStandIn t = false by simpa using List.all_eq_true.1 hall t hm)⟩)
    (by kernel_rfl)
#print axioms treeRoots_holds
end Go.Proofs.YtefdfcjohkndgaaGreatDoor
