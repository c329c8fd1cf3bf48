/- DigestRoots holds, its two listed variables tied to the program's text: for every list of texts that can be read Root answers just as the document's own function does, errors too, and the list reads behind the call as it read before; no condition of ours. -/
import Derived.Test.YtagelkaenbdlaaaDoorRRoot2
import Derived.OpenShut
import Derived.ShutString
import Derived.ChangeOld
import Derived.SliceStrings
namespace Go.Proofs.YtagelkaenbdlaaaDoor
open Go.ChangeShapes Go.WideShapes Go.ChangeAt Go.RowKit
open Go.ChangeMaps (open_string shut_string)

set_option maxHeartbeats 1000000 in
theorem textIs_ok (s : ByteArray) (w : World) :
    Calls Tryd.prog 15 #[.string s, .int .i64 0, .int .i64 0, .string s] w fun e w' => e = .returned (.bool true) ∧ w' = w := by
  go_enter Tryd.func15, Tryd.ntmps15
  go_wp2
  go_ret
  exact ⟨by simp, rfl⟩

set_option maxHeartbeats 1000000 in
theorem textIs_no (c : Int) (s : ByteArray) (w : World) (hc : (c != 0) = true) :
    Calls Tryd.prog 15 #[.string ⟨#[]⟩, .int .i64 c, .int .i64 c, .string s] w fun e w' => e = .returned (.bool true) ∧ w' = w := by
  go_enter Tryd.func15, Tryd.ntmps15
  go_wp2
  go_ret
  exact ⟨by simp, rfl⟩

set_option maxHeartbeats 1000000 in
theorem rts_yes (v : Value) (ss : List ByteArray) (w : World) (h : Tx w v ss) (hok : okD ss) (hm : Roots w) :
    Calls Tryd.prog 4 #[v] w fun e w' => e = .returned (.bool true) ∧ Below w.heap.size w w' := by
  have HM : Hid (Roots w) := hm
  have HP : Hid (Calls Tryd.prog 12 #[v] w fun e w' => e = .returned (.tuple #[.string (rootB ss), .int .i64 0]) ∧ Below w.heap.size w w') := Root_yes v ss w h hok hm
  have HC : Hid (∀ Y, Below w.heap.size w Y → Calls Tryd.prog 13 #[v, .int .i64 2000] Y fun e w' => e = .returned (.int .i64 0) ∧ w' = Y) := fun Y hY => CheckList_ok v ss Y (h.up hY) hok
  have HD : Hid (∀ Y, Below w.heap.size w Y → Calls Tryd.prog 14 #[v] Y fun e w' => e = .returned (.string (rootB ss)) ∧ Below Y.heap.size Y w') := fun Y hY => RootOf_any v ss Y (h.up hY) hok
  generalize rootB ss = d at HP HD
  clear hm h hok
  go_enter Tryd.func4, Tryd.ntmps4
  go_wp2_with fail
  refine HP.out.mono ?_
  rintro e w1 ⟨rfl, hb1⟩
  have B1 : Hid (Below w.heap.size w w1) := hb1
  clear hb1
  go_wp2_with fail
  refine (HC.out w1 B1.out).mono ?_
  rintro e w' ⟨rfl, rfl⟩
  go_wp2_with fail
  refine (HD.out _ B1.out).mono ?_
  rintro e w2 ⟨rfl, hb2⟩
  have B2 : Hid (Below w.heap.size w w2) := bl_tr B1.out hb2
  clear hb2
  go_wp2_with fail
  refine (digestBegun_any w2 (HM.out.up B2.out)).mono ?_
  rintro e w3 ⟨rfl, hb3⟩
  have B3 : Hid (Below w.heap.size w w3) := bl_tr B2.out hb3
  clear hb3
  go_wp2_with fail
  refine (textIs_ok d w3).mono ?_
  rintro e w' ⟨rfl, rfl⟩
  go_wp2
  go_ret
  exact ⟨by simp, B3.out⟩

set_option maxHeartbeats 1000000 in
theorem rts_no (v : Value) (ss : List ByteArray) (w : World) (h : Tx w v ss) (hno : ¬ okD ss) (hm : Roots w) :
    Calls Tryd.prog 4 #[v] w fun e w' => e = .returned (.bool true) ∧ Below w.heap.size w w' := by
  have HM : Hid (Roots w) := hm
  have HP : Hid (Calls Tryd.prog 12 #[v] w fun e w' => e = .returned (.tuple #[.string ⟨#[]⟩, .int .i64 2]) ∧ w' = w) := Root_no v ss w h hno
  have HC : Hid (Calls Tryd.prog 13 #[v, .int .i64 2000] w fun e w' => e = .returned (.int .i64 2) ∧ w' = w) := CheckList_no v ss w h hno
  clear hm h hno
  go_enter Tryd.func4, Tryd.ntmps4
  go_wp2_with fail
  refine HP.out.mono ?_
  rintro e w' ⟨rfl, rfl⟩
  go_wp2_with fail
  refine HC.out.mono ?_
  rintro e w' ⟨rfl, rfl⟩
  go_wp2_with fail
  refine (digestBegun_any _ HM.out).mono ?_
  rintro e w3 ⟨rfl, hb3⟩
  have B3 : Hid (Below _ _ w3) := hb3
  clear hb3
  go_wp2_with fail
  refine (textIs_no 2 _ w3 (by decide)).mono ?_
  rintro e w' ⟨rfl, rfl⟩
  go_wp2
  go_ret
  exact ⟨by simp, B3.out⟩

theorem rts_walk (v : Value) (ss : List ByteArray) (w : World) (h : Tx w v ss) (hm : Roots w) :
    Calls Tryd.prog 4 #[v] w fun e w' => e = .returned (.bool true) ∧ Below w.heap.size w w' := by
  by_cases hok : okD ss
  · exact rts_yes v ss w h hok hm
  · exact rts_no v ss w h hok hm

set_option maxRecDepth 100000 in
theorem rts_lifted (os : Os) (started : os.Started) (H : Type) (enc : TypeId × Value → H) :
    ReturnsInHanded {} Tryd.checked os 4 .any (fun w args => (Rows.digestRootsSpec.pre enc Tryd.prog Tryd.f4 Rows.digestRootsRow.domain false w args ∧ laidMetH Tryd.prog Rows.digestRootsRow.laid w) ∧ sizedMet enc Tryd.prog Tryd.f4 (OpenSpec.ofChange Rows.digestRootsSpec) false w args)
      (Rows.digestRootsSpec.post enc Tryd.prog Tryd.f4 false true false false) := by
  refine returns_laid own started (by kernel_rfl) Tryd.func4
    (ChangeSpec.witness_shaped (enc := enc) (C := Tryd.checked) (os := os) (X := fun w _ => laidMetH Tryd.prog Rows.digestRootsRow.laid w) false (World.laidAll Tryd.prog os Rows.digestRootsRow.laid) #[.slice none 0 0] 8 (World.laidAll_os _ _ _)
      (World.shaped_of_ZipB (by kernel_rfl) (by kernel_rfl)) (by kernel_rfl) (by kernel_rfl) (by kernel_rfl)
      (by rw [MakeChecks.laidMetH_plain _ _ _ (by kernel_rfl)]; exact laidMet_laidAll _ (by kernel_rfl) (by kernel_rfl))) ?_
  intro W base args ds gs before hval0 hW hsz0 lies _
  have hval : ∀ (j : Nat) t v, Tryd.f4.params[j]? = some t → args[j]? = some v → Value.okWide Tryd.prog W .any base t v := hval0
  have hW' := hW
  obtain ⟨p, q, hA0, hV, rfl, hfz, hnd⟩ := hW
  have hA : DataW.TrodAll enc Tryd.prog W 0 (fun _ => true) true Tryd.f4.params.toList args.toList ds p := hA0
  have hsz : (DataW.weightsEach Tryd.prog (Tryd.f4.params.toList ++ Rows.digestRootsSpec.plain.varTypes Tryd.prog) (ds ++ gs)).all (· ≤ reachBytes) = true := hsz0
  rw [Tryd.params4] at hA hval hsz
  obtain ⟨v0, d0, rfl, rfl, h0⟩ := trodAll_one hA
  obtain ⟨rfl, rfl⟩ := trodVars_none hV
  obtain ⟨ss, ht⟩ := arg_tx (hval 0 25 v0 rfl rfl) h0 (arg_len hsz 0 d0 rfl rfl)
  have lt0 : ∀ x ∈ p, x.block < W.heap.size := by obtain ⟨m, hm⟩ := h0; exact DataW.trod_lt m _ _ _ hm
  clear hA0 hval0
  refine (rts_walk v0 ss W ht (roots_of_laid lies)).mono fun e W' ⟨he, bel⟩ => ?_
  subst he
  exact ⟨_, rfl, _, _, _, [], _, [], hW', trodAll_mk1 (shut_bool Tryd.underlying4 _), trodAll_mk1 (Below.trod laidOut (by kernel_rfl) (of_decide_eq_true (by kernel_rfl)) h0 bel lt0), rfl, bel.frame _, fun h => by cases h⟩

theorem digestRoots_row : Rows.DigestRootsSaid :=
  OpenClaim.holds_of_wide 4 Tryd.f4 rfl rfl rfl rfl rfl rfl rfl ⟨rfl, rfl, rfl, rfl, rfl⟩ rfl rfl rfl rfl rfl (by kernel_rfl) Tryd.func4 (by kernel_rfl)
    (of_decide_eq_true (by kernel_rfl)) (by unfold Func.isWrapper; first | (rw [if_pos (by decide +kernel)]; kernel_rfl) | (rw [if_neg (by decide +kernel)]; exact ⟨rfl, rfl⟩))
    (fun os started H enc _ => rts_lifted os started H enc)

theorem digestRoots_holds : Rows.DigestRootsCardSaid :=
  Claim7.holds_tied_plain_at .later [] Rows.digestRootsCard.laidKinds true Rows.digestRootsCard.stood.harness false
    digestRoots_row (fun _ h => by cases h) (by kernel_rfl) (fun _ h => by cases h) digestRoots_row_tie rfl ⟨rfl, rfl⟩ (by kernel_rfl) rfl
    (fun f fn hf hfn => by
      obtain rfl : f = 4 := Option.some.inj ((show Tryd.prog.funcNamed Rows.digestRootsRow.func = some 4 by kernel_rfl).symm.trans hf) |>.symm
      obtain rfl : fn = Tryd.f4 := (Option.some.inj (Tryd.func4.symm.trans hfn)).symm
      exact ⟨by kernel_rfl, fun j t ht => by
        rw [Tryd.params4] at ht
        have hm : t ∈ [25] := by simpa using Array.mem_of_getElem? ht
        have hall : ([25].all fun u => !Tryd.prog.wantsStandIn u) = true := by kernel_rfl
        exact (show Tryd.prog.wantsStandIn t = false by simpa using List.all_eq_true.1 hall t hm)⟩)
    (by kernel_rfl)
#print axioms digestRoots_holds
end Go.Proofs.YtagelkaenbdlaaaDoor
