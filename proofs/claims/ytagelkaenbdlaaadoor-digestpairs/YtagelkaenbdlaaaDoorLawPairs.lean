/- DigestPairs holds, its two listed variables tied to the program's text: for all two texts that can be read Pair answers just as the document's own function does, errors too, and the texts read behind the call as they read before; no condition of ours. -/
import Derived.Test.YtagelkaenbdlaaaDoorBegun
import Derived.Test.YtagelkaenbdlaaaDoorShaDoor
import Derived.Test.YtagelkaenbdlaaaDoorRPair
namespace Go.Proofs.YtagelkaenbdlaaaDoor
open Go.ChangeShapes Go.WideShapes Go.ChangeAt Go.RowKit
open Go.ChangeMaps (open_string shut_string)

theorem own : ownKnob Tryd.prog.godebug = none := by kernel_rfl

set_option maxHeartbeats 1000000 in
theorem textIs_ok (s : ByteArray) (w : World) :
    Calls Tryd.prog 15 #[.string s, .int .i64 0, .int .i64 0, .string s] w fun e w' => e = .returned (.bool true) ∧ w' = w := by
  go_enter Tryd.func15, Tryd.ntmps15
  go_wp2
  go_ret
  exact ⟨by simp, rfl⟩

set_option maxHeartbeats 1000000 in
theorem textIs_no (c : Int) (s : ByteArray) (w : World) (hc : (c != 0) = true) :
    Calls Tryd.prog 15 #[.string ⟨#[]⟩, .int .i64 c, .int .i64 c, .string s] w fun e w' => e = .returned (.bool true) ∧ w' = w := by
  go_enter Tryd.func15, Tryd.ntmps15
  go_wp2
  go_ret
  exact ⟨by simp, rfl⟩

set_option maxHeartbeats 1000000 in
theorem Pair_no (a b : ByteArray) (w : World) (h : digOk a = false ∨ digOk b = false) :
    Calls Tryd.prog 26 #[.string a, .string b] w fun e w' => e = .returned (.tuple #[.string ⟨#[]⟩, .int .i64 1]) ∧ w' = w := by
  cases ha : digOk a with
  | false =>
    have HA : Hid (Calls Tryd.prog 28 #[.string a] w fun e w' => e = .returned (.bool false) ∧ w' = w) := by rw [← ha]; exact Is_any a w
    clear ha h
    go_enter Tryd.func26, Tryd.ntmps26
    go_wp2_with fail
    refine HA.out.mono ?_
    rintro e w' ⟨rfl, rfl⟩
    go_wp2
    go_ret2
    exact ⟨rfl, rfl⟩
  | true =>
    have hb : digOk b = false := by
      rcases h with h | h
      · rw [ha] at h; cases h
      · exact h
    have HA : Hid (Calls Tryd.prog 28 #[.string a] w fun e w' => e = .returned (.bool true) ∧ w' = w) := by rw [← ha]; exact Is_any a w
    have HB : Hid (Calls Tryd.prog 28 #[.string b] w fun e w' => e = .returned (.bool false) ∧ w' = w) := by rw [← hb]; exact Is_any b w
    clear ha hb h
    go_enter Tryd.func26, Tryd.ntmps26
    go_wp2_with fail
    refine HA.out.mono ?_
    rintro e w' ⟨rfl, rfl⟩
    go_wp2_with fail
    refine HB.out.mono ?_
    rintro e w' ⟨rfl, rfl⟩
    go_wp2
    go_ret2
    exact ⟨rfl, rfl⟩

set_option maxHeartbeats 1000000 in
theorem prs_yes (a0 a1 : ByteArray) (w : World) (h0 : digOk a0 = true) (h1 : digOk a1 = true) (hs0 : a0.size ≤ maxLen) (hs1 : a1.size ≤ maxLen) (hm : Roots w) :
    Calls Tryd.prog 8 #[.string a0, .string a1] w fun e w' => e = .returned (.bool true) ∧ Below w.heap.size w w' := by
  have HM : Hid (Roots w) := hm
  have HP : Hid (∀ w, Roots w → Calls Tryd.prog 26 #[.string a0, .string a1] w fun e w' => e = .returned (.tuple #[.string (pairB a0 a1), .int .i64 0]) ∧ Below w.heap.size w w') := fun w h => Pair_yes a0 a1 w h0 h1 h
  have HD : Hid (∀ w, Calls Tryd.prog 27 #[.string a0, .string a1] w fun e w' => e = .returned (.string (pairB a0 a1)) ∧ Below w.heap.size w w') := fun w => PairOf_any a0 a1 w h0 h1
  have H0 : Hid (∀ w, Calls Tryd.prog 20 #[.string a0] w fun e w' => e = .returned (.bool true) ∧ w' = w) := fun w => by rw [← h0]; exact RIsDigest_any a0 w hs0
  have H1 : Hid (∀ w, Calls Tryd.prog 20 #[.string a1] w fun e w' => e = .returned (.bool true) ∧ w' = w) := fun w => by rw [← h1]; exact RIsDigest_any a1 w hs1
  generalize pairB a0 a1 = d at HP HD
  clear hm h0 h1 hs0 hs1
  go_enter Tryd.func8, Tryd.ntmps8
  go_wp2_with fail
  refine (HP.out w HM.out).mono ?_
  rintro e w1 ⟨rfl, hb1⟩
  have B1 : Hid (Below w.heap.size w w1) := hb1
  clear hb1
  go_wp2_with fail
  refine (H0.out w1).mono ?_
  rintro e w' ⟨rfl, rfl⟩
  go_wp2_with fail
  refine (H1.out _).mono ?_
  rintro e w' ⟨rfl, rfl⟩
  go_wp2_with fail
  refine (HD.out _).mono ?_
  rintro e w2 ⟨rfl, hb2⟩
  have B2 : Hid (Below w.heap.size w w2) := bl_tr B1.out hb2
  clear hb2
  go_wp2_with fail
  refine (digestBegun_any w2 (HM.out.up B2.out)).mono ?_
  rintro e w3 ⟨rfl, hb3⟩
  have B3 : Hid (Below w.heap.size w w3) := bl_tr B2.out hb3
  clear hb3
  go_wp2_with fail
  refine (textIs_ok d w3).mono ?_
  rintro e w' ⟨rfl, rfl⟩
  go_wp2
  go_ret
  exact ⟨by simp, B3.out⟩

set_option maxHeartbeats 1000000 in
theorem prs_no (a0 a1 : ByteArray) (w : World) (h : digOk a0 = false ∨ digOk a1 = false) (hs0 : a0.size ≤ maxLen) (hs1 : a1.size ≤ maxLen) (hm : Roots w) :
    Calls Tryd.prog 8 #[.string a0, .string a1] w fun e w' => e = .returned (.bool true) ∧ Below w.heap.size w w' := by
  have HM : Hid (Roots w) := hm
  have HP : Hid (∀ w, Calls Tryd.prog 26 #[.string a0, .string a1] w fun e w' => e = .returned (.tuple #[.string ⟨#[]⟩, .int .i64 1]) ∧ w' = w) := fun w => Pair_no a0 a1 w h
  have H0 : Hid (∀ w, Calls Tryd.prog 20 #[.string a0] w fun e w' => e = .returned (.bool (digOk a0)) ∧ w' = w) := fun w => RIsDigest_any a0 w hs0
  have H1 : Hid (∀ w, Calls Tryd.prog 20 #[.string a1] w fun e w' => e = .returned (.bool (digOk a1)) ∧ w' = w) := fun w => RIsDigest_any a1 w hs1
  clear hm hs0 hs1
  cases ha : digOk a0 with
  | false =>
    rw [ha] at H0
    clear h ha
    go_enter Tryd.func8, Tryd.ntmps8
    go_wp2_with fail
    refine (HP.out w).mono ?_
    rintro e w' ⟨rfl, rfl⟩
    go_wp2_with fail
    refine (H0.out _).mono ?_
    rintro e w' ⟨rfl, rfl⟩
    go_wp2_with fail
    refine (digestBegun_any _ HM.out).mono ?_
    rintro e w3 ⟨rfl, hb3⟩
    have B3 : Hid (Below _ _ w3) := hb3
    clear hb3
    go_wp2_with fail
    refine (textIs_no 1 _ w3 (by decide)).mono ?_
    rintro e w' ⟨rfl, rfl⟩
    go_wp2
    go_ret
    exact ⟨by simp, B3.out⟩
  | true =>
    have hb : digOk a1 = false := by
      rcases h with h | h
      · rw [ha] at h; cases h
      · exact h
    rw [ha] at H0
    rw [hb] at H1
    clear h ha hb
    go_enter Tryd.func8, Tryd.ntmps8
    go_wp2_with fail
    refine (HP.out w).mono ?_
    rintro e w' ⟨rfl, rfl⟩
    go_wp2_with fail
    refine (H0.out _).mono ?_
    rintro e w' ⟨rfl, rfl⟩
    go_wp2_with fail
    refine (H1.out _).mono ?_
    rintro e w' ⟨rfl, rfl⟩
    go_wp2_with fail
    refine (digestBegun_any _ HM.out).mono ?_
    rintro e w3 ⟨rfl, hb3⟩
    have B3 : Hid (Below _ _ w3) := hb3
    clear hb3
    go_wp2_with fail
    refine (textIs_no 1 _ w3 (by decide)).mono ?_
    rintro e w' ⟨rfl, rfl⟩
    go_wp2
    go_ret
    exact ⟨by simp, B3.out⟩

theorem prs_walk (a0 a1 : ByteArray) (w : World) (hs0 : a0.size ≤ maxLen) (hs1 : a1.size ≤ maxLen) (hm : Roots w) :
    Calls Tryd.prog 8 #[.string a0, .string a1] w fun e w' => e = .returned (.bool true) ∧ Below w.heap.size w w' := by
  cases h0 : digOk a0 with
  | false => exact prs_no a0 a1 w (.inl h0) hs0 hs1 hm
  | true =>
    cases h1 : digOk a1 with
    | false => exact prs_no a0 a1 w (.inr h1) hs0 hs1 hm
    | true => exact prs_yes a0 a1 w h0 h1 hs0 hs1 hm

set_option maxRecDepth 100000 in
theorem prs_lifted (os : Os) (started : os.Started) (H : Type) (enc : TypeId × Value → H) :
    ReturnsInHanded {} Tryd.checked os 8 .any (fun w args => (Rows.digestPairsSpec.pre enc Tryd.prog Tryd.f8 Rows.digestPairsRow.domain false w args ∧ laidMetH Tryd.prog Rows.digestPairsRow.laid w) ∧ sizedMet enc Tryd.prog Tryd.f8 (OpenSpec.ofChange Rows.digestPairsSpec) false w args)
      (Rows.digestPairsSpec.post enc Tryd.prog Tryd.f8 false true false false) := by
  refine returns_laid own started (by kernel_rfl) Tryd.func8
    (ChangeSpec.witness_shaped (enc := enc) (C := Tryd.checked) (os := os) (X := fun w _ => laidMetH Tryd.prog Rows.digestPairsRow.laid w) false (World.laidAll Tryd.prog os Rows.digestPairsRow.laid) #[.string ByteArray.empty, .string ByteArray.empty] 8 (World.laidAll_os _ _ _)
      (World.shaped_of_ZipB (by kernel_rfl) (by kernel_rfl)) (by kernel_rfl) (by kernel_rfl) (by kernel_rfl)
      (by rw [MakeChecks.laidMetH_plain _ _ _ (by kernel_rfl)]; exact laidMet_laidAll _ (by kernel_rfl) (by kernel_rfl))) ?_
  intro W base args ds gs before hval0 hW _ lies _
  have hval : ∀ (j : Nat) t v, Tryd.f8.params[j]? = some t → args[j]? = some v → Value.okWide Tryd.prog W .any base t v := hval0
  have hW' := hW
  obtain ⟨p, q, hA0, hV, rfl, hfz, hnd⟩ := hW
  have hA : DataW.TrodAll enc Tryd.prog W 0 (fun _ => true) true Tryd.f8.params.toList args.toList ds p := hA0
  rw [Tryd.params8] at hA hval
  obtain ⟨v0, v1, d0, d1, p0, p1, rfl, rfl, rfl, h0, h1⟩ := trodAll_two hA
  obtain ⟨rfl, rfl⟩ := trodVars_none hV
  obtain ⟨a0, rfl, rfl, rfl, w0⟩ := open_string Tryd.underlying9 (hval 0 9 v0 rfl rfl) h0
  obtain ⟨a1, rfl, rfl, rfl, w1⟩ := open_string Tryd.underlying9 (hval 1 9 v1 rfl rfl) h1
  clear hA0 hval0
  refine (prs_walk a0 a1 W w0 w1 (roots_of_laid lies)).mono fun e W' ⟨he, bel⟩ => ?_
  subst he
  exact ⟨_, rfl, _, _, _, [], _, [], hW', trodAll_mk1 (shut_bool Tryd.underlying4 _), trodAll_mk2 (shut_string Tryd.underlying9 w0) (shut_string Tryd.underlying9 w1), rfl, bel.frame _, fun h => by cases h⟩

theorem digestPairs_row : Rows.DigestPairsSaid :=
  OpenClaim.holds_of_wide 8 Tryd.f8 rfl rfl rfl rfl rfl rfl rfl ⟨rfl, rfl, rfl, rfl, rfl⟩ rfl rfl rfl rfl rfl (by kernel_rfl) Tryd.func8 (by kernel_rfl)
    (of_decide_eq_true (by kernel_rfl)) (by unfold Func.isWrapper; first | (rw [if_pos (by decide +kernel)]; kernel_rfl) | (rw [if_neg (by decide +kernel)]; exact ⟨rfl, rfl⟩))
    (fun os started H enc _ => prs_lifted os started H enc)

theorem digestPairs_holds : Rows.DigestPairsCardSaid :=
  Claim7.holds_tied_plain_at .later [] Rows.digestPairsCard.laidKinds true Rows.digestPairsCard.stood.harness false
    digestPairs_row (fun _ h => by cases h) (by kernel_rfl) (fun _ h => by cases h) digestPairs_row_tie rfl ⟨rfl, rfl⟩ (by kernel_rfl) rfl
    (fun f fn hf hfn => by
      obtain rfl : f = 8 := Option.some.inj ((show Tryd.prog.funcNamed Rows.digestPairsRow.func = some 8 by kernel_rfl).symm.trans hf) |>.symm
      obtain rfl : fn = Tryd.f8 := (Option.some.inj (Tryd.func8.symm.trans hfn)).symm
      exact ⟨by kernel_rfl, fun j t ht => by
        rw [Tryd.params8] at ht
        have hm : t ∈ [9, 9] := by simpa using Array.mem_of_getElem? ht
        have hall : ([9, 9].all fun u => !Tryd.prog.wantsStandIn u) = true := by kernel_rfl
        exact (show Tryd.prog.wantsStandIn t = false by simpa using List.all_eq_true.1 hall t hm)⟩)
    (by kernel_rfl)
#print axioms digestPairs_holds
end Go.Proofs.YtagelkaenbdlaaaDoor
