/- TokenLevels: the law. -/
import Derived.Test.YtdfimmekhbkglaaDoorTkDr
import Derived.Test.YtdfimmekhbkglaaDoorTkLw
import Derived.ChangeMaps5
namespace Go.Proofs.YtdfimmekhbkglaaDoor
open Go.ChangeShapes Go.WideShapes Go.ChangeAt Go.RowKit Go.Shelf
open Go.ChangeMaps (open_string shut_string)

theorem size_of {s : ByteArray} {l : List UInt8} (h : s.data.toList = l) : s.size = l.length := by
  rw [← h]; rfl

theorem lw_walk (s : ByteArray) (w : World) (_hs : s.size ≤ 140737488355328) (hr : ErrR w) :
    Calls Tryd.prog 3 #[.string s] w fun e w' => e = .returned (.bool true) ∧ Below w.heap.size w w' := by
  rw [mk_self s]
  clear _hs
  generalize s.data.toList = L at *
  cases h : splitA L with
  | error x =>
    obtain ⟨k, z⟩ := x
    refine lw_err L k z w hr h ?_
    unfold splitA at h
    split at h
    · exact (splitL_lv L).2 k z h
    · cases h; exact Nat.zero_le _
  | ok l =>
    have hh := h
    unfold splitA at hh
    split at hh
    · obtain ⟨a, b⟩ := (splitL_lv L).1 l hh
      exact lw_ok L l w hr h a b
    · cases hh

set_option maxRecDepth 100000 in
theorem lw_lifted (os : Os) (started : os.Started) (H : Type) (enc : TypeId × Value → H) :
    ReturnsInHanded {} Tryd.checked os 3 .any (fun w args => (Rows.tokenLevelsSpec.pre enc Tryd.prog Tryd.f3 Rows.tokenLevelsRow.domain false w args ∧ laidMetH Tryd.prog Rows.tokenLevelsRow.laid w) ∧ sizedMet enc Tryd.prog Tryd.f3 (OpenSpec.ofChange Rows.tokenLevelsSpec) false w args)
      (Rows.tokenLevelsSpec.post enc Tryd.prog Tryd.f3 false true false false) := by
  refine returns_laid own started (by kernel_rfl) Tryd.func3
    (ChangeSpec.witness_shaped (enc := enc) (C := Tryd.checked) (os := os) (X := fun w _ => laidMetH Tryd.prog Rows.tokenLevelsRow.laid w) false (World.laidAll Tryd.prog os Rows.tokenLevelsRow.laid) #[.string ByteArray.empty] 8 (World.laidAll_os _ _ _)
      (World.shaped_of_ZipB (by kernel_rfl) (by kernel_rfl)) (by kernel_rfl) (by kernel_rfl) (by kernel_rfl)
      (by rw [MakeChecks.laidMetH_plain _ _ _ (by kernel_rfl)]; exact laidMet_laidAll _ (by kernel_rfl) (by kernel_rfl))) ?_
  intro W base args ds gs before hval0 hW hsz0 lies _
  have hval : ∀ (j : Nat) t v, Tryd.f3.params[j]? = some t → args[j]? = some v → Value.okWide Tryd.prog W .any base t v := hval0
  have hW' := hW
  obtain ⟨p, q, hA0, hV, rfl, hfz, hnd⟩ := hW
  have hA : DataW.TrodAll enc Tryd.prog W 0 (fun _ => true) true Tryd.f3.params.toList args.toList ds p := hA0
  have hsz : (DataW.weightsEach Tryd.prog (Tryd.f3.params.toList ++ Rows.tokenLevelsSpec.plain.varTypes Tryd.prog) (ds ++ gs)).all (· ≤ reachBytes) = true := hsz0
  rw [Tryd.params3] at hA hval hsz
  obtain ⟨v0, d0, rfl, rfl, h0⟩ := trodAll_one hA
  obtain ⟨rfl, rfl⟩ := trodVars_none hV
  obtain ⟨a0, rfl, rfl, rfl, w0⟩ := open_string Tryd.underlying9 (hval 0 9 v0 rfl rfl) h0
  have hr : a0.size ≤ 140737488355328 := by
    have h2 := sized_string hsz (j := 0) (t := 9) rfl rfl
    have h3 := reachBytes_lt
    rw [← size_of (s := a0) rfl] at h2
    omega
  clear hA0 hval0
  refine (lw_walk a0 W hr (err_of_laid (show laidMetH Tryd.prog Rows.tokenStandsRow.laid _ from lies))).mono fun e W' ⟨he, bel⟩ => ?_
  subst he
  exact ⟨_, rfl, _, _, _, [], _, [], hW', trodAll_mk1 (shut_bool Tryd.underlying4 _), trodAll_mk1 (shut_string Tryd.underlying9 w0), rfl, bel.frame _, fun h => by cases h⟩

theorem tokenLevels_row : Rows.TokenLevelsSaid :=
  OpenClaim.holds_of_wide 3 Tryd.f3 rfl rfl rfl rfl rfl rfl rfl ⟨rfl, rfl, rfl, rfl, rfl⟩ rfl rfl rfl rfl rfl (by kernel_rfl) Tryd.func3 (by kernel_rfl)
    (of_decide_eq_true (by kernel_rfl)) (by unfold Func.isWrapper; first | (rw [if_pos (by decide +kernel)]; kernel_rfl) | (rw [if_neg (by decide +kernel)]; exact ⟨rfl, rfl⟩))
    (fun os started H enc _ => lw_lifted os started H enc)

theorem tokenLevels_holds : Rows.TokenLevelsCardSaid :=
  Claim7.holds_tied_plain_at .later [] Rows.tokenLevelsCard.laidKinds true Rows.tokenLevelsCard.stood.harness true
    tokenLevels_row (fun _ h => by cases h) (by kernel_rfl) (fun _ h => by cases h) tokenLevels_row_tie rfl ⟨rfl, rfl⟩ (by kernel_rfl) rfl
    (fun f fn hf hfn => by
      obtain rfl : f = 3 := Option.some.inj ((show Tryd.prog.funcNamed Rows.tokenLevelsRow.func = some 3 by kernel_rfl).symm.trans hf) |>.symm
      obtain rfl : fn = Tryd.f3 := (Option.some.inj (Tryd.func3.symm.trans hfn)).symm
      exact ⟨by kernel_rfl, fun j t ht => by
        rw [Tryd.params3] at ht
        have hm : t ∈ [9] := by simpa using Array.mem_of_getElem? ht
        have hall : ([9].all fun u => !Tryd.prog.wantsStandIn u) = true := by kernel_rfl
        exact (show Tryd.prog.wantsStandIn t = false by simpa using List.all_eq_true.1 hall t hm)⟩)
    (by kernel_rfl)
#print axioms tokenLevels_holds
end Go.Proofs.YtdfimmekhbkglaaDoor
