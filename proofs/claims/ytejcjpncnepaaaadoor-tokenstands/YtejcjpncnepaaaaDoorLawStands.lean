/- TokenStands: the law. -/
import Derived.Test.YtejcjpncnepaaaaDoorTkDr
import Derived.ChangeMaps5
namespace Go.Proofs.YtejcjpncnepaaaaDoor
open Go.ChangeShapes Go.WideShapes Go.ChangeAt Go.RowKit Go.Shelf
open Go.ChangeMaps (open_string shut_string)

theorem size_of {s : ByteArray} {l : List UInt8} (h : s.data.toList = l) : s.size = l.length := by
  rw [← h]; rfl

set_option maxHeartbeats 4000000 in
set_option maxRecDepth 100000 in
theorem st_err (L : List UInt8) (k z : Nat) (w : World) (hr : ErrR w) (hl : splitA L = .error (k, z)) :
    Calls Tryd.prog 4 #[.string (mkB L)] w fun e w' => e = .returned (.bool true) ∧ Below w.heap.size w w' := by
  have HBg : Hid (Calls Tryd.prog 6 #[] w fun e w' => e = .returned (.bool true) ∧ Below w.heap.size w w') := begun_any w hr
  have HSp : Hid (∀ W, Below w.heap.size w W → Calls Tryd.prog 7 #[.string (mkB L)] W fun e w' => e = .returned (.tuple #[.slice none 0 0, .agg #[.int .i64 (k : Int), .int .i64 (z : Int)]]) ∧ Below w.heap.size w w') := fun W hW => (Split_any L W (hr.up hW)).mono fun e w' ⟨h1, _, h3⟩ => ⟨h1 k z hl, hW.trans (h3.mono hW.size)⟩
  clear hr hl
  go_enter Tryd.func4, Tryd.ntmps4
  go_wp2_with fail
  refine HBg.out.mono ?_
  rintro e w1 ⟨rfl, hb1⟩
  go_wp2_with fail
  refine (HSp.out w1 hb1).mono ?_
  rintro e w2 ⟨rfl, hb2⟩
  have H3 : Hid (Below w.heap.size w (w2.alloc (.cells #[.int .i64 (k : Int), .int .i64 (z : Int)] 26))) := hb2.alloc hb2.size _
  clear hb1 hb2 HBg HSp
  go_wp2
  generalize w2.alloc (.cells #[.int .i64 (k : Int), .int .i64 (z : Int)] 26) = w3 at *
  go_loopw [5] (fun v wr => v = .int .i64 0 ∧ wr = w3) (fun _ _ => 0)
  case atStart => exact ⟨rfl, rfl⟩
  case round =>
    obtain ⟨rfl, rfl⟩ := hrel
    go_wp2
    go_ret
    exact ⟨rfl, H3.out⟩

theorem st_walk (s : ByteArray) (w : World) (hs : s.size ≤ 140737488355328) (hr : ErrR w) :
    Calls Tryd.prog 4 #[.string s] w fun e w' => e = .returned (.bool true) ∧ Below w.heap.size w w' := by
  rw [mk_self s] at hs ⊢
  generalize s.data.toList = L at *
  cases h : splitA L with
  | error x => obtain ⟨k, z⟩ := x; exact st_err L k z w hr h
  | ok l =>
    refine st_ok L l w hs hr h ?_
    unfold splitA at h
    split at h
    · exact splitL_std h
    · cases h

set_option maxRecDepth 100000 in
theorem st_lifted (os : Os) (started : os.Started) (H : Type) (enc : TypeId × Value → H) :
    ReturnsInHanded {} Tryd.checked os 4 .any (fun w args => (Rows.tokenStandsSpec.pre enc Tryd.prog Tryd.f4 Rows.tokenStandsRow.domain false w args ∧ laidMetH Tryd.prog Rows.tokenStandsRow.laid w) ∧ sizedMet enc Tryd.prog Tryd.f4 (OpenSpec.ofChange Rows.tokenStandsSpec) false w args)
      (Rows.tokenStandsSpec.post enc Tryd.prog Tryd.f4 false true false false) := by
  refine returns_laid own started (by kernel_rfl) Tryd.func4
    (ChangeSpec.witness_shaped (enc := enc) (C := Tryd.checked) (os := os) (X := fun w _ => laidMetH Tryd.prog Rows.tokenStandsRow.laid w) false (World.laidAll Tryd.prog os Rows.tokenStandsRow.laid) #[.string ByteArray.empty] 8 (World.laidAll_os _ _ _)
      (World.shaped_of_ZipB (by kernel_rfl) (by kernel_rfl)) (by kernel_rfl) (by kernel_rfl) (by kernel_rfl)
      (by rw [MakeChecks.laidMetH_plain _ _ _ (by kernel_rfl)]; exact laidMet_laidAll _ (by kernel_rfl) (by kernel_rfl))) ?_
  intro W base args ds gs before hval0 hW hsz0 lies _
  have hval : ∀ (j : Nat) t v, Tryd.f4.params[j]? = some t → args[j]? = some v → Value.okWide Tryd.prog W .any base t v := hval0
  have hW' := hW
  obtain ⟨p, q, hA0, hV, rfl, hfz, hnd⟩ := hW
  have hA : DataW.TrodAll enc Tryd.prog W 0 (fun _ => true) true Tryd.f4.params.toList args.toList ds p := hA0
  have hsz : (DataW.weightsEach Tryd.prog (Tryd.f4.params.toList ++ Rows.tokenStandsSpec.plain.varTypes Tryd.prog) (ds ++ gs)).all (· ≤ reachBytes) = true := hsz0
  rw [Tryd.params4] at hA hval hsz
  obtain ⟨v0, d0, rfl, rfl, h0⟩ := trodAll_one hA
  obtain ⟨rfl, rfl⟩ := trodVars_none hV
  obtain ⟨a0, rfl, rfl, rfl, w0⟩ := open_string Tryd.underlying9 (hval 0 9 v0 rfl rfl) h0
  have hr : a0.size ≤ 140737488355328 := by
    have h2 := sized_string hsz (j := 0) (t := 9) rfl rfl
    have h3 := reachBytes_lt
    rw [← size_of (s := a0) rfl] at h2
    omega
  clear hA0 hval0
  refine (st_walk a0 W hr (err_of_laid lies)).mono fun e W' ⟨he, bel⟩ => ?_
  subst he
  exact ⟨_, rfl, _, _, _, [], _, [], hW', trodAll_mk1 (shut_bool Tryd.underlying4 _), trodAll_mk1 (shut_string Tryd.underlying9 w0), rfl, bel.frame _, fun h => by cases h⟩

theorem tokenStands_row : Rows.TokenStandsSaid :=
  OpenClaim.holds_of_wide 4 Tryd.f4 rfl rfl rfl rfl rfl rfl rfl ⟨rfl, rfl, rfl, rfl, rfl⟩ rfl rfl rfl rfl rfl (by kernel_rfl) Tryd.func4 (by kernel_rfl)
    (of_decide_eq_true (by kernel_rfl)) (by unfold Func.isWrapper; first | (rw [if_pos (by decide +kernel)]; kernel_rfl) | (rw [if_neg (by decide +kernel)]; exact ⟨rfl, rfl⟩))
    (fun os started H enc _ => st_lifted os started H enc)

theorem tokenStands_holds : Rows.TokenStandsCardSaid :=
  Claim7.holds_tied_plain_at .later [] Rows.tokenStandsCard.laidKinds true Rows.tokenStandsCard.stood.harness true
    tokenStands_row (fun _ h => by cases h) (by kernel_rfl) (fun _ h => by cases h) tokenStands_row_tie rfl ⟨rfl, rfl⟩ (by kernel_rfl) rfl
    (fun f fn hf hfn => by
      obtain rfl : f = 4 := Option.some.inj ((show Tryd.prog.funcNamed Rows.tokenStandsRow.func = some 4 by kernel_rfl).symm.trans hf) |>.symm
      obtain rfl : fn = Tryd.f4 := (Option.some.inj (Tryd.func4.symm.trans hfn)).symm
      exact ⟨by kernel_rfl, fun j t ht => by
        rw [Tryd.params4] at ht
        have hm : t ∈ [9] := by simpa using Array.mem_of_getElem? ht
        have hall : ([9].all fun u => !Tryd.prog.wantsStandIn u) = true := by kernel_rfl
        exact (show Tryd.prog.wantsStandIn t = false by simpa using List.all_eq_true.1 hall t hm)⟩)
    (by kernel_rfl)
#print axioms tokenStands_holds
end Go.Proofs.YtejcjpncnepaaaaDoor
