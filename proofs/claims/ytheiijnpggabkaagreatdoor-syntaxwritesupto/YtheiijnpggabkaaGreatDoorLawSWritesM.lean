/- SyntaxWrites holds in its second form, its listed variables tied to the program's text: for every text of no more bulk than the form says, Quote answers what the document's QuoteText does; Parse and Canon begin as they must. -/
import Derived.Test.YtheiijnpggabkaaGreatDoorTs10
namespace Go.Proofs.YtheiijnpggabkaaGreatDoor
open Go.ChangeMaps (open_string shut_string)
open Go.ChangeShapes Go.WideShapes Go.ChangeAt Go.RowKit Go.Shelf

set_option maxHeartbeats 4000000 in
set_option maxRecDepth 100000 in
theorem writes_walk (s : ByteArray) (w : World) (hr : ErrR w) (ht : TabW w) (hs : s.size ≤ 1048576) :
    Calls Tryz.prog 3 #[.string s] w fun e w' => e = .returned (.bool true) ∧ Below w.heap.size w w' := by
  have HB := sbegun_any w hr ht
  have HQ : Hid (∀ W, Calls Tryz.prog 6 #[.string s] W fun e w' => e = .returned (.string ⟨(qtL s.data.toList).toArray⟩) ∧ Below W.heap.size W w') := fun W => Quote_any s W (by omega)
  have HD : Hid (∀ W, Calls Tryz.prog 7 #[.string s] W fun e w' => e = .returned (.string ⟨(qtL s.data.toList).toArray⟩) ∧ Below W.heap.size W w') := fun W => RQuote_any s W (by omega)
  clear hr ht
  generalize (⟨(qtL s.data.toList).toArray⟩ : ByteArray) = q at *
  go_enter Tryz.func3, Tryz.ntmps3
  go_wp2_with fail
  refine HB.mono ?_
  rintro e w1 ⟨rfl, hb1⟩
  have HQ1 := HQ.out w1
  go_wp2_with fail
  refine HQ1.mono ?_
  rintro e w2 ⟨rfl, hb2⟩
  have HD2 := HD.out w2
  go_wp2_with fail
  refine HD2.mono ?_
  rintro e w3 ⟨rfl, hb3⟩
  have HZ : Hid (Below w.heap.size w w3) := (hb1.trans (hb2.mono hb1.size)).trans (hb3.mono (Nat.le_trans hb1.size hb2.size))
  clear hb1 hb2 hb3 HQ1 HD2 HB HQ HD
  go_wp2
  go_ret
  exact ⟨ret_b (by simp), HZ.out⟩

set_option maxRecDepth 100000 in
theorem writes_walk_lifted (os : Os) (started : os.Started) (H : Type) (enc : TypeId × Value → H) (F : Stop.Interp) :
    ReturnsInHanded {} Tryz.checked os 3 .any ((Rows.OpenSpec.upto Rows.syntaxWritesSpec).preRow enc Tryz.prog Tryz.f3 Rows.syntaxWritesUptoRow.domain false Rows.syntaxWritesUptoRow.laid) (((Rows.OpenSpec.upto Rows.syntaxWritesSpec).at F).post enc Tryz.prog Tryz.f3 false true false false) := by
  refine returnsInHanded_of_row (C := Tryz.checked) (s := Rows.OpenSpec.upto Rows.syntaxWritesSpec) own started (by kernel_rfl) Tryz.func3
    (witness_up (enc := enc) (C := Tryz.checked) (os := os) (World.laidAll Tryz.prog os Rows.syntaxWritesUptoRow.laid) #[.string ⟨#[]⟩] (World.laidAll_os _ _ _)
      (World.shaped_of_ZipB (by kernel_rfl) (by kernel_rfl)) (by kernel_rfl)
      (OpenSpec.preRow_of_cond 8 (x := ([.lit (.string [])], [], [])) (by kernel_rfl) (by kernel_rfl) (fun k hk => by cases hk; kernel_rfl) (by kernel_rfl)
        (by rw [MakeChecks.laidMetH_plain _ _ _ (by kernel_rfl)]; exact laidMet_laidAll _ (by kernel_rfl) (by kernel_rfl)))) ?_
  intro W base args ds gs before hval0 hW _ hcond hsz0 lies shape _
  have hval : ∀ (j : Nat) t v, Tryz.f3.params[j]? = some t → args[j]? = some v → Value.okWide Tryz.prog W .any base t v := hval0
  have hk := hcond _ rfl
  have hW' := hW
  obtain ⟨p, q, hA0, hV, rfl, hfz, hnd⟩ := hW
  have hA : DataW.TrodAll enc Tryz.prog W 0 (fun _ => true) true Tryz.f3.params.toList args.toList ds p := hA0
  have hsz : (DataW.weightsEach Tryz.prog (Tryz.f3.params.toList ++ Rows.syntaxWritesSpec.plain.varTypes Tryz.prog) (ds ++ gs)).all (· ≤ reachBytes) = true := hsz0
  rw [Tryz.params3] at hA hval hsz
  obtain ⟨v0, d0, rfl, rfl, h0⟩ := trodAll_one hA
  obtain ⟨rfl, rfl⟩ := trodVars_none hV
  have h9 := of_decide_eq_true hk
  simp only [List.append_nil, Rows.uptoBulkAll] at h9
  obtain ⟨a0, rfl, rfl, rfl, w0⟩ := open_string Tryz.underlying9 (hval 0 9 v0 rfl rfl) h0
  clear hA0 hval0
  refine (writes_walk a0 W (err_syntaxWritesUpto lies) (tab_syntaxWritesUpto lies) (by have h8 := h9; simp [Rows.uptoBulk] at h8; omega)).mono fun e W' ⟨he, bel⟩ => ?_
  subst he
  exact ⟨_, rfl, _, _, _, [], _, [], hW', trodAll_mk1 (shut_bool Tryz.underlying4 _), trodAll_mk1 (shut_string Tryz.underlying9 w0), rfl, bel.frame _, fun h => by cases h⟩

theorem syntaxWritesUpto_row : Rows.SyntaxWritesUptoSaid :=
  OpenClaim.holds_of_cond 3 Tryz.f3 rfl rfl rfl rfl rfl rfl rfl ⟨rfl, rfl, rfl, rfl, rfl⟩ rfl rfl rfl rfl rfl (by kernel_rfl) Tryz.func3 (by kernel_rfl)
    (of_decide_eq_true (by kernel_rfl)) (by unfold Func.isWrapper; first | (rw [if_pos (by decide +kernel)]; kernel_rfl) | (rw [if_neg (by decide +kernel)]; exact ⟨rfl, rfl⟩))
    (fun os started H enc _ F => by rw [OpenClaim.pre_eq_preRow]; exact writes_walk_lifted os started H enc F)

theorem syntaxWritesUpto_holds : Rows.SyntaxWritesUptoCardSaid :=
  Claim7.holds_tied_plain_at .later [] Rows.syntaxWritesUptoCard.laidKinds true Rows.syntaxWritesUptoCard.stood.harness true
    syntaxWritesUpto_row (fun _ h => by cases h) (by kernel_rfl) (fun _ h => by cases h) syntaxWritesUpto_row_tie rfl ⟨rfl, rfl⟩ (by kernel_rfl) rfl
    (fun f fn hf hfn => by
      obtain rfl : f = 3 := Option.some.inj ((show Tryz.prog.funcNamed Rows.syntaxWritesUptoRow.func = some 3 by kernel_rfl).symm.trans hf) |>.symm
      obtain rfl : fn = Tryz.f3 := (Option.some.inj (Tryz.func3.symm.trans hfn)).symm
      exact ⟨by kernel_rfl, fun j t ht => by
        rw [Tryz.params3] at ht
        have hm : t ∈ [9] := by simpa using Array.mem_of_getElem? ht
        have hall : ([9].all fun u => !Tryz.prog.wantsStandIn u) = true := by kernel_rfl
        exact (show Tryz.prog.wantsStandIn t = false by simpa using List.all_eq_true.1 hall t hm)⟩)
    (by kernel_rfl)
#print axioms syntaxWritesUpto_holds
end Go.Proofs.YtheiijnpggabkaaGreatDoor
