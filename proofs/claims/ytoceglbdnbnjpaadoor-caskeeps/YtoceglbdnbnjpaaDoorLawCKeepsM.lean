/- CasKeeps holds, its two listed variables tied to the program's text: for every room, text and list of texts that can be read the law answers true, and each argument reads behind the call as it read before; no condition of ours. -/
import Derived.Test.YtoceglbdnbnjpaaDoorTq6
namespace Go.Proofs.YtoceglbdnbnjpaaDoor
open Go.ChangeMaps (open_string shut_string)
open Go.ChangeShapes Go.WideShapes Go.ChangeAt Go.RowKit

theorem keeps_walk (r : Int) (first : ByteArray) (v : Value) (ss : List ByteArray) (w : World) (h : Tx w v ss) (hf : first.size ≤ 140737488351232) (hs : ∀ s ∈ ss, s.size ≤ 140737488351232) (hR : Roots w) :
    Calls Tryd.prog 4 #[.int .i64 r, .string first, v] w fun e w' => e = .returned (.bool true) ∧ Below w.heap.size w w' := by
  by_cases hr : r < 0 ∨ 9007199254740991 < r
  · exact keeps_out r first v w hr hR
  · obtain ⟨n, rfl⟩ : ∃ n : Nat, r = (n : Int) := ⟨r.toNat, by omega⟩
    exact keeps_in n first v ss w (by omega) h hf hs hR

set_option maxRecDepth 100000 in
theorem keeps_walk_lifted (os : Os) (started : os.Started) (H : Type) (enc : TypeId × Value → H) :
    ReturnsInHanded {} Tryd.checked os 4 .any (fun w args => (Rows.casKeepsSpec.pre enc Tryd.prog Tryd.f4 Rows.casKeepsRow.domain false w args ∧ laidMetH Tryd.prog Rows.casKeepsRow.laid w) ∧ sizedMet enc Tryd.prog Tryd.f4 (OpenSpec.ofChange Rows.casKeepsSpec) false w args)
      (Rows.casKeepsSpec.post enc Tryd.prog Tryd.f4 false true false false) := by
  refine returns_laid own started (by kernel_rfl) Tryd.func4
    (ChangeSpec.witness_shaped (enc := enc) (C := Tryd.checked) (os := os) (X := fun w _ => laidMetH Tryd.prog Rows.casKeepsRow.laid w) false (World.laidAll Tryd.prog os Rows.casKeepsRow.laid) #[.int .i64 0, .string ⟨#[]⟩, .slice none 0 0] 8 (World.laidAll_os _ _ _)
      (World.shaped_of_ZipB (by kernel_rfl) (by kernel_rfl)) (by kernel_rfl) (by kernel_rfl) (by kernel_rfl)
      (by rw [MakeChecks.laidMetH_plain _ _ _ (by kernel_rfl)]; exact laidMet_laidAll _ (by kernel_rfl) (by kernel_rfl))) ?_
  intro W base args ds gs before hval0 hW hsz0 lies shape
  have hval : ∀ (j : Nat) t v, Tryd.f4.params[j]? = some t → args[j]? = some v → Value.okWide Tryd.prog W .any base t v := hval0
  have hW' := hW
  obtain ⟨p, q, hA0, hV, rfl, hfz, hnd⟩ := hW
  have hA : DataW.TrodAll enc Tryd.prog W 0 (fun _ => true) true Tryd.f4.params.toList args.toList ds p := hA0
  have hsz : (DataW.weightsEach Tryd.prog (Tryd.f4.params.toList ++ Rows.casKeepsSpec.plain.varTypes Tryd.prog) (ds ++ gs)).all (· ≤ reachBytes) = true := hsz0
  rw [Tryd.params4] at hA hval hsz
  obtain ⟨v0, v1, v2, d0, d1, d2, p0, p1, p2, rfl, rfl, rfl, h0, h1, h2⟩ := trodAll_three hA
  obtain ⟨rfl, rfl⟩ := trodVars_none hV
  obtain ⟨a0, rfl, rfl, rfl, w0⟩ := open_int Tryd.underlying3 (hval 0 3 v0 rfl rfl) h0
  have r0 : -9223372036854775808 ≤ a0 ∧ a0 ≤ 9223372036854775807 := by simpa [Lit.wf, IntKind.min, IntKind.max, IntKind.signed, IntKind.bits] using w0
  obtain ⟨a1, rfl, rfl, rfl, w1⟩ := open_string Tryd.underlying9 (hval 1 9 v1 rfl rfl) h1
  obtain ⟨ss2, ht2, hz2⟩ := arg_txz (hval 2 30 v2 rfl rfl) h2 (arg_len hsz 2 d2 rfl rfl) (arg_each hsz 2 d2 rfl rfl)
  have hr1 : a1.size ≤ 140737488351232 := by
    have h3 := sized_string hsz (j := 1) (t := 9) rfl rfl
    rw [← d_size (s := a1) rfl, reach_is] at h3
    exact h3
  have lt2 : ∀ x ∈ p2, x.block < W.heap.size := by obtain ⟨m, hm⟩ := h2; exact DataW.trod_lt m _ _ _ hm
  clear hA0 hval0
  refine (keeps_walk a0 a1 v2 ss2 W ht2 hr1 hz2 (roots_of_laid lies)).mono fun e W' ⟨he, bel⟩ => ?_
  subst he
  exact ⟨_, rfl, _, _, _, [], _, [], hW', trodAll_mk1 (shut_bool Tryd.underlying4 _), trodAll_mk3 (shut_int Tryd.underlying3 w0) (shut_string Tryd.underlying9 w1) (Below.trod laidOut (by kernel_rfl) (of_decide_eq_true (by kernel_rfl)) h2 bel lt2), rfl, bel.frame _, fun h => by cases h⟩

theorem casKeeps_row : Rows.CasKeepsSaid :=
  OpenClaim.holds_of_wide 4 Tryd.f4 rfl rfl rfl rfl rfl rfl rfl ⟨rfl, rfl, rfl, rfl, rfl⟩ rfl rfl rfl rfl rfl (by kernel_rfl) Tryd.func4 (by kernel_rfl)
    (of_decide_eq_true (by kernel_rfl)) (by unfold Func.isWrapper; first | (rw [if_pos (by decide +kernel)]; kernel_rfl) | (rw [if_neg (by decide +kernel)]; exact ⟨rfl, rfl⟩))
    (fun os started H enc _ => keeps_walk_lifted os started H enc)

theorem casKeeps_holds : Rows.CasKeepsCardSaid :=
  Claim7.holds_tied_plain_at .later [] Rows.casKeepsCard.laidKinds true Rows.casKeepsCard.stood.harness true
    casKeeps_row (fun _ h => by cases h) (by kernel_rfl) (fun _ h => by cases h) casKeeps_row_tie rfl ⟨rfl, rfl⟩ (by kernel_rfl) rfl
    (fun f fn hf hfn => by
      obtain rfl : f = 4 := Option.some.inj ((show Tryd.prog.funcNamed Rows.casKeepsRow.func = some 4 by kernel_rfl).symm.trans hf) |>.symm
      obtain rfl : fn = Tryd.f4 := (Option.some.inj (Tryd.func4.symm.trans hfn)).symm
      exact ⟨by kernel_rfl, fun j t ht => by
        rw [Tryd.params4] at ht
        have hm : t ∈ [3, 9, 30] := by simpa using Array.mem_of_getElem? ht
        have hall : ([3, 9, 30].all fun u => !Tryd.prog.wantsStandIn u) = true := by kernel_rfl
        exact (show Tryd.prog.wantsStandIn t = false by simpa using List.all_eq_true.1 hall t hm)⟩)
    (by kernel_rfl)
#print axioms casKeeps_holds
end Go.Proofs.YtoceglbdnbnjpaaDoor
