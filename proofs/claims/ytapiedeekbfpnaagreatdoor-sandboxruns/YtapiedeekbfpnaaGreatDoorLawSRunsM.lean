/- SandboxRuns holds, its listed variables tied to the program's text: for all files, every command and all fuel that can be read, Run answers just what the document says, to the last bit of fuel, errors too; all read behind the call as they read before; no condition of ours. -/
import Derived.Test.YtapiedeekbfpnaaGreatDoorTr13
namespace Go.Proofs.YtapiedeekbfpnaaGreatDoor
open Go.ChangeShapes Go.WideShapes Go.ChangeAt Go.RowKit Go.Shelf Go.Sort

set_option maxHeartbeats 2000000 in
set_option maxRecDepth 100000 in
theorem filesAre_sb (er : Int) (xa ya : Option Addr) (xc yc : Nat) (X Y : List Fl) (w : World) (hn : X.length ≤ 4611686018427387904) (hx : IsFl w xa X) (hy : IsFl w ya Y) (h1 : er ≠ 0 → X = []) (h2 : er = 0 → X = Y) :
    Calls Tryz.prog 12 #[.slice xa X.length xc, .int .i64 er, .int .i64 er, .slice ya Y.length yc] w fun e w' => e = .returned (.bool true) ∧ Below w.heap.size w w' := by
  by_cases h0 : er = 0
  · obtain rfl := h2 h0
    subst h0
    have HS : Hid (Calls Tryz.prog 15 #[.slice xa X.length xc, .slice ya X.length yc] w (SmP X X w)) := SameFiles_any xa ya xc yc X X w hn hx hy
    clear hx hy h1 h2
    go_enter Tryz.func12, Tryz.ntmps12
    go_wp2_with fail
    refine HS.out.mono ?_
    rintro e w1 ⟨b, rfl, hb, n, rfl⟩
    rw [hb.2 rfl]
    clear hb
    go_wp2
    go_ret
    exact ⟨rfl, below_dn w n⟩
  · obtain rfl := h1 h0
    have HS : Hid (Calls Tryz.prog 15 #[.slice xa 0 xc, .slice none 0 0] w (SmP [] [] w)) := SameFiles_any xa none xc 0 [] [] w (by decide) (.inl rfl) (.inl rfl)
    have h0' : (er != 0) = true := by simpa using h0
    clear hx hy h1 h2 h0
    rw [show ([] : List Fl).length = 0 from rfl]
    go_enter Tryz.func12, Tryz.ntmps12
    go_wp2_with fail
    refine HS.out.mono ?_
    rintro e w1 ⟨b, rfl, hb, n, rfl⟩
    rw [hb.2 rfl]
    clear hb
    go_wp2
    go_ret
    exact ⟨rfl, below_dn w n⟩

set_option maxHeartbeats 8000000 in
set_option maxRecDepth 100000 in
theorem runs_walk (ao co : Option Addr) (cap ccap : Nat) (F : List Fl) (ss : List ByteArray) (fuel : Int) (w : World) (hl : IsFl w ao F) (ht : TxAt w co ss) (he : Env w) (hlen : ss.length ≤ 4611686018427387904) (hf1 : -9223372036854775808 ≤ fuel) (hf2 : fuel ≤ 9223372036854775807) :
    Calls Tryz.prog 3 #[.slice ao F.length cap, .slice co ss.length ccap, .int .i64 fuel] w fun e w' => e = .returned (.bool true) ∧ Below w.heap.size w w' := by
  have HR : Hid (Calls Tryz.prog 9 #[.slice ao F.length cap, .slice co ss.length ccap, .int .i64 fuel] w fun e w' => ∃ ra rc, e = .returned (.tuple #[.slice ra (rnL F ss fuel).length rc, .int .i64 (rnC F ss fuel : Int), .int .i64 (rnS F ss fuel : Int), .int .i64 (rnE F ss fuel)]) ∧ Hid (Below w.heap.size w w' ∧ IsFl w' ra (rnL F ss fuel))) := (RunC ao co cap ccap F ss fuel w hl ht he hlen hf1 hf2).mono fun e w' ⟨ra, rc, q1, q2, q3⟩ => ⟨ra, rc, q1, q3.out, q2.out⟩
  have HD : Hid (∀ W ra, Hid (Below w.heap.size w W ∧ IsFl W ra (rnL F ss fuel)) → Calls Tryz.prog 10 #[.slice ao F.length cap, .slice co ss.length ccap, .int .i64 fuel] W fun e w' => ∃ rb rd, e = .returned (.tuple #[.slice rb (rnL F ss fuel).length rd, .int .i64 (rnC F ss fuel : Int), .int .i64 (rnS F ss fuel : Int), .int .i64 (rnE F ss fuel)]) ∧ Hid ((Below w.heap.size w w' ∧ IsFl w' ra (rnL F ss fuel)) ∧ IsFl w' rb (rnL F ss fuel))) := fun W ra hW => (SandboxRun_any ao co cap ccap F ss fuel W (hl.below hW.out.1 (Nat.le_refl _)) (ht.below hW.out.1) hlen).mono fun e w' ⟨rb, rd, q1, q2, q3⟩ => ⟨rb, rd, q1, ⟨below_low hW.out.1 q3.out hW.out.1.size, hW.out.2.up q3.out⟩, q2.out⟩
  have HB : Hid (∀ W ra rb, Hid ((Below w.heap.size w W ∧ IsFl W ra (rnL F ss fuel)) ∧ IsFl W rb (rnL F ss fuel)) → Calls Tryz.prog 11 #[] W fun e w' => e = .returned (.bool true) ∧ Hid ((Below w.heap.size w w' ∧ IsFl w' ra (rnL F ss fuel)) ∧ IsFl w' rb (rnL F ss fuel))) := fun W ra rb hW => (sbegun_any W (he.up hW.out.1.1).1).mono fun e w' q => ⟨q.1, ⟨below_low hW.out.1.1 q.2 hW.out.1.1.size, hW.out.1.2.up q.2⟩, hW.out.2.up q.2⟩
  have HA : Hid (∀ W ra rb rc rd, Hid ((Below w.heap.size w W ∧ IsFl W ra (rnL F ss fuel)) ∧ IsFl W rb (rnL F ss fuel)) → Calls Tryz.prog 12 #[.slice ra (rnL F ss fuel).length rc, .int .i64 (rnE F ss fuel), .int .i64 (rnE F ss fuel), .slice rb (rnL F ss fuel).length rd] W fun e w' => e = .returned (.bool true) ∧ Hid (Below w.heap.size w w')) := fun W ra rb rc rd hW => (filesAre_sb (rnE F ss fuel) ra rb rc rd _ _ W (by have := (rn_tree F ss fuel).ln; omega) hW.out.1.2 hW.out.2 (fun h => (rn_not h).1) (fun _ => rfl)).mono fun e w' q => ⟨q.1, below_low hW.out.1.1 q.2 hW.out.1.1.size⟩
  generalize rnL F ss fuel = X at *
  generalize rnC F ss fuel = C at *
  generalize rnS F ss fuel = S at *
  generalize rnE F ss fuel = E at *
  clear hl ht he hlen hf1 hf2
  go_enter Tryz.func3, Tryz.ntmps3
  go_wp2_with (first
    | (go_at_call 9; refine HR.out.mono ?_; rintro e w1 ⟨ra, rc, rfl, H1⟩)
    | (go_at_call 10; refine (HD.out _ _ H1).mono ?_; rintro e w2 ⟨rb, rd, rfl, H2⟩)
    | (go_at_call 11; refine (HB.out _ _ _ H2).mono ?_; rintro e w3 ⟨rfl, H3⟩)
    | (go_at_call 12; refine (HA.out _ _ _ _ _ H3).mono ?_; rintro e w4 ⟨rfl, H4⟩)
    | go_in)
  go_ret
  exact ⟨by first | rfl | simp, H4.out⟩

set_option maxRecDepth 100000 in
theorem runs_walk_lifted (os : Os) (started : os.Started) (H : Type) (enc : TypeId × Value → H) :
    ReturnsInHanded {} Tryz.checked os 3 .any (fun w args => (Rows.sandboxRunsSpec.pre enc Tryz.prog Tryz.f3 Rows.sandboxRunsRow.domain false w args ∧ laidMetH Tryz.prog Rows.sandboxRunsRow.laid w) ∧ sizedMet enc Tryz.prog Tryz.f3 (OpenSpec.ofChange Rows.sandboxRunsSpec) false w args)
      (Rows.sandboxRunsSpec.post enc Tryz.prog Tryz.f3 false true false false) := by
  refine returns_laid own started (by kernel_rfl) Tryz.func3
    (ChangeSpec.witness_shaped (enc := enc) (C := Tryz.checked) (os := os) (X := fun w _ => laidMetH Tryz.prog Rows.sandboxRunsRow.laid w) false (World.laidAll Tryz.prog os Rows.sandboxRunsRow.laid) #[.slice none 0 0, .slice none 0 0, .int .i64 0] 8 (World.laidAll_os _ _ _)
      (World.shaped_of_ZipB (by kernel_rfl) (by kernel_rfl)) (by kernel_rfl) (by kernel_rfl) (by kernel_rfl)
      (by rw [MakeChecks.laidMetH_plain _ _ _ (by kernel_rfl)]; exact laidMet_laidAll _ (by kernel_rfl) (by kernel_rfl))) ?_
  intro W base args ds gs before hval0 hW hsz0 lies shape
  have hval : ∀ (j : Nat) t v, Tryz.f3.params[j]? = some t → args[j]? = some v → Value.okWide Tryz.prog W .any base t v := hval0
  have hW' := hW
  obtain ⟨p, q, hA0, hV, rfl, hfz, hnd⟩ := hW
  have hA : DataW.TrodAll enc Tryz.prog W 0 (fun _ => true) true Tryz.f3.params.toList args.toList ds p := hA0
  have hsz : (DataW.weightsEach Tryz.prog (Tryz.f3.params.toList ++ Rows.sandboxRunsSpec.plain.varTypes Tryz.prog) (ds ++ gs)).all (· ≤ reachBytes) = true := hsz0
  rw [Tryz.params3] at hA hval hsz
  obtain ⟨v0, v1, v2, d0, d1, d2, p0, p1, p2, rfl, rfl, rfl, h0, h1, h2⟩ := trodAll_three hA
  obtain ⟨rfl, rfl⟩ := trodVars_none hV
  obtain ⟨L0, ao0, cap0, rfl, hf0, hn0⟩ := arg_files (hval 0 22 v0 rfl rfl) h0 (arg_lenF hsz 0 d0 rfl rfl)
  have lt0 : ∀ x ∈ p0, x.block < W.heap.size := by obtain ⟨m, hm⟩ := h0; exact DataW.trod_lt m _ _ _ hm
  obtain ⟨ss1, i1⟩ := arg_texts (hval 1 23 v1 rfl rfl) h1 (arg_len hsz 1 d1 rfl rfl)
  obtain ⟨hn1, co1, cc1, rfl, ht1⟩ := tx_of i1
  have lt1 : ∀ x ∈ p1, x.block < W.heap.size := by obtain ⟨m, hm⟩ := h1; exact DataW.trod_lt m _ _ _ hm
  obtain ⟨a2, rfl, rfl, rfl, w2⟩ := open_int Tryz.underlying3 (hval 2 3 v2 rfl rfl) h2
  have r2 : -9223372036854775808 ≤ a2 ∧ a2 ≤ 9223372036854775807 := by simpa [Lit.wf, IntKind.min, IntKind.max, IntKind.signed, IntKind.bits] using w2
  clear hA0 hval0
  refine (runs_walk ao0 co1 cap0 cc1 L0 ss1 a2 W hf0 ht1 (env_of lies shape) hn1 r2.1 r2.2).mono fun e W' ⟨he, bel⟩ => ?_
  subst he
  exact ⟨_, rfl, _, _, _, [], _, [], hW', trodAll_mk1 (shut_bool Tryz.underlying4 _), trodAll_mk3 (Below.trod laidOut (by kernel_rfl) (of_decide_eq_true (by kernel_rfl)) h0 bel lt0) (Below.trod laidOut (by kernel_rfl) (of_decide_eq_true (by kernel_rfl)) h1 bel lt1) (shut_int Tryz.underlying3 w2), rfl, bel.frame _, fun h => by cases h⟩

theorem sandboxRuns_row : Rows.SandboxRunsSaid :=
  OpenClaim.holds_of_wide 3 Tryz.f3 rfl rfl rfl rfl rfl rfl rfl ⟨rfl, rfl, rfl, rfl, rfl⟩ rfl rfl rfl rfl rfl (by kernel_rfl) Tryz.func3 (by kernel_rfl)
    (of_decide_eq_true (by kernel_rfl)) (by unfold Func.isWrapper; first | (rw [if_pos (by decide +kernel)]; kernel_rfl) | (rw [if_neg (by decide +kernel)]; exact ⟨rfl, rfl⟩))
    (fun os started H enc _ => runs_walk_lifted os started H enc)

theorem sandboxRuns_holds : Rows.SandboxRunsCardSaid :=
  Claim7.holds_tied_plain_at .later [] Rows.sandboxRunsCard.laidKinds true Rows.sandboxRunsCard.stood.harness false
    sandboxRuns_row (fun _ h => by cases h) (by kernel_rfl) (fun _ h => by cases h) sandboxRuns_row_tie rfl ⟨rfl, rfl⟩ (by kernel_rfl) rfl
    (fun f fn hf hfn => by
      obtain rfl : f = 3 := Option.some.inj ((show Tryz.prog.funcNamed Rows.sandboxRunsRow.func = some 3 by kernel_rfl).symm.trans hf) |>.symm
      obtain rfl : fn = Tryz.f3 := (Option.some.inj (Tryz.func3.symm.trans hfn)).symm
      exact ⟨by kernel_rfl, fun j t ht => by
        rw [Tryz.params3] at ht
        have hm : t ∈ [22, 23, 3] := by simpa using Array.mem_of_getElem? ht
        have hall : ([22, 23, 3].all fun u => !Tryz.prog.wantsStandIn u) = true := by kernel_rfl
        exact (show Tryz.prog.wantsStandIn t = false by simpa using List.all_eq_true.1 hall t hm)⟩)
    (by kernel_rfl)
#print axioms sandboxRuns_holds
end Go.Proofs.YtapiedeekbfpnaaGreatDoor
