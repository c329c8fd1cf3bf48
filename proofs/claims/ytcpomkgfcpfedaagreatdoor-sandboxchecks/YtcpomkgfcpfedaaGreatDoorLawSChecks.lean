/- SandboxChecks holds, its listed variables tied to the program's text: for every command that can be read Check answers just as the document's own function does, the same line too, and the command reads behind the call as it read before; no condition of ours. -/
import Derived.Test.YtcpomkgfcpfedaaGreatDoorSb3
import Derived.Test.YtcpomkgfcpfedaaGreatDoorSbR
import Derived.Test.YtcpomkgfcpfedaaGreatDoorDoor
import Derived.Test.YtcpomkgfcpfedaaGreatDoorArgT
namespace Go.Proofs.YtcpomkgfcpfedaaGreatDoor
open Go.ChangeShapes Go.WideShapes Go.ChangeAt Go.RowKit Go.Shelf

set_option maxHeartbeats 1000000 in
theorem schecks_walk (v : Value) (ss : List ByteArray) (w : World) (hi : IsTexts w v ss) (hm : MaxIs w) :
    Calls Tryz.prog 3 #[v] w fun e w' => e = .returned (.bool true) ∧ Below w.heap.size w w' := by
  obtain ⟨hn, ao, cap, rfl, hc⟩ := hi
  have ht : TxAt w ao ss := by
    rcases hc with h | ⟨g, o, e, hc⟩
    · exact .inl h
    · by_cases h0 : ss = []
      · exact .inl h0
      · have hp : 0 < ss.length := List.length_pos_iff.2 h0
        exact .inr ⟨g, o, e, World.block_lt_of_cell? w ⟨g, o + 0, none⟩ (hc 0 hp), hc⟩
  have HC : Hid (Calls Tryz.prog 4 #[.slice ao ss.length cap] w fun e w' => e = .returned (.tuple #[.int .i64 ((chkF ss).1 : Int), .int .i64 ((chkF ss).2 : Int)]) ∧ Hid (Below w.heap.size w w')) := SCheck_any ao cap ss w ht hm hn
  have HR : Hid (∀ W, Hid (Below w.heap.size w W) → Calls Tryz.prog 5 #[.slice ao ss.length cap] W fun e w' => e = .returned (.tuple #[.int .i64 ((chkF ss).1 : Int), .int .i64 ((chkF ss).2 : Int)]) ∧ Hid (Below w.heap.size w w')) := fun W hW => (CheckCommand_any ao cap ss W (ht.below hW.out) hn).mono fun e w' q => ⟨q.1, below_low hW.out q.2 hW.out.size⟩
  have HB : Hid (∀ W, Hid (Below w.heap.size w W) → Calls Tryz.prog 6 #[] W fun e w' => e = .returned (.bool true) ∧ Hid (Below w.heap.size w w')) := fun W hW => (sbegun_any W (hm.up hW.out)).mono fun e w' q => ⟨q.1, below_low hW.out q.2 hW.out.size⟩
  clear ht hm hn hc
  generalize chkF ss = cc at *
  obtain ⟨c1, c2⟩ := cc
  simp only at HC HR
  generalize ss.length = ln at *
  go_enter Tryz.func3, Tryz.ntmps3
  go_wp2_with (first
    | (go_at_call 4; refine HC.out.mono ?_; rintro e w1 ⟨rfl, H1⟩)
    | (go_at_call 5; refine (HR.out _ H1).mono ?_; rintro e w2 ⟨rfl, H2⟩)
    | (go_at_call 6; refine (HB.out _ H2).mono ?_; rintro e w3 ⟨rfl, H3⟩)
    | go_in)
  go_ret
  exact ⟨by first | rfl | simp, H3.out⟩

set_option maxRecDepth 100000 in
theorem schecks_lifted (os : Os) (started : os.Started) (H : Type) (enc : TypeId × Value → H) :
    ReturnsInHanded {} Tryz.checked os 3 .any (fun w args => (Rows.sandboxChecksSpec.pre enc Tryz.prog Tryz.f3 Rows.sandboxChecksRow.domain false w args ∧ laidMetH Tryz.prog Rows.sandboxChecksRow.laid w) ∧ sizedMet enc Tryz.prog Tryz.f3 (OpenSpec.ofChange Rows.sandboxChecksSpec) false w args)
      (Rows.sandboxChecksSpec.post enc Tryz.prog Tryz.f3 false true false false) := by
  refine returns_laid own started (by kernel_rfl) Tryz.func3
    (ChangeSpec.witness_shaped (enc := enc) (C := Tryz.checked) (os := os) (X := fun w _ => laidMetH Tryz.prog Rows.sandboxChecksRow.laid w) false (World.laidAll Tryz.prog os Rows.sandboxChecksRow.laid) #[.slice none 0 0] 8 (World.laidAll_os _ _ _)
      (World.shaped_of_ZipB (by kernel_rfl) (by kernel_rfl)) (by kernel_rfl) (by kernel_rfl) (by kernel_rfl)
      (by rw [MakeChecks.laidMetH_plain _ _ _ (by kernel_rfl)]; exact laidMet_laidAll _ (by kernel_rfl) (by kernel_rfl))) ?_
  intro W base args ds gs before hval0 hW hsz0 lies shape
  have hval : ∀ (j : Nat) t v, Tryz.f3.params[j]? = some t → args[j]? = some v → Value.okWide Tryz.prog W .any base t v := hval0
  have hW' := hW
  obtain ⟨p, q, hA0, hV, rfl, hfz, hnd⟩ := hW
  have hA : DataW.TrodAll enc Tryz.prog W 0 (fun _ => true) true Tryz.f3.params.toList args.toList ds p := hA0
  have hsz : (DataW.weightsEach Tryz.prog (Tryz.f3.params.toList ++ Rows.sandboxChecksSpec.plain.varTypes Tryz.prog) (ds ++ gs)).all (· ≤ reachBytes) = true := hsz0
  rw [Tryz.params3] at hA hval hsz
  obtain ⟨v0, d0, rfl, rfl, h0⟩ := trodAll_one hA
  obtain ⟨rfl, rfl⟩ := trodVars_none hV
  have r0 : ∀ elems sp, d0 = .slice elems sp → elems.length ≤ 4611686018427387904 := fun elems sp he => by
    have h1 := sized_slice hsz (j := 0) (t := 22) rfl (by rw [he]; rfl) Tryz.underlying22
    have h2 := reachBytes_lt
    rw [bytesS] at h1
    omega
  obtain ⟨ss, i0⟩ := arg_texts (hval 0 22 v0 rfl rfl) h0 r0
  have lt0 : ∀ x ∈ p, x.block < W.heap.size := by obtain ⟨m, hm⟩ := h0; exact DataW.trod_lt m _ _ _ hm
  clear hA0 hval0
  refine (schecks_walk v0 ss W i0 (max_of_shaped shape)).mono fun e W' ⟨he, bel⟩ => ?_
  subst he
  exact ⟨_, rfl, _, _, _, [], _, [], hW', trodAll_mk1 (shut_bool Tryz.underlying4 _), trodAll_mk1 (Below.trod laidOut (by kernel_rfl) (of_decide_eq_true (by kernel_rfl)) h0 bel lt0), rfl, bel.frame _, fun h => by cases h⟩

theorem sandboxChecks_row : Rows.SandboxChecksSaid :=
  OpenClaim.holds_of_wide 3 Tryz.f3 rfl rfl rfl rfl rfl rfl rfl ⟨rfl, rfl, rfl, rfl, rfl⟩ rfl rfl rfl rfl rfl (by kernel_rfl) Tryz.func3 (by kernel_rfl)
    (of_decide_eq_true (by kernel_rfl)) (by unfold Func.isWrapper; first | (rw [if_pos (by decide +kernel)]; kernel_rfl) | (rw [if_neg (by decide +kernel)]; exact ⟨rfl, rfl⟩))
    (fun os started H enc _ => schecks_lifted os started H enc)

theorem sandboxChecks_holds : Rows.SandboxChecksCardSaid :=
  Claim7.holds_tied_plain_at .later [] Rows.sandboxChecksCard.laidKinds true Rows.sandboxChecksCard.stood.harness false
    sandboxChecks_row (fun _ h => by cases h) (by kernel_rfl) (fun _ h => by cases h) sandboxChecks_row_tie rfl ⟨rfl, rfl⟩ (by kernel_rfl) rfl
    (fun f fn hf hfn => by
      obtain rfl : f = 3 := Option.some.inj ((show Tryz.prog.funcNamed Rows.sandboxChecksRow.func = some 3 by kernel_rfl).symm.trans hf) |>.symm
      obtain rfl : fn = Tryz.f3 := (Option.some.inj (Tryz.func3.symm.trans hfn)).symm
      exact ⟨by kernel_rfl, fun j t ht => by
        rw [Tryz.params3] at ht
        have hm : t ∈ [22] := by simpa using Array.mem_of_getElem? ht
        have hall : ([22].all fun u => !Tryz.prog.wantsStandIn u) = true := by kernel_rfl
        exact (show Tryz.prog.wantsStandIn t = false by simpa using List.all_eq_true.1 hall t hm)⟩)
    (by kernel_rfl)
#print axioms sandboxChecks_holds
end Go.Proofs.YtcpomkgfcpfedaaGreatDoor
