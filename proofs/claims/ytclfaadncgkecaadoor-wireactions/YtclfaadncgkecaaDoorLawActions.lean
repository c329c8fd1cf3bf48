/- WireActions holds, its two listed variables tied to the program's text: for every action that can be read Action answers just as the document says, errors too, and the action reads behind the call as it read before; no condition of ours. -/
import Derived.Test.YtclfaadncgkecaaDoorRefA
import Derived.Test.YtclfaadncgkecaaDoorArgA
import Derived.Test.YtclfaadncgkecaaDoorDoor
namespace Go.Proofs.YtclfaadncgkecaaDoor
open Go.ChangeShapes Go.WideShapes Go.ChangeAt Go.RowKit Go.Shelf
open Go.ChangeMaps (open_string shut_string)


set_option maxHeartbeats 2000000 in
set_option maxRecDepth 100000 in
theorem actions_walk (f : Int) (c o : Value) (cs os : List ByteArray) (i : ByteArray) (w : World) (hc : IsTexts w c cs) (ho : IsTexts w o os) (hi : i.size ≤ maxLen) (hm : MaxIs w) :
    Calls Tryd.prog 4 #[Av c i o f] w fun e w' => e = .returned (.bool true) ∧ Below w.heap.size w w' := by
  have hb0 : Below w.heap.size w (w.alloc (.cells #[c, .string i, o, .int .i64 f] 26)) := (Below.refl _ _).alloc (Nat.le_refl _) _
  have C1 : Hid (IsTexts (w.alloc (.cells #[c, .string i, o, .int .i64 f] 26)) c cs) := hc.up hb0
  have O1 : Hid (IsTexts (w.alloc (.cells #[c, .string i, o, .int .i64 f] 26)) o os) := ho.up hb0
  have M1 : Hid (MaxIs (w.alloc (.cells #[c, .string i, o, .int .i64 f] 26))) := hm.up hb0
  have HB0 : Hid (Below w.heap.size w (w.alloc (.cells #[c, .string i, o, .int .i64 f] 26))) := hb0
  obtain ⟨_, ac, cc, rfl, _⟩ := hc
  obtain ⟨_, ao, co, rfl, _⟩ := ho
  clear hb0 hm
  by_cases hok : aeC cs i os f = 0
  · obtain ⟨k1, k2, k3, k4, k5⟩ := aeC_fit hok
    obtain ⟨fn, rfl⟩ : ∃ n : Nat, f = n := ⟨f.toNat, by omega⟩
    have F1 : Hid (okTexts cs ∧ okTexts os) := ⟨k1, k2⟩
    have k6 : fn ≤ 9007199254740991 := by omega
    have HK : Hid (aeC cs i os fn = 0) := hok
    clear hok k1 k2 k4 k5
    go_enter Tryd.func4, Tryd.ntmps4
    go_wp2_with fail
    refine (Action_yes fn _ _ cs os i _ C1.out O1.out M1.out HK.out).mono ?_
    rintro e w1 ⟨rfl, hb1⟩
    obtain ⟨hcl1, _⟩ := bcell hb1
    have HB1 : Hid (Below w.heap.size w w1) := HB0.out.trans (hb1.mono HB0.out.size)
    have C2 : Hid (IsTexts w1 (.slice ac cs.length cc) cs) := C1.out.up hb1
    have O2 : Hid (IsTexts w1 (.slice ao os.length co) os) := O1.out.up hb1
    have hs1 := hb1.size
    have q0 : w1.cell? ⟨w.heap.size, 0, none⟩ = some (.slice ac cs.length cc) := (hcl1 _ _ (by simp)).trans (by simp [go_sem])
    have q1 : w1.cell? ⟨w.heap.size, 1, none⟩ = some (.string i) := (hcl1 _ _ (by simp)).trans (by simp [go_sem])
    have q2 : w1.cell? ⟨w.heap.size, 2, none⟩ = some (.slice ao os.length co) := (hcl1 _ _ (by simp)).trans (by simp [go_sem])
    have q3 : w1.cell? ⟨w.heap.size, 3, none⟩ = some (.int .i64 fn) := (hcl1 _ _ (by simp)).trans (by simp [go_sem])
    have hw1 : w.heap.size < w1.heap.size := by simp at hs1; omega
    clear hb1 hcl1 hs1
    go_wp2_with fail
    refine (ca_any _ _ cs os i fn w1 C2.out O2.out hi).mono ?_
    rintro e w2 ⟨rfl, hb2⟩
    rw [HK.out]
    have HB2 : Hid (Below w.heap.size w w2) := HB1.out.trans (hb2.mono HB1.out.size)
    have C3 : Hid (IsTexts w2 (.slice ac cs.length cc) cs) := C2.out.up hb2
    have O3 : Hid (IsTexts w2 (.slice ao os.length co) os) := O2.out.up hb2
    have r0 := (hb2.cell (p := ⟨w.heap.size, 0, none⟩) hw1).trans q0
    have r1 := (hb2.cell (p := ⟨w.heap.size, 1, none⟩) hw1).trans q1
    have r2 := (hb2.cell (p := ⟨w.heap.size, 2, none⟩) hw1).trans q2
    have r3 := (hb2.cell (p := ⟨w.heap.size, 3, none⟩) hw1).trans q3
    clear hb2 q0 q1 q2 q3 hw1
    go_wp2_with fail
    refine (packaction_any fn _ _ cs os i w2 C3.out O3.out F1.out.1 F1.out.2 k3 k6).mono ?_
    rintro e w3 ⟨rfl, hb3⟩
    have HB3 : Hid (Below w.heap.size w w3) := HB2.out.trans (hb3.mono HB2.out.size)
    clear hb3 r0 r1 r2 r3
    go_wp2_with fail
    refine (wireBegun_any w3).mono ?_
    rintro e w4 ⟨rfl, hb4⟩
    have HB4 : Hid (Below w.heap.size w w4) := HB3.out.trans (hb4.mono HB3.out.size)
    clear hb4
    go_wp2_with fail
    refine (textIs_ok _ w4).mono ?_
    rintro e w5 ⟨rfl, rfl⟩
    go_wp2
    go_ret
    exact ⟨rfl, HB4.out⟩
  · have HK : Hid (aeC cs i os f ≠ 0) := hok
    clear hok
    go_enter Tryd.func4, Tryd.ntmps4
    go_wp2_with fail
    refine (Action_no f _ _ cs os i _ C1.out O1.out M1.out HK.out).mono ?_
    rintro e w1 ⟨rfl, hb1⟩
    obtain ⟨hcl1, _⟩ := bcell hb1
    have HB1 : Hid (Below w.heap.size w w1) := HB0.out.trans (hb1.mono HB0.out.size)
    have C2 : Hid (IsTexts w1 (.slice ac cs.length cc) cs) := C1.out.up hb1
    have O2 : Hid (IsTexts w1 (.slice ao os.length co) os) := O1.out.up hb1
    have q0 : w1.cell? ⟨w.heap.size, 0, none⟩ = some (.slice ac cs.length cc) := (hcl1 _ _ (by simp)).trans (by simp [go_sem])
    have q1 : w1.cell? ⟨w.heap.size, 1, none⟩ = some (.string i) := (hcl1 _ _ (by simp)).trans (by simp [go_sem])
    have q2 : w1.cell? ⟨w.heap.size, 2, none⟩ = some (.slice ao os.length co) := (hcl1 _ _ (by simp)).trans (by simp [go_sem])
    have q3 : w1.cell? ⟨w.heap.size, 3, none⟩ = some (.int .i64 f) := (hcl1 _ _ (by simp)).trans (by simp [go_sem])
    clear hb1 hcl1
    go_wp2_with fail
    refine (ca_any _ _ cs os i f w1 C2.out O2.out hi).mono ?_
    rintro e w2 ⟨rfl, hb2⟩
    have HB2 : Hid (Below w.heap.size w w2) := HB1.out.trans (hb2.mono HB1.out.size)
    clear hb2 q0 q1 q2 q3
    have hne : (aeC cs i os f != 0) = true := by rw [bne_iff_ne]; exact HK.out
    generalize aeC cs i os f = r at hne ⊢
    have HNE : Hid ((r != 0) = true) := hne
    go_wp2_with fail
    refine (wireBegun_any w2).mono ?_
    rintro e w3 ⟨rfl, hb3⟩
    have HB3 : Hid (Below w.heap.size w w3) := HB2.out.trans (hb3.mono HB2.out.size)
    clear hb3
    go_wp2_with fail
    refine (textIs_no r _ w3 HNE.out).mono ?_
    rintro e w4 ⟨rfl, rfl⟩
    go_wp2
    go_ret
    exact ⟨rfl, HB3.out⟩

set_option maxRecDepth 100000 in
theorem actions_lifted (os : Os) (started : os.Started) (H : Type) (enc : TypeId × Value → H) :
    ReturnsInHanded {} Tryd.checked os 4 .any (fun w args => (Rows.wireActionsSpec.pre enc Tryd.prog Tryd.f4 Rows.wireActionsRow.domain false w args ∧ laidMetH Tryd.prog Rows.wireActionsRow.laid w) ∧ sizedMet enc Tryd.prog Tryd.f4 (OpenSpec.ofChange Rows.wireActionsSpec) false w args)
      (Rows.wireActionsSpec.post enc Tryd.prog Tryd.f4 false true false false) := by
  refine returns_laid own started (by kernel_rfl) Tryd.func4
    (ChangeSpec.witness_shaped (enc := enc) (C := Tryd.checked) (os := os) (X := fun w _ => laidMetH Tryd.prog Rows.wireActionsRow.laid w) false (World.laidAll Tryd.prog os Rows.wireActionsRow.laid) #[.agg #[.slice none 0 0, .string ByteArray.empty, .slice none 0 0, .int .i64 0]] 8 (World.laidAll_os _ _ _)
      (World.shaped_of_ZipB (by kernel_rfl) (by kernel_rfl)) (by kernel_rfl) (by kernel_rfl) (by kernel_rfl)
      (by rw [MakeChecks.laidMetH_plain _ _ _ (by kernel_rfl)]; exact laidMet_laidAll _ (by kernel_rfl) (by kernel_rfl))) ?_
  intro W base args ds gs before hval0 hW hsz0 _ shape
  have hval : ∀ (j : Nat) t v, Tryd.f4.params[j]? = some t → args[j]? = some v → Value.okWide Tryd.prog W .any base t v := hval0
  have hW' := hW
  obtain ⟨p, q, hA0, hV, rfl, hfz, hnd⟩ := hW
  have hA : DataW.TrodAll enc Tryd.prog W 0 (fun _ => true) true Tryd.f4.params.toList args.toList ds p := hA0
  have hsz : (DataW.weightsEach Tryd.prog (Tryd.f4.params.toList ++ Rows.wireActionsSpec.plain.varTypes Tryd.prog) (ds ++ gs)).all (· ≤ reachBytes) = true := hsz0
  rw [Tryd.params4] at hA hval hsz
  obtain ⟨v0, d0, rfl, rfl, h0⟩ := trodAll_one hA
  obtain ⟨rfl, rfl⟩ := trodVars_none hV
  obtain ⟨c, i, o, f, cs, os', rfl, i0, i1, i2⟩ := arg_action (hval 0 26 v0 rfl rfl) h0 (fun n hn => of_decide_eq_true (List.all_eq_true.1 hsz n (DataW.weights_mem_each (j := 0) rfl rfl n hn)))
  have lt0 : ∀ x ∈ p, x.block < W.heap.size := by obtain ⟨m, hm⟩ := h0; exact DataW.trod_lt m _ _ _ hm
  clear hA0 hval0
  refine (actions_walk f c o cs os' i W i0 i1 i2 (max_of_shaped shape)).mono fun e W' ⟨he, bel⟩ => ?_
  subst he
  exact ⟨_, rfl, _, _, _, [], _, [], hW', trodAll_mk1 (shut_bool Tryd.underlying4 _), trodAll_mk1 (Below.trod laidOut (by kernel_rfl) (of_decide_eq_true (by kernel_rfl)) h0 bel lt0), rfl, bel.frame _, fun h => by cases h⟩

theorem wireActions_row : Rows.WireActionsSaid :=
  OpenClaim.holds_of_wide 4 Tryd.f4 rfl rfl rfl rfl rfl rfl rfl ⟨rfl, rfl, rfl, rfl, rfl⟩ rfl rfl rfl rfl rfl (by kernel_rfl) Tryd.func4 (by kernel_rfl)
    (of_decide_eq_true (by kernel_rfl)) (by unfold Func.isWrapper; first | (rw [if_pos (by decide +kernel)]; kernel_rfl) | (rw [if_neg (by decide +kernel)]; exact ⟨rfl, rfl⟩))
    (fun os started H enc _ => actions_lifted os started H enc)

theorem wireActions_holds : Rows.WireActionsCardSaid :=
  Claim7.holds_tied_plain_at .later [] Rows.wireActionsCard.laidKinds true Rows.wireActionsCard.stood.harness false
    wireActions_row (fun _ h => by cases h) (by kernel_rfl) (fun _ h => by cases h) wireActions_row_tie rfl ⟨rfl, rfl⟩ (by kernel_rfl) rfl
    (fun f fn hf hfn => by
      obtain rfl : f = 4 := Option.some.inj ((show Tryd.prog.funcNamed Rows.wireActionsRow.func = some 4 by kernel_rfl).symm.trans hf) |>.symm
      obtain rfl : fn = Tryd.f4 := (Option.some.inj (Tryd.func4.symm.trans hfn)).symm
      exact ⟨by kernel_rfl, fun j t ht => by
        rw [Tryd.params4] at ht
        have hm : t ∈ [26] := by simpa using Array.mem_of_getElem? ht
        have hall : ([26].all fun u => !Tryd.prog.wantsStandIn u) = true := by kernel_rfl
        exact (show Tryd.prog.wantsStandIn t = false by simpa using List.all_eq_true.1 hall t hm)⟩)
    (by kernel_rfl)
#print axioms wireActions_holds
end Go.Proofs.YtclfaadncgkecaaDoor
