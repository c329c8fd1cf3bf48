/- GraphDepths holds in its second form, its listed variables tied to the program's text: for all targets and every name that can be read, of no more bulk than the form says, Depth tells what the document's own rounds tell, errors too; all read behind the call as they read before. -/
import Derived.Test.YtankaiopdbcndaaGreatDoorGd3M
import Derived.Test.YtankaiopdbcndaaGreatDoorGc10M
import Derived.Test.YtankaiopdbcndaaGreatDoorTc7
namespace Go.Proofs.YtankaiopdbcndaaGreatDoor
open Go.ChangeMaps (open_string shut_string)
open Go.ChangeShapes Go.WideShapes Go.ChangeAt Go.RowKit Go.Shelf
theorem dp_circ {L : List Tg} {x : ByteArray} {h : Nat → Bool} {d code : Int} (hN : NmOk L) (hS : ∀ k, k ∈ ksH L h ↔ CnS L x k) (hd : DpA 0 (nfL L) (CnS L x) (tl x) d code) (hx : Crc L h) : d = 0 ∧ code = 10 := by
  rcases hd with ⟨h0, _⟩ | ⟨_, ks, q, hq, ⟨_, h2, h3⟩ | ⟨h2, _, _⟩⟩
  · exact absurd rfl h0
  · exact ⟨h2, h3⟩
  · have := (hq.circ cn_cl).2 ((crc_iff hN hS).1 hx)
    omega
theorem dp_flat {L : List Tg} {x : ByteArray} {h : Nat → Bool} {d code : Int} (hN : NmOk L) (hxm : tl x ∈ L.map tnm) (hS : ∀ k, k ∈ ksH L h ↔ CnS L x k) (hd : DpA 0 (nfL L) (CnS L x) (tl x) d code) (hx : ¬ Crc L h) : ∃ o, CoP L x o ∧ d = dpF (nfL L) o (tl x) ∧ code = 0 := by
  rcases hd with ⟨h0, _⟩ | ⟨_, ks, q, hq, ⟨h2, _, _⟩ | ⟨h2, h3, h4⟩⟩
  · exact absurd rfl h0
  · exact absurd ((crc_iff hN hS).2 ((hq.circ cn_cl).1 h2)) hx
  · exact ⟨q, ⟨hN, hxm, ks, hq, h2⟩, h3, h4⟩

set_option maxHeartbeats 8000000 in
set_option maxRecDepth 100000 in
theorem depths_walk (ao : Option Addr) (cap : Nat) (L : List Tg) (x : ByteArray) (w : World) (h : Fine w ao L) (hm : MaxIs w) (hx : x.size ≤ maxLen) :
    Calls Tryz.prog 7 #[.slice ao L.length cap, .string x] w fun e w' => e = .returned (.bool true) ∧ Below w.heap.size w w' := by
  have HF : Hid (Fine w ao L) := h
  have HBg : Hid (∀ W, Below w.heap.size w W → Calls Tryz.prog 14 #[] W fun e w' => e = .returned (.bool true) ∧ Hid (Below W.heap.size W w')) := fun W hb => (begun_any W (hm.up hb)).mono fun e w' q => ⟨q.1, q.2⟩
  have HCk : Hid (∀ W, Below w.heap.size w W → Calls Tryz.prog 20 #[.slice ao L.length cap, .string x] W fun e w' => e = .returned (.tuple #[.int .i64 (tgI L (tl x)), .int .i64 (ckW L x)]) ∧ w' = W) := fun W hb => asked_any ao cap L x W (h.below hb)
  have HOr := h.depth L.length cap rfl x hx w (Below.refl _ _)
  clear h hm hx
  by_cases h0 : ckW L x = 0
  · obtain ⟨hN, hxm⟩ := ckW_ok.1 h0
    obtain ⟨a, ha, hta, hax, hrest⟩ : ∃ j, ∃ (hj : j < L.length), tgI L (tl x) = (j : Int) ∧ tnm L[j] = tl x ∧ ∀ i (hi : i < j), tnm L[i] ≠ tl x := (tgI_cases L (tl x)).resolve_left (fun e => e.2 hxm)
    have HN : Hid (NmOk L) := hN
    have HIn : Hid (∀ W, Below w.heap.size w W → Calls Tryz.prog 21 #[.slice ao L.length cap, .int .i64 (a : Int)] W fun e w' => ∃ v, e = .returned v ∧ Hid (∃ h, BlIn w' v L.length h ∧ (∀ k, k ∈ ksH L h ↔ CnS L x k) ∧ Below W.heap.size W w')) := fun W hb => (InCone_any ao cap L a W (HF.out.below hb) hN ha).mono fun e w' ⟨v, h, q1, q2, q3, q4⟩ => ⟨v, q1, h, q2, ksH_cone hN hxm ha hax q3, q4⟩
    have HCr : Hid (∀ v h b W, (b = true ↔ Crc L h) → Below w.heap.size w W → BlIn W v L.length h → Calls Tryz.prog 11 #[.slice ao L.length cap, v] W fun e w' => e = .returned (.bool b) ∧ Hid (Below W.heap.size W w')) := fun v h b W hb h1 h2 => HasCircle_any ao cap L v _ W (HF.out.below h1) hN h2 b hb
    have HDp : Hid (∀ o W, CoP L x o → Below w.heap.size w W → Calls Tryz.prog 26 #[.slice ao L.length cap, .int .i64 (a : Int)] W fun e w' => e = .returned (.int .i64 (dpF (nfL L) o (tl x))) ∧ Hid (Below W.heap.size W w')) := fun o W h1 h2 => (Deep_any ao cap L x o a W (HF.out.below h2) h1 ha hax).mono fun e w' q => ⟨q.1, q.2⟩
    have HXm : Hid (tl x ∈ L.map tnm) := hxm
    rw [h0] at HCk HOr
    rw [hta] at HCk
    clear hrest
    clear hN h0 hta hax hxm ha
    generalize L.length = ln at *
    go_enter Tryz.func7, Tryz.ntmps7
    go_wp2_with fail
    refine HOr.mono ?_
    rintro e w1 ⟨d, code, rfl, G1⟩
    have HLs : Hid (DpA 0 (nfL L) (CnS L x) (tl x) d code) := G1.out.1
    have HB1 : Hid (Below w.heap.size w w1) := G1.out.2
    clear G1 HOr
    go_wp2_with fail
    refine (HCk.out w1 HB1.out).mono ?_
    rintro e w2 ⟨rfl, rfl⟩
    clear HCk
    go_wp2_with fail
    refine (HIn.out w2 HB1.out).mono ?_
    rintro e w3 ⟨ve, rfl, G3⟩
    obtain ⟨h, hve, hks, hb3⟩ := G3.out
    obtain ⟨b, hb⟩ : ∃ b : Bool, b = true ↔ Crc L h := ⟨@decide (Crc L h) (Classical.propDecidable _), by simp⟩
    have HB : Hid (b = true ↔ Crc L h) := hb
    have HKs : Hid (∀ k, k ∈ ksH L h ↔ CnS L x k) := hks
    have HB3 : Hid (Below w.heap.size w w3) := HB1.out.trans (hb3.mono HB1.out.size)
    have HCC := HCr.out ve h b w3 hb HB3.out hve
    clear hve hb3 HCr HB1 G3 hks hb HIn
    go_wp2_with fail
    refine HCC.mono ?_
    rintro e w4 ⟨rfl, G4⟩
    have HB4 : Hid (Below w.heap.size w w4) := HB3.out.trans (G4.out.mono HB3.out.size)
    clear G4 HCC HB3
    cases b with
    | true =>
      obtain ⟨rfl, rfl⟩ := dp_circ HN.out HKs.out HLs.out (HB.out.1 rfl)
      clear HLs HDp
      go_wp2_with fail
      refine (HBg.out w4 HB4.out).mono ?_
      rintro e w5 ⟨rfl, G5⟩
      have HB5 : Hid (Below w.heap.size w w5) := HB4.out.trans (G5.out.mono HB4.out.size)
      clear HBg G5 HB4
      go_wp2
      go_ret
      exact ⟨rfl, HB5.out⟩
    | false =>
      obtain ⟨o, hco, hde, hce⟩ := dp_flat HN.out HXm.out HKs.out HLs.out (fun hx => absurd (HB.out.2 hx) (by simp))
      subst hce
      have HO5 := HDp.out o w4 hco HB4.out
      rw [← hde] at HO5
      clear HDp hde hco HLs
      go_wp2_with fail
      refine HO5.mono ?_
      rintro e w6 ⟨rfl, G6⟩
      have HB6 : Hid (Below w.heap.size w w6) := HB4.out.trans (G6.out.mono HB4.out.size)
      clear G6 HO5 HB4
      go_wp2_with fail
      refine (HBg.out w6 HB6.out).mono ?_
      rintro e w7 ⟨rfl, G7⟩
      have HB7 : Hid (Below w.heap.size w w7) := HB6.out.trans (G7.out.mono HB6.out.size)
      clear HBg G7 HB6
      go_wp2
      go_ret
      exact ⟨by first | rfl | simp, HB7.out⟩
  · have HC : Hid (ckW L x ≠ 0) := h0
    generalize ckW L x = c at *
    generalize tgI L (tl x) = zt at *
    have hc1 : ¬(c : Int) = 0 := h0
    have hc2 : ((c : Int) == 0) = false := by simpa using h0
    generalize L.length = ln at *
    clear h0
    go_enter Tryz.func7, Tryz.ntmps7
    go_wp2_with fail
    refine HOr.mono ?_
    rintro e w1 ⟨d, code, rfl, G1⟩
    obtain ⟨rfl, rfl⟩ : d = 0 ∧ code = c := by
      rcases G1.out.1 with ⟨_, e1, e2⟩ | ⟨e1, _⟩
      · exact ⟨e1, e2⟩
      · exact absurd e1 HC.out
    have HB1 : Hid (Below w.heap.size w w1) := G1.out.2
    clear G1 HOr
    go_wp2_with fail
    refine (HCk.out w1 HB1.out).mono ?_
    rintro e w2 ⟨rfl, rfl⟩
    clear HCk
    go_wp2_with fail
    refine (HBg.out w2 HB1.out).mono ?_
    rintro e w5 ⟨rfl, G5⟩
    have HB5 : Hid (Below w.heap.size w w5) := HB1.out.trans (G5.out.mono HB1.out.size)
    clear HBg G5 HB1
    go_wp2
    go_ret
    exact ⟨by first | rfl | simp, HB5.out⟩

set_option maxRecDepth 100000 in
theorem depths_walk_lifted (os : Os) (started : os.Started) (H : Type) (enc : TypeId × Value → H) (F : Stop.Interp) :
    ReturnsInHanded {} Tryz.checked os 7 .any ((Rows.OpenSpec.upto Rows.graphDepthsSpec).preRow enc Tryz.prog Tryz.f7 Rows.graphDepthsUptoRow.domain false Rows.graphDepthsUptoRow.laid) (((Rows.OpenSpec.upto Rows.graphDepthsSpec).at F).post enc Tryz.prog Tryz.f7 false true false false) := by
  refine returnsInHanded_of_row (C := Tryz.checked) (s := Rows.OpenSpec.upto Rows.graphDepthsSpec) own started (by kernel_rfl) Tryz.func7
    (witness_up (enc := enc) (C := Tryz.checked) (os := os) (World.laidAll Tryz.prog os Rows.graphDepthsUptoRow.laid) #[.slice none 0 0, .string ⟨#[]⟩] (World.laidAll_os _ _ _)
      (World.shaped_of_ZipB (by kernel_rfl) (by kernel_rfl)) (by kernel_rfl)
      (OpenSpec.preRow_of_cond 8 (x := ([.nil, .lit (.string [])], [], [])) (by kernel_rfl) (by kernel_rfl) (fun k hk => by cases hk; kernel_rfl) (by kernel_rfl)
        (by rw [MakeChecks.laidMetH_plain _ _ _ (by kernel_rfl)]; exact laidMet_laidAll _ (by kernel_rfl) (by kernel_rfl)))) ?_
  intro W base args ds gs before hval0 hW _ hcond hsz0 lies shape _
  have hval : ∀ (j : Nat) t v, Tryz.f7.params[j]? = some t → args[j]? = some v → Value.okWide Tryz.prog W .any base t v := hval0
  have hk := hcond _ rfl
  have hW' := hW
  obtain ⟨p, q, hA0, hV, rfl, hfz, hnd⟩ := hW
  have hA : DataW.TrodAll enc Tryz.prog W 0 (fun _ => true) true Tryz.f7.params.toList args.toList ds p := hA0
  have hsz : (DataW.weightsEach Tryz.prog (Tryz.f7.params.toList ++ Rows.graphDepthsSpec.plain.varTypes Tryz.prog) (ds ++ gs)).all (· ≤ reachBytes) = true := hsz0
  rw [Tryz.params7] at hA hval hsz
  obtain ⟨v0, v1, d0, d1, p0, p1, rfl, rfl, rfl, h0, h1⟩ := trodAll_two hA
  obtain ⟨rfl, rfl⟩ := trodVars_none hV
  have h9 := of_decide_eq_true hk
  simp only [List.append_nil, Rows.uptoBulkAll] at h9
  obtain ⟨L0, ao0, cap0, rfl, hf0, hcap0, hnil0⟩ := arg_targets (hval 0 22 v0 rfl rfl) h0 (by omega)
  have lt0 : ∀ x ∈ p0, x.block < W.heap.size := by obtain ⟨m, hm⟩ := h0; exact DataW.trod_lt m _ _ _ hm
  obtain ⟨a1, rfl, rfl, rfl, w1⟩ := open_string Tryz.underlying9 (hval 1 9 v1 rfl rfl) h1
  clear hA0 hval0
  refine (depths_walk ao0 cap0 L0 a1 W hf0 (max_of_shaped shape) w1).mono fun e W' ⟨he, bel⟩ => ?_
  subst he
  exact ⟨_, rfl, _, _, _, [], _, [], hW', trodAll_mk1 (shut_bool Tryz.underlying4 _), trodAll_mk2 (Below.trod laidOut (by kernel_rfl) (of_decide_eq_true (by kernel_rfl)) h0 bel lt0) (shut_string Tryz.underlying9 w1), rfl, bel.frame _, fun h => by cases h⟩

theorem graphDepthsUpto_row : Rows.GraphDepthsUptoSaid :=
  OpenClaim.holds_of_cond 7 Tryz.f7 rfl rfl rfl rfl rfl rfl rfl ⟨rfl, rfl, rfl, rfl, rfl⟩ rfl rfl rfl rfl rfl (by kernel_rfl) Tryz.func7 (by kernel_rfl)
    (of_decide_eq_true (by kernel_rfl)) (by unfold Func.isWrapper; first | (rw [if_pos (by decide +kernel)]; kernel_rfl) | (rw [if_neg (by decide +kernel)]; exact ⟨rfl, rfl⟩))
    (fun os started H enc _ F => by rw [OpenClaim.pre_eq_preRow]; exact depths_walk_lifted os started H enc F)

theorem graphDepthsUpto_holds : Rows.GraphDepthsUptoCardSaid :=
  Claim7.holds_tied_plain_at .later [] Rows.graphDepthsUptoCard.laidKinds true Rows.graphDepthsUptoCard.stood.harness true
    graphDepthsUpto_row (fun _ h => by cases h) (by kernel_rfl) (fun _ h => by cases h) graphDepthsUpto_row_tie rfl ⟨rfl, rfl⟩ (by kernel_rfl) rfl
    (fun f fn hf hfn => by
      obtain rfl : f = 7 := Option.some.inj ((show Tryz.prog.funcNamed Rows.graphDepthsUptoRow.func = some 7 by kernel_rfl).symm.trans hf) |>.symm
      obtain rfl : fn = Tryz.f7 := (Option.some.inj (Tryz.func7.symm.trans hfn)).symm
      exact ⟨by kernel_rfl, fun j t ht => by
        rw [Tryz.params7] at ht
        have hm : t ∈ [22, 9] := by simpa using Array.mem_of_getElem? ht
        have hall : ([22, 9].all fun u => !Tryz.prog.wantsStandIn u) = true := by kernel_rfl
        exact (show Tryz.prog.wantsStandIn t = false by simpa using List.all_eq_true.1 hall t hm)⟩)
    (by kernel_rfl)
#print axioms graphDepthsUpto_holds
end Go.Proofs.YtankaiopdbcndaaGreatDoor
