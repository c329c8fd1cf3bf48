/- GraphChecks holds in its second form, its listed variables tied to the program's text: for all targets and files that can be read, of no more bulk than the form says, Check tells what the document's own check tells; they read behind the call as they read before. -/
import Derived.Test.YtankaiopdbcndaaGreatDoorGk8M
import Derived.Test.YtankaiopdbcndaaGreatDoorArgG2M
import Derived.Test.YtankaiopdbcndaaGreatDoorArgFUM
import Derived.Test.YtankaiopdbcndaaGreatDoorTc7
namespace Go.Proofs.YtankaiopdbcndaaGreatDoor
open Go.ChangeShapes Go.WideShapes Go.ChangeAt Go.RowKit Go.Shelf
theorem gcV_same {FL : List Fl} {L : List Tg} {b c : Bool} (h : ckN L = 0 → (b = true ↔ ∃ k, k ∈ L.map tnm ∧ Rp (ndT (nfL L)) k k)) (k : ckN L = 0 → (c = true ↔ ∃ k, k ∈ L.map tnm ∧ Rp (ndT (nfL L)) k k)) : gcV FL L b = gcV FL L c := by
  by_cases e : ckN L = 0
  · have : b = c := by rw [Bool.eq_iff_iff, h e, k e]
    rw [this]
  · unfold gcV
    rw [if_neg e, if_neg e]

set_option maxHeartbeats 4000000 in
set_option maxRecDepth 100000 in
theorem checks_walk (ao : Option Addr) (cap : Nat) (L : List Tg) (fo : Option Addr) (fc : Nat) (FL : List Fl) (w : World) (h : Fine w ao L) (hss : ∀ t ∈ L, ∀ s ∈ t.ss, s.size ≤ maxLen) (hf : IsFl w fo FL) (hm : MaxIs w) :
    Calls Tryz.prog 8 #[.slice ao L.length cap, .slice fo FL.length fc] w fun e w' => e = .returned (.bool true) ∧ Below w.heap.size w w' := by
  have H1 := gCheck_any ao cap L fo fc FL w h hss hf hm
  have H2 : Hid (∀ W, Below w.heap.size w W → Calls Tryz.prog 28 #[.slice ao L.length cap, .slice fo FL.length fc] W (GkP FL L W)) := fun W hb => RCheckGraph_any ao cap L fo fc FL W (h.below hb) (hf.below hb (Nat.le_refl _))
  have HBg : Hid (∀ W, Below w.heap.size w W → Calls Tryz.prog 14 #[] W fun e w' => e = .returned (.bool true) ∧ Hid (Below W.heap.size W w')) := fun W hb => (begun_any W (hm.up hb)).mono fun e w' q => ⟨q.1, q.2⟩
  have HG : Hid (∀ b c, (ckN L = 0 → (b = true ↔ ∃ k, k ∈ L.map tnm ∧ Rp (ndT (nfL L)) k k)) → (ckN L = 0 → (c = true ↔ ∃ k, k ∈ L.map tnm ∧ Rp (ndT (nfL L)) k k)) → gcV FL L b = gcV FL L c) := fun b c h k => gcV_same h k
  clear h hss hf hm
  unfold GkP at H1 H2
  generalize L.length = ln at *
  generalize FL.length = fln at *
  go_enter Tryz.func8, Tryz.ntmps8
  go_wp2_with fail
  refine H1.mono ?_
  rintro e w1 ⟨b, h1, rfl, hb1⟩
  have HB1 : Hid (Below w.heap.size w w1) := hb1
  have H2a := H2.out w1 hb1
  have HG2 : Hid (∀ c, (ckN L = 0 → (c = true ↔ ∃ k, k ∈ L.map tnm ∧ Rp (ndT (nfL L)) k k)) → gcV FL L c = gcV FL L b) := fun c hc => HG.out c b hc h1
  clear h1 hb1 H1 H2 HG
  generalize gcV FL L b = r at *
  go_wp2_with fail
  refine H2a.mono ?_
  rintro e w2 ⟨c, h2, rfl, hb2⟩
  have HB2 : Hid (Below w.heap.size w w2) := HB1.out.trans (hb2.mono HB1.out.size)
  have hcr := HG2.out c h2
  have HBa := HBg.out w2 HB2.out
  rw [hcr]
  clear h2 hb2 H2a HG2 HBg hcr HB1
  go_wp2_with fail
  refine HBa.mono ?_
  rintro e w3 ⟨rfl, G3⟩
  have HB3 : Hid (Below w.heap.size w w3) := HB2.out.trans (G3.out.mono HB2.out.size)
  clear G3 HBa HB2
  obtain ⟨n, m⟩ := r
  go_wp2
  go_ret
  exact ⟨rfl, HB3.out⟩

set_option maxRecDepth 100000 in
theorem checks_walk_lifted (os : Os) (started : os.Started) (H : Type) (enc : TypeId × Value → H) (F : Stop.Interp) :
    ReturnsInHanded {} Tryz.checked os 8 .any ((Rows.OpenSpec.upto Rows.graphChecksSpec).preRow enc Tryz.prog Tryz.f8 Rows.graphChecksUptoRow.domain false Rows.graphChecksUptoRow.laid) (((Rows.OpenSpec.upto Rows.graphChecksSpec).at F).post enc Tryz.prog Tryz.f8 false true false false) := by
  refine returnsInHanded_of_row (C := Tryz.checked) (s := Rows.OpenSpec.upto Rows.graphChecksSpec) own started (by kernel_rfl) Tryz.func8
    (witness_up (enc := enc) (C := Tryz.checked) (os := os) (World.laidAll Tryz.prog os Rows.graphChecksUptoRow.laid) #[.slice none 0 0, .slice none 0 0] (World.laidAll_os _ _ _)
      (World.shaped_of_ZipB (by kernel_rfl) (by kernel_rfl)) (by kernel_rfl)
      (OpenSpec.preRow_of_cond 8 (x := ([.nil, .nil], [], [])) (by kernel_rfl) (by kernel_rfl) (fun k hk => by cases hk; kernel_rfl) (by kernel_rfl)
        (by rw [MakeChecks.laidMetH_plain _ _ _ (by kernel_rfl)]; exact laidMet_laidAll _ (by kernel_rfl) (by kernel_rfl)))) ?_
  intro W base args ds gs before hval0 hW _ hcond hsz0 lies shape _
  have hval : ∀ (j : Nat) t v, Tryz.f8.params[j]? = some t → args[j]? = some v → Value.okWide Tryz.prog W .any base t v := hval0
  have hk := hcond _ rfl
  have hW' := hW
  obtain ⟨p, q, hA0, hV, rfl, hfz, hnd⟩ := hW
  have hA : DataW.TrodAll enc Tryz.prog W 0 (fun _ => true) true Tryz.f8.params.toList args.toList ds p := hA0
  have hsz : (DataW.weightsEach Tryz.prog (Tryz.f8.params.toList ++ Rows.graphChecksSpec.plain.varTypes Tryz.prog) (ds ++ gs)).all (· ≤ reachBytes) = true := hsz0
  rw [Tryz.params8] at hA hval hsz
  obtain ⟨v0, v1, d0, d1, p0, p1, rfl, rfl, rfl, h0, h1⟩ := trodAll_two hA
  obtain ⟨rfl, rfl⟩ := trodVars_none hV
  have h9 := of_decide_eq_true hk
  simp only [List.append_nil, Rows.uptoBulkAll] at h9
  obtain ⟨L0, ao0, cap0, rfl, hf0, hss0⟩ := arg_targets2 (hval 0 22 v0 rfl rfl) h0 (by omega)
  have lt0 : ∀ x ∈ p0, x.block < W.heap.size := by obtain ⟨m, hm⟩ := h0; exact DataW.trod_lt m _ _ _ hm
  have r1 : ∀ elems sp, d1 = .slice elems sp → elems.length ≤ 1048576 := fun elems sp he => by
    rw [he] at h9
    simp only [Rows.uptoBulk] at h9
    have := bulk_len elems
    omega
  obtain ⟨L1, ao1, cap1, rfl, hf1, hn1⟩ := arg_files_up (hval 1 48 v1 rfl rfl) h1 r1
  have lt1 : ∀ x ∈ p1, x.block < W.heap.size := by obtain ⟨m, hm⟩ := h1; exact DataW.trod_lt m _ _ _ hm
  clear hA0 hval0
  refine (checks_walk ao0 cap0 L0 ao1 cap1 L1 W hf0 hss0 hf1 (max_of_shaped shape)).mono fun e W' ⟨he, bel⟩ => ?_
  subst he
  exact ⟨_, rfl, _, _, _, [], _, [], hW', trodAll_mk1 (shut_bool Tryz.underlying4 _), trodAll_mk2 (Below.trod laidOut (by kernel_rfl) (of_decide_eq_true (by kernel_rfl)) h0 bel lt0) (Below.trod laidOut (by kernel_rfl) (of_decide_eq_true (by kernel_rfl)) h1 bel lt1), rfl, bel.frame _, fun h => by cases h⟩

theorem graphChecksUpto_row : Rows.GraphChecksUptoSaid :=
  OpenClaim.holds_of_cond 8 Tryz.f8 rfl rfl rfl rfl rfl rfl rfl ⟨rfl, rfl, rfl, rfl, rfl⟩ rfl rfl rfl rfl rfl (by kernel_rfl) Tryz.func8 (by kernel_rfl)
    (of_decide_eq_true (by kernel_rfl)) (by unfold Func.isWrapper; first | (rw [if_pos (by decide +kernel)]; kernel_rfl) | (rw [if_neg (by decide +kernel)]; exact ⟨rfl, rfl⟩))
    (fun os started H enc _ F => by rw [OpenClaim.pre_eq_preRow]; exact checks_walk_lifted os started H enc F)

theorem graphChecksUpto_holds : Rows.GraphChecksUptoCardSaid :=
  Claim7.holds_tied_plain_at .later [] Rows.graphChecksUptoCard.laidKinds true Rows.graphChecksUptoCard.stood.harness true
    graphChecksUpto_row (fun _ h => by cases h) (by kernel_rfl) (fun _ h => by cases h) graphChecksUpto_row_tie rfl ⟨rfl, rfl⟩ (by kernel_rfl) rfl
    (fun f fn hf hfn => by
      obtain rfl : f = 8 := Option.some.inj ((show Tryz.prog.funcNamed Rows.graphChecksUptoRow.func = some 8 by kernel_rfl).symm.trans hf) |>.symm
      obtain rfl : fn = Tryz.f8 := (Option.some.inj (Tryz.func8.symm.trans hfn)).symm
      exact ⟨by kernel_rfl, fun j t ht => by
        rw [Tryz.params8] at ht
        have hm : t ∈ [22, 48] := by simpa using Array.mem_of_getElem? ht
        have hall : ([22, 48].all fun u => !Tryz.prog.wantsStandIn u) = true := by kernel_rfl
        exact (show Tryz.prog.wantsStandIn t = false by simpa using List.all_eq_true.1 hall t hm)⟩)
    (by kernel_rfl)
#print axioms graphChecksUpto_holds
end Go.Proofs.YtankaiopdbcndaaGreatDoor
