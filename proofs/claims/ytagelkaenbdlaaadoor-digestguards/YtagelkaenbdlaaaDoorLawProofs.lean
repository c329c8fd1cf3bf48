/- DigestProofs holds, its two listed variables tied to the program's text: for every list of texts that can be read and every number Proof answers just as the document's own function does, errors too, and the list reads behind the call as it read before; no condition of ours. -/
import Derived.Test.YtagelkaenbdlaaaDoorPfR
import Derived.Test.YtagelkaenbdlaaaDoorDgSm
namespace Go.Proofs.YtagelkaenbdlaaaDoor
open Go.ChangeShapes Go.WideShapes Go.ChangeAt Go.RowKit
open Go.ChangeMaps (open_string shut_string)

set_option maxHeartbeats 1000000 in
theorem Proof_no (v : Value) (ss : List ByteArray) (i : Int) (w : World) (h : Tx w v ss) (hno : ¬ okD ss) :
    Calls Tryd.prog 16 #[v, .int .i64 i] w fun e w' => e = .returned (.tuple #[.slice none 0 0, .int .i64 2]) ∧ w' = w := by
  have HT : Hid (Calls Tryd.prog 41 #[v] w fun e w' => e = .returned (.bool true) ∧ w' = w) := tooMany_any v ss w h true (by simp [hno])
  obtain ⟨a, cap, rfl⟩ := h.shape
  clear h hno
  go_enter Tryd.func16, Tryd.ntmps16
  go_wp2_with fail
  refine HT.out.mono ?_
  rintro e w' ⟨rfl, rfl⟩
  go_wp2
  go_ret2
  exact ⟨rfl, rfl⟩

set_option maxHeartbeats 1000000 in
theorem Proof_range (v : Value) (ss : List ByteArray) (i : Int) (w : World) (h : Tx w v ss) (hok : okD ss) (hi : ¬ (0 ≤ i ∧ i < ss.length)) :
    Calls Tryd.prog 16 #[v, .int .i64 i] w fun e w' => e = .returned (.tuple #[.slice none 0 0, .int .i64 3]) ∧ w' = w := by
  have HT : Hid (Calls Tryd.prog 41 #[v] w fun e w' => e = .returned (.bool false) ∧ w' = w) := tooMany_any v ss w h false (by simp [hok])
  have hl : (ss.length : Int) ≤ 2000 := by have := hok.1; omega
  obtain ⟨a, cap, rfl⟩ := h.shape
  clear h hok
  by_cases h0 : i < 0
  · clear hi
    go_enter Tryd.func16, Tryd.ntmps16
    go_wp2_with fail
    refine HT.out.mono ?_
    rintro e w' ⟨rfl, rfl⟩
    go_wp2
    go_ret2
    exact ⟨rfl, rfl⟩
  · have h1 : (ss.length : Int) ≤ i := by omega
    have h2 : 0 ≤ i := by omega
    clear hi h0
    go_enter Tryd.func16, Tryd.ntmps16
    go_wp2_with fail
    refine HT.out.mono ?_
    rintro e w' ⟨rfl, rfl⟩
    go_wp2
    go_ret2
    exact ⟨rfl, rfl⟩

set_option maxHeartbeats 1000000 in
theorem Proof_yes (v : Value) (ss : List ByteArray) (i : Nat) (w : World) (h : Tx w v ss) (hok : okD ss) (hi : i < ss.length) (hr : Roots w) :
    Calls Tryd.prog 16 #[v, .int .i64 i] w fun e w' => ∃ u, e = .returned (.tuple #[u, .int .i64 0]) ∧ w'.ownsRow w.heap.size 9 1 u (proofL ss i).length (scs (proofL ss i)) ∧ Below w.heap.size w w' := by
  have HT : Hid (Calls Tryd.prog 41 #[v] w fun e w' => e = .returned (.bool false) ∧ w' = w) := tooMany_any v ss w h false (by simp [hok])
  have hl : (ss.length : Int) ≤ 2000 := by have := hok.1; omega
  rcases h.2 with ⟨rfl, _⟩ | ⟨h0, g, o, cap, rfl, hc, hrow⟩
  · simp at hi
  · have HP : Hid (Calls Tryd.prog 44 #[.slice (some ⟨g, o, none⟩) ss.length cap, .int .i64 i] w fun e w' => ∃ v, e = .returned v ∧ w'.ownsRow w.heap.size 9 1 v (proofL ss i).length (scs (proofL ss i)) ∧ Below w.heap.size w w') := proof_any _ g o cap ss i w (Nat.le_refl _) hi hok.1 hc hok.2 hrow hr
    have h1 : (i : Int) < (ss.length : Int) := by omega
    clear h hok hr hrow
    generalize proofL ss i = ps at HP
    generalize ss.length = n at *
    go_enter Tryd.func16, Tryd.ntmps16
    go_wp2_with fail
    refine HT.out.mono ?_
    rintro e w' ⟨rfl, rfl⟩
    go_wp2_with fail
    refine HP.out.mono ?_
    rintro e w1 ⟨u, rfl, hown, hb⟩
    have O1 : Hid (w1.ownsRow w'.heap.size 9 1 u ps.length (scs ps) ∧ Below w'.heap.size w' w1) := ⟨hown, hb⟩
    clear hown hb
    go_wp2
    go_ret2
    exact ⟨_, rfl, O1.out.1, O1.out.2⟩

set_option maxHeartbeats 1000000 in
theorem prf_yes (v : Value) (ss : List ByteArray) (i : Nat) (w : World) (h : Tx w v ss) (hok : okD ss) (hi : i < ss.length) (hm : Roots w) :
    Calls Tryd.prog 5 #[v, .int .i64 i] w fun e w' => e = .returned (.bool true) ∧ Below w.heap.size w w' := by
  have HM : Hid (Roots w) := hm
  have HP : Hid (Calls Tryd.prog 16 #[v, .int .i64 i] w fun e w' => ∃ u, e = .returned (.tuple #[u, .int .i64 0]) ∧ w'.ownsRow w.heap.size 9 1 u (proofL ss i).length (scs (proofL ss i)) ∧ Below w.heap.size w w') := Proof_yes v ss i w h hok hi hm
  have HC : Hid (∀ Y, Below w.heap.size w Y → Calls Tryd.prog 13 #[v, .int .i64 2000] Y fun e w' => e = .returned (.int .i64 0) ∧ w' = Y) := fun Y hY => CheckList_ok v ss Y (h.up hY) hok
  have hl : (ss.length : Int) ≤ 2000 := by have := hok.1; omega
  have HD : Hid (∀ Y, Below w.heap.size w Y → Calls Tryd.prog 17 #[v, .int .i64 i] Y fun e w' => ∃ u, e = .returned u ∧ w'.ownsRow Y.heap.size 9 1 u (proofL ss i).length (scs (proofL ss i)) ∧ Below Y.heap.size Y w') := fun Y hY => by
    rcases h.2 with ⟨rfl, _⟩ | ⟨h0, g, o, cap, rfl, hc, hrow⟩
    · simp at hi
    · exact ProofOf_any _ g o cap ss i Y (Nat.le_refl _) hi hok.1 hc hok.2 (hrow.up hY (World.block_lt_of_cell? w ⟨g, o + 0, none⟩ (hrow 0 h0)))
  obtain ⟨a, cap, rfl⟩ := h.shape
  have h1 : (i : Int) < (ss.length : Int) := by omega
  have hpl : (proofL ss i).length ≤ 4611686018427387904 := by have := proofL_len _ ss i (Nat.le_refl _) (by omega); omega
  generalize proofL ss i = ps at HP HD hpl
  clear hm h hok
  go_enter Tryd.func5, Tryd.ntmps5
  go_wp2_with fail
  refine HP.out.mono ?_
  rintro e w1 ⟨u1, rfl, hown1, hb1⟩
  have B1 : Hid (Below w.heap.size w w1) := hb1
  have O1 : Hid (Tx w1 u1 ps) := tx_own hpl hown1
  clear hb1 hown1
  go_wp2_with fail
  refine (HC.out w1 B1.out).mono ?_
  rintro e w' ⟨rfl, rfl⟩
  go_wp2_with fail
  refine (HD.out _ B1.out).mono ?_
  rintro e w2 ⟨u2, rfl, hown2, hb2⟩
  have B2 : Hid (Below w.heap.size w w2) := bl_tr B1.out hb2
  have O2 : Hid (Tx w2 u1 ps ∧ Tx w2 u2 ps) := ⟨O1.out.up hb2, tx_own hpl hown2⟩
  clear hb2 hown2
  go_wp2_with fail
  refine (digestBegun_any w2 (HM.out.up B2.out)).mono ?_
  rintro e w3 ⟨rfl, hb3⟩
  have B3 : Hid (Below w.heap.size w w3) := bl_tr B2.out hb3
  have O3 : Hid (Tx w3 u1 ps ∧ Tx w3 u2 ps) := ⟨O2.out.1.up hb3, O2.out.2.up hb3⟩
  clear hb3
  go_wp2_with fail
  refine (textsAre_ok u1 u2 ps w3 O3.out.1 O3.out.2).mono ?_
  rintro e w' ⟨rfl, n, rfl⟩
  go_wp2
  go_ret
  exact ⟨by simp, bl_dn B3.out n⟩

set_option maxHeartbeats 1000000 in
theorem prf_range (v : Value) (ss : List ByteArray) (i : Int) (w : World) (h : Tx w v ss) (hok : okD ss) (hi : ¬ (0 ≤ i ∧ i < ss.length)) (hm : Roots w) :
    Calls Tryd.prog 5 #[v, .int .i64 i] w fun e w' => e = .returned (.bool true) ∧ Below w.heap.size w w' := by
  have HM : Hid (Roots w) := hm
  have HP : Hid (Calls Tryd.prog 16 #[v, .int .i64 i] w fun e w' => e = .returned (.tuple #[.slice none 0 0, .int .i64 3]) ∧ w' = w) := Proof_range v ss i w h hok hi
  have HC : Hid (Calls Tryd.prog 13 #[v, .int .i64 2000] w fun e w' => e = .returned (.int .i64 0) ∧ w' = w) := CheckList_ok v ss w h hok
  have hl : (ss.length : Int) ≤ 2000 := by have := hok.1; omega
  obtain ⟨a, cap, rfl⟩ := h.shape
  clear hm h hok
  by_cases h0 : i < 0
  · clear hi
    go_enter Tryd.func5, Tryd.ntmps5
    go_wp2_with fail
    refine HP.out.mono ?_
    rintro e w' ⟨rfl, rfl⟩
    go_wp2_with fail
    refine HC.out.mono ?_
    rintro e w' ⟨rfl, rfl⟩
    go_wp2_with fail
    refine (digestBegun_any _ HM.out).mono ?_
    rintro e w3 ⟨rfl, hb3⟩
    have B3 : Hid (Below _ _ w3) := hb3
    clear hb3
    go_wp2_with fail
    refine (textsAre_no 3 _ w3 (by decide)).mono ?_
    rintro e w' ⟨rfl, n, rfl⟩
    go_wp2
    go_ret
    exact ⟨by simp, bl_dn B3.out n⟩
  · have h1 : (ss.length : Int) ≤ i := by omega
    have h2 : 0 ≤ i := by omega
    clear hi h0
    go_enter Tryd.func5, Tryd.ntmps5
    go_wp2_with fail
    refine HP.out.mono ?_
    rintro e w' ⟨rfl, rfl⟩
    go_wp2_with fail
    refine HC.out.mono ?_
    rintro e w' ⟨rfl, rfl⟩
    go_wp2_with fail
    refine (digestBegun_any _ HM.out).mono ?_
    rintro e w3 ⟨rfl, hb3⟩
    have B3 : Hid (Below _ _ w3) := hb3
    clear hb3
    go_wp2_with fail
    refine (textsAre_no 3 _ w3 (by decide)).mono ?_
    rintro e w' ⟨rfl, n, rfl⟩
    go_wp2
    go_ret
    exact ⟨by simp, bl_dn B3.out n⟩

set_option maxHeartbeats 1000000 in
theorem prf_no (v : Value) (ss : List ByteArray) (i : Int) (w : World) (h : Tx w v ss) (hno : ¬ okD ss) (hm : Roots w) :
    Calls Tryd.prog 5 #[v, .int .i64 i] w fun e w' => e = .returned (.bool true) ∧ Below w.heap.size w w' := by
  have HM : Hid (Roots w) := hm
  have HP : Hid (Calls Tryd.prog 16 #[v, .int .i64 i] w fun e w' => e = .returned (.tuple #[.slice none 0 0, .int .i64 2]) ∧ w' = w) := Proof_no v ss i w h hno
  have HC : Hid (Calls Tryd.prog 13 #[v, .int .i64 2000] w fun e w' => e = .returned (.int .i64 2) ∧ w' = w) := CheckList_no v ss w h hno
  obtain ⟨a, cap, rfl⟩ := h.shape
  clear hm h hno
  go_enter Tryd.func5, Tryd.ntmps5
  go_wp2_with fail
  refine HP.out.mono ?_
  rintro e w' ⟨rfl, rfl⟩
  go_wp2_with fail
  refine HC.out.mono ?_
  rintro e w' ⟨rfl, rfl⟩
  go_wp2_with fail
  refine (digestBegun_any _ HM.out).mono ?_
  rintro e w3 ⟨rfl, hb3⟩
  have B3 : Hid (Below _ _ w3) := hb3
  clear hb3
  go_wp2_with fail
  refine (textsAre_no 2 _ w3 (by decide)).mono ?_
  rintro e w' ⟨rfl, n, rfl⟩
  go_wp2
  go_ret
  exact ⟨by simp, bl_dn B3.out n⟩

theorem prf_walk (v : Value) (ss : List ByteArray) (i : Int) (w : World) (h : Tx w v ss) (hm : Roots w) :
    Calls Tryd.prog 5 #[v, .int .i64 i] w fun e w' => e = .returned (.bool true) ∧ Below w.heap.size w w' := by
  by_cases hok : okD ss
  · by_cases hi : 0 ≤ i ∧ i < ss.length
    · have := prf_yes v ss i.toNat w h hok (by omega) hm
      rwa [show ((i.toNat : Nat) : Int) = i from by omega] at this
    · exact prf_range v ss i w h hok hi hm
  · exact prf_no v ss i w h hok hm

set_option maxRecDepth 100000 in
theorem prf_lifted (os : Os) (started : os.Started) (H : Type) (enc : TypeId × Value → H) :
    ReturnsInHanded {} Tryd.checked os 5 .any (fun w args => (Rows.digestProofsSpec.pre enc Tryd.prog Tryd.f5 Rows.digestProofsRow.domain false w args ∧ laidMetH Tryd.prog Rows.digestProofsRow.laid w) ∧ sizedMet enc Tryd.prog Tryd.f5 (OpenSpec.ofChange Rows.digestProofsSpec) false w args)
      (Rows.digestProofsSpec.post enc Tryd.prog Tryd.f5 false true false false) := by
  refine returns_laid own started (by kernel_rfl) Tryd.func5
    (ChangeSpec.witness_shaped (enc := enc) (C := Tryd.checked) (os := os) (X := fun w _ => laidMetH Tryd.prog Rows.digestProofsRow.laid w) false (World.laidAll Tryd.prog os Rows.digestProofsRow.laid) #[.slice none 0 0, .int .i64 0] 8 (World.laidAll_os _ _ _)
      (World.shaped_of_ZipB (by kernel_rfl) (by kernel_rfl)) (by kernel_rfl) (by kernel_rfl) (by kernel_rfl)
      (by rw [MakeChecks.laidMetH_plain _ _ _ (by kernel_rfl)]; exact laidMet_laidAll _ (by kernel_rfl) (by kernel_rfl))) ?_
  intro W base args ds gs before hval0 hW hsz0 lies _
  have hval : ∀ (j : Nat) t v, Tryd.f5.params[j]? = some t → args[j]? = some v → Value.okWide Tryd.prog W .any base t v := hval0
  have hW' := hW
  obtain ⟨p, q, hA0, hV, rfl, hfz, hnd⟩ := hW
  have hA : DataW.TrodAll enc Tryd.prog W 0 (fun _ => true) true Tryd.f5.params.toList args.toList ds p := hA0
  have hsz : (DataW.weightsEach Tryd.prog (Tryd.f5.params.toList ++ Rows.digestProofsSpec.plain.varTypes Tryd.prog) (ds ++ gs)).all (· ≤ reachBytes) = true := hsz0
  rw [Tryd.params5] at hA hval hsz
  obtain ⟨v0, v1, d0, d1, p0, p1, rfl, rfl, rfl, h0, h1⟩ := trodAll_two hA
  obtain ⟨rfl, rfl⟩ := trodVars_none hV
  obtain ⟨ss, ht⟩ := arg_tx (hval 0 25 v0 rfl rfl) h0 (arg_len hsz 0 d0 rfl rfl)
  obtain ⟨i, rfl, rfl, rfl, w1⟩ := open_int Tryd.underlying3 (hval 1 3 v1 rfl rfl) h1
  have lt0 : ∀ x ∈ p0, x.block < W.heap.size := by obtain ⟨m, hm⟩ := h0; exact DataW.trod_lt m _ _ _ hm
  clear hA0 hval0
  refine (prf_walk v0 ss i W ht (roots_of_laid lies)).mono fun e W' ⟨he, bel⟩ => ?_
  subst he
  exact ⟨_, rfl, _, _, _, [], _, [], hW', trodAll_mk1 (shut_bool Tryd.underlying4 _), trodAll_mk2 (Below.trod laidOut (by kernel_rfl) (of_decide_eq_true (by kernel_rfl)) h0 bel lt0) (shut_int Tryd.underlying3 w1), rfl, bel.frame _, fun h => by cases h⟩

theorem digestProofs_row : Rows.DigestProofsSaid :=
  OpenClaim.holds_of_wide 5 Tryd.f5 rfl rfl rfl rfl rfl rfl rfl ⟨rfl, rfl, rfl, rfl, rfl⟩ rfl rfl rfl rfl rfl (by kernel_rfl) Tryd.func5 (by kernel_rfl)
    (of_decide_eq_true (by kernel_rfl)) (by unfold Func.isWrapper; first | (rw [if_pos (by decide +kernel)]; kernel_rfl) | (rw [if_neg (by decide +kernel)]; exact ⟨rfl, rfl⟩))
    (fun os started H enc _ => prf_lifted os started H enc)

theorem digestProofs_holds : Rows.DigestProofsCardSaid :=
  Claim7.holds_tied_plain_at .later [] Rows.digestProofsCard.laidKinds true Rows.digestProofsCard.stood.harness false
    digestProofs_row (fun _ h => by cases h) (by kernel_rfl) (fun _ h => by cases h) digestProofs_row_tie rfl ⟨rfl, rfl⟩ (by kernel_rfl) rfl
    (fun f fn hf hfn => by
      obtain rfl : f = 5 := Option.some.inj ((show Tryd.prog.funcNamed Rows.digestProofsRow.func = some 5 by kernel_rfl).symm.trans hf) |>.symm
      obtain rfl : fn = Tryd.f5 := (Option.some.inj (Tryd.func5.symm.trans hfn)).symm
      exact ⟨by kernel_rfl, fun j t ht => by
        rw [Tryd.params5] at ht
        have hm : t ∈ [25, 3] := by simpa using Array.mem_of_getElem? ht
        have hall : ([25, 3].all fun u => !Tryd.prog.wantsStandIn u) = true := by kernel_rfl
        exact (show Tryd.prog.wantsStandIn t = false by simpa using List.all_eq_true.1 hall t hm)⟩)
    (by kernel_rfl)
#print axioms digestProofs_holds
end Go.Proofs.YtagelkaenbdlaaaDoor
