/- GraphOrders holds in its second form, its listed variables tied to the program's text: for all targets that can be read, of no more bulk than the form says, Order tells what the document's own order tells, errors too; they read behind the call as they read before. -/
import Derived.Test.YtankaiopdbcndaaGreatDoorTc7
namespace Go.Proofs.YtankaiopdbcndaaGreatDoor
open Go.ChangeShapes Go.WideShapes Go.ChangeAt Go.RowKit Go.Shelf

set_option maxHeartbeats 8000000 in
set_option maxRecDepth 100000 in
theorem orders_walk (ao : Option Addr) (cap : Nat) (L : List Tg) (w : World) (h : Fine w ao L) (hm : MaxIs w) :
    Calls Tryz.prog 3 #[.slice ao L.length cap] w fun e w' => e = .returned (.bool true) ∧ Below w.heap.size w w' := by
  have HF : Hid (Fine w ao L) := h
  have HM : Hid (∀ W, Below w.heap.size w W → MaxIs W) := fun W hb => hm.up hb
  have HBg : Hid (∀ W, Below w.heap.size w W → Calls Tryz.prog 14 #[] W fun e w' => e = .returned (.bool true) ∧ Hid (Below W.heap.size W w')) := fun W hb => (begun_any W (hm.up hb)).mono fun e w' q => ⟨q.1, q.2⟩
  have HCk : Hid (∀ W, Below w.heap.size w W → Calls Tryz.prog 10 #[.slice ao L.length cap] W fun e w' => e = .returned (.int .i64 (ckN L)) ∧ w' = W) := fun W hb => CheckNames_any ao cap L W (h.below hb)
  have HOr := h.order L.length cap rfl w (Below.refl _ _)
  have HTA : Hid (∀ (er : Int) (v u : Value) (X : List ByteArray) (W : World), TxIn W v X → TxIn W u X → (er ≠ 0 → X = []) → Calls Tryz.prog 15 #[v, .int .i64 er, .int .i64 er, u] W fun e w' => e = .returned (.bool true) ∧ Below W.heap.size W w') := fun er v u X W h1 h2 h3 => textsAre_yes er v u X X W h1 h2 h3 (fun _ => rfl)
  clear h hm
  by_cases h0 : ckN L = 0
  · have hN := ckN_ok.1 h0
    have HN : Hid (NmOk L) := hN
    have hn60 := hN.len
    have hni : (L.length : Int) ≤ 60 := by omega
    have HEv : Hid (∀ W, Calls Tryz.prog 12 #[.slice ao L.length cap] W fun e w' => ∃ v, e = .returned v ∧ BlIn w' v L.length (fun _ => true) ∧ Below W.heap.size W w') := fun W => Everyone_any ao cap L W hn60
    obtain ⟨b, hb⟩ : ∃ b : Bool, b = true ↔ Crc L (fun _ => true) := ⟨@decide (Crc L (fun _ => true)) (Classical.propDecidable _), by simp⟩
    have HB : Hid (b = true ↔ Crc L (fun _ => true)) := hb
    have HCr : Hid (∀ v W, Below w.heap.size w W → BlIn W v L.length (fun _ => true) → Calls Tryz.prog 11 #[.slice ao L.length cap, v] W fun e w' => e = .returned (.bool b) ∧ Hid (Below W.heap.size W w')) := fun v W h1 h2 => HasCircle_any ao cap L v _ W (HF.out.below h1) hN h2 b hb
    have HOO : Hid (∀ v W, Below w.heap.size w W → BlIn W v L.length (fun _ => true) → Calls Tryz.prog 13 #[.slice ao L.length cap, v] W fun e w' => ∃ u, e = .returned u ∧ Hid (∃ out, TxIn w' u out ∧ OrQ (nfL L) (fun k => k ∈ ksH L (fun _ => true)) (ksH L (fun _ => true)) out ∧ Below W.heap.size W w')) := fun v W h1 h2 => (OrderOf_any ao cap L v _ W (HF.out.below h1) hN h2).mono fun e w' ⟨u, out, q1, q2, q3, q4⟩ => ⟨u, q1, out, row_tx q2 (by
      have h5 := q3.kn.nodup.length_le_of_subset q3.kn.sub
      have h6 := ksH_len (L := L) (h := fun _ => true)
      simp at h5
      omega), q3, q4⟩
    rw [h0] at HCk HOr
    clear hN hn60 hb h0
    generalize L.length = ln at *
    go_enter Tryz.func3, Tryz.ntmps3
    go_wp2_with fail
    refine HOr.mono ?_
    rintro e w1 ⟨v, code, rfl, G1⟩
    obtain ⟨out, q1, q2, q3⟩ := G1.out
    have HLs : Hid (LsA 0 (nfL L) (fun k => k ∈ L.map tnm) out code ∧ TxIn w1 v out) := ⟨q1, q2⟩
    have HB1 : Hid (Below w.heap.size w w1) := q3
    clear G1 q1 q2 q3 HOr
    go_wp2_with fail
    refine (HCk.out w1 HB1.out).mono ?_
    rintro e w2 ⟨rfl, rfl⟩
    clear HCk
    go_wp2_with fail
    refine (HEv.out w2).mono ?_
    rintro e w3 ⟨ve, rfl, hve, hb3⟩
    have HB3 : Hid (Below w.heap.size w w3) := HB1.out.trans (hb3.mono HB1.out.size)
    have HT3 : Hid (TxIn w3 v out) := HLs.out.2.below hb3 (Nat.le_refl _)
    have HCC := HCr.out ve w3 HB3.out hve
    clear hve hb3 HCr HB1
    go_wp2_with fail
    refine HCC.mono ?_
    rintro e w4 ⟨rfl, G4⟩
    have HB4 : Hid (Below w.heap.size w w4) := HB3.out.trans (G4.out.mono HB3.out.size)
    have HT4 : Hid (TxIn w4 v out) := HT3.out.below G4.out (Nat.le_refl _)
    clear G4 HCC HB3 HT3
    cases b with
    | true =>
      obtain ⟨rfl, rfl⟩ := ls_circ HN.out ksH_all HLs.out.1 HN.out.clT (HB.out.1 rfl)
      clear HLs HOO HEv
      go_wp2_with fail
      refine (HBg.out w4 HB4.out).mono ?_
      rintro e w5 ⟨rfl, G5⟩
      have hT := HTA.out 10 v (.slice none 0 0) [] w5 (HT4.out.below G5.out (Nat.le_refl _)) (tx_nil _) (fun _ => rfl)
      have HB5 : Hid (Below w.heap.size w w5) := HB4.out.trans (G5.out.mono HB4.out.size)
      clear HTA HBg G5 HT4 HB4
      go_wp2_with fail
      refine hT.mono ?_
      rintro e w6 ⟨rfl, hb6⟩
      have HB6 : Hid (Below w.heap.size w w6) := HB5.out.trans (hb6.mono HB5.out.size)
      clear hT hb6
      go_wp2
      go_ret
      exact ⟨rfl, HB6.out⟩
    | false =>
      go_wp2_with fail
      refine (HEv.out w4).mono ?_
      rintro e w5 ⟨vf, rfl, hvf, hb5⟩
      have HB5 : Hid (Below w.heap.size w w5) := HB4.out.trans (hb5.mono HB4.out.size)
      have HT5 : Hid (TxIn w5 v out) := HT4.out.below hb5 (Nat.le_refl _)
      have HO5 := HOO.out vf w5 HB5.out hvf
      clear hvf hb5 HOO HEv HB4 HT4
      go_wp2_with fail
      refine HO5.mono ?_
      rintro e w6 ⟨u, rfl, G6⟩
      obtain ⟨o, p1, p2, p3⟩ := G6.out
      obtain ⟨rfl, rfl⟩ := ls_flat HN.out ksH_all HLs.out.1 HN.out.clT (fun hx => absurd (HB.out.2 hx) (by simp)) p2
      have HB6 : Hid (Below w.heap.size w w6) := HB5.out.trans (p3.mono HB5.out.size)
      have HT6 : Hid (TxIn w6 v out ∧ TxIn w6 u out) := ⟨HT5.out.below p3 (Nat.le_refl _), p1⟩
      clear G6 p1 p2 p3 HO5 HB5 HT5 HLs
      go_wp2_with fail
      refine (HBg.out w6 HB6.out).mono ?_
      rintro e w7 ⟨rfl, G7⟩
      have hT := HTA.out 0 v u out w7 (HT6.out.1.below G7.out (Nat.le_refl _)) (HT6.out.2.below G7.out (Nat.le_refl _)) (fun h => absurd rfl h)
      have HB7 : Hid (Below w.heap.size w w7) := HB6.out.trans (G7.out.mono HB6.out.size)
      clear HTA HBg G7 HT6 HB6
      go_wp2_with fail
      refine hT.mono ?_
      rintro e w8 ⟨rfl, hb8⟩
      have HB8 : Hid (Below w.heap.size w w8) := HB7.out.trans (hb8.mono HB7.out.size)
      clear hT hb8
      go_wp2
      go_ret
      exact ⟨rfl, HB8.out⟩
  · have HC : Hid (ckN L ≠ 0) := h0
    generalize ckN L = c at *
    have hc1 : ¬(c : Int) = 0 := h0
    have hc2 : ((c : Int) == 0) = false := by simpa using h0
    generalize L.length = ln at *
    clear h0
    go_enter Tryz.func3, Tryz.ntmps3
    go_wp2_with fail
    refine HOr.mono ?_
    rintro e w1 ⟨v, code, rfl, G1⟩
    obtain ⟨out, q1, q2, q3⟩ := G1.out
    obtain ⟨rfl, rfl⟩ : out = [] ∧ code = c := by
      rcases q1 with ⟨_, e1, e2⟩ | ⟨e1, _⟩
      · exact ⟨e1, e2⟩
      · exact absurd e1 HC.out
    have HT1 : Hid (TxIn w1 v []) := q2
    have HB1 : Hid (Below w.heap.size w w1) := q3
    clear G1 q1 q2 q3 HOr
    go_wp2_with fail
    refine (HCk.out w1 HB1.out).mono ?_
    rintro e w2 ⟨rfl, rfl⟩
    clear HCk
    go_wp2_with fail
    refine (HBg.out w2 HB1.out).mono ?_
    rintro e w5 ⟨rfl, G5⟩
    have hT := HTA.out code v (.slice none 0 0) [] w5 (HT1.out.below G5.out (Nat.le_refl _)) (tx_nil _) (fun _ => rfl)
    have HB5 : Hid (Below w.heap.size w w5) := HB1.out.trans (G5.out.mono HB1.out.size)
    clear HTA HBg G5 HT1 HB1
    go_wp2_with fail
    refine hT.mono ?_
    rintro e w6 ⟨rfl, hb6⟩
    have HB6 : Hid (Below w.heap.size w w6) := HB5.out.trans (hb6.mono HB5.out.size)
    clear hT hb6
    go_wp2
    go_ret
    exact ⟨rfl, HB6.out⟩

set_option maxRecDepth 100000 in
theorem orders_walk_lifted (os : Os) (started : os.Started) (H : Type) (enc : TypeId × Value → H) (F : Stop.Interp) :
    ReturnsInHanded {} Tryz.checked os 3 .any ((Rows.OpenSpec.upto Rows.graphOrdersSpec).preRow enc Tryz.prog Tryz.f3 Rows.graphOrdersUptoRow.domain false Rows.graphOrdersUptoRow.laid) (((Rows.OpenSpec.upto Rows.graphOrdersSpec).at F).post enc Tryz.prog Tryz.f3 false true false false) := by
  refine returnsInHanded_of_row (C := Tryz.checked) (s := Rows.OpenSpec.upto Rows.graphOrdersSpec) own started (by kernel_rfl) Tryz.func3
    (witness_up (enc := enc) (C := Tryz.checked) (os := os) (World.laidAll Tryz.prog os Rows.graphOrdersUptoRow.laid) #[.slice none 0 0] (World.laidAll_os _ _ _)
      (World.shaped_of_ZipB (by kernel_rfl) (by kernel_rfl)) (by kernel_rfl)
      (OpenSpec.preRow_of_cond 8 (x := ([.nil], [], [])) (by kernel_rfl) (by kernel_rfl) (fun k hk => by cases hk; kernel_rfl) (by kernel_rfl)
        (by rw [MakeChecks.laidMetH_plain _ _ _ (by kernel_rfl)]; exact laidMet_laidAll _ (by kernel_rfl) (by kernel_rfl)))) ?_
  intro W base args ds gs before hval0 hW _ hcond hsz0 lies shape _
  have hval : ∀ (j : Nat) t v, Tryz.f3.params[j]? = some t → args[j]? = some v → Value.okWide Tryz.prog W .any base t v := hval0
  have hk := hcond _ rfl
  have hW' := hW
  obtain ⟨p, q, hA0, hV, rfl, hfz, hnd⟩ := hW
  have hA : DataW.TrodAll enc Tryz.prog W 0 (fun _ => true) true Tryz.f3.params.toList args.toList ds p := hA0
  have hsz : (DataW.weightsEach Tryz.prog (Tryz.f3.params.toList ++ Rows.graphOrdersSpec.plain.varTypes Tryz.prog) (ds ++ gs)).all (· ≤ reachBytes) = true := hsz0
  rw [Tryz.params3] at hA hval hsz
  obtain ⟨v0, d0, rfl, rfl, h0⟩ := trodAll_one hA
  obtain ⟨rfl, rfl⟩ := trodVars_none hV
  have h9 := of_decide_eq_true hk
  simp only [List.append_nil, Rows.uptoBulkAll] at h9
  obtain ⟨L0, ao0, cap0, rfl, hf0, hcap0, hnil0⟩ := arg_targets (hval 0 22 v0 rfl rfl) h0 (by omega)
  have lt0 : ∀ x ∈ p, x.block < W.heap.size := by obtain ⟨m, hm⟩ := h0; exact DataW.trod_lt m _ _ _ hm
  clear hA0 hval0
  refine (orders_walk ao0 cap0 L0 W hf0 (max_of_shaped shape)).mono fun e W' ⟨he, bel⟩ => ?_
  subst he
  exact ⟨_, rfl, _, _, _, [], _, [], hW', trodAll_mk1 (shut_bool Tryz.underlying4 _), trodAll_mk1 (Below.trod laidOut (by kernel_rfl) (of_decide_eq_true (by kernel_rfl)) h0 bel lt0), rfl, bel.frame _, fun h => by cases h⟩

theorem graphOrdersUpto_row : Rows.GraphOrdersUptoSaid :=
  OpenClaim.holds_of_cond 3 Tryz.f3 rfl rfl rfl rfl rfl rfl rfl ⟨rfl, rfl, rfl, rfl, rfl⟩ rfl rfl rfl rfl rfl (by kernel_rfl) Tryz.func3 (by kernel_rfl)
    (of_decide_eq_true (by kernel_rfl)) (by unfold Func.isWrapper; first | (rw [if_pos (by decide +kernel)]; kernel_rfl) | (rw [if_neg (by decide +kernel)]; exact ⟨rfl, rfl⟩))
    (fun os started H enc _ F => by rw [OpenClaim.pre_eq_preRow]; exact orders_walk_lifted os started H enc F)

theorem graphOrdersUpto_holds : Rows.GraphOrdersUptoCardSaid :=
  Claim7.holds_tied_plain_at .later [] Rows.graphOrdersUptoCard.laidKinds true Rows.graphOrdersUptoCard.stood.harness true
    graphOrdersUpto_row (fun _ h => by cases h) (by kernel_rfl) (fun _ h => by cases h) graphOrdersUpto_row_tie rfl ⟨rfl, rfl⟩ (by kernel_rfl) rfl
    (fun f fn hf hfn => by
      obtain rfl : f = 3 := Option.some.inj ((show Tryz.prog.funcNamed Rows.graphOrdersUptoRow.func = some 3 by kernel_rfl).symm.trans hf) |>.symm
      obtain rfl : fn = Tryz.f3 := (Option.some.inj (Tryz.func3.symm.trans hfn)).symm
      exact ⟨by kernel_rfl, fun j t ht => by
        rw [Tryz.params3] at ht
        have hm : t ∈ [22] := by simpa using Array.mem_of_getElem? ht
        have hall : ([22].all fun u => !Tryz.prog.wantsStandIn u) = true := by kernel_rfl
        exact (show Tryz.prog.wantsStandIn t = false by simpa using List.all_eq_true.1 hall t hm)⟩)
    (by kernel_rfl)
#print axioms graphOrdersUpto_holds
end Go.Proofs.YtankaiopdbcndaaGreatDoor
