/- GraphCircles holds in its second form, its listed variables tied to the program's text: for all targets that can be read, of no more bulk than the form says, Circle tells what is wrong with names as the document does; else a circle, or none where the document sees none; they read behind the call as they read before. -/
import Derived.Test.YtankaiopdbcndaaGreatDoorGq7M
import Derived.Test.YtankaiopdbcndaaGreatDoorTc7
import Derived.Test.YtankaiopdbcndaaGreatDoorGn31M
import Derived.Deep.RegionWith
namespace Go.Proofs.YtankaiopdbcndaaGreatDoor
open Go.ChangeShapes Go.WideShapes Go.ChangeAt Go.RowKit Go.Shelf
theorem cyc_at {L : List Tg} {c : List ByteArray} (hN : NmOk L) (h : Cyc (ndT (nfL L)) (c.map tl)) (hU : ∀ y ∈ c, tl y ∈ L.map tnm) (i : Nat) (hi : i < c.length) : ∃ j m, ∃ (hj : j < L.length) (hm : m < c.length), tgI L (tl c[i]) = (j : Int) ∧ m = (i + 1) % c.length ∧ c[m] ∈ L[j].ns ∧ c[i] ∉ c.take i := by
  have hp : 0 < c.length := by omega
  rcases tgI_cases L (tl c[i]) with ⟨_, h2⟩ | ⟨j, hj, h1, h2, _⟩
  · exact absurd (hU _ (List.getElem_mem hi)) h2
  · refine ⟨j, (i + 1) % c.length, hj, Nat.mod_lt _ hp, h1, rfl, ?_, fun hm => ?_⟩
    · have hx := h.nx i (by simpa using hi)
      simp only [List.length_map, List.getElem_map] at hx
      rw [← h2, nd_at hN hj] at hx
      obtain ⟨y, hy, e⟩ := List.mem_map.1 hx
      rw [← tl_ext e]
      exact hy
    · obtain ⟨k, hk, e⟩ := List.mem_take_iff_getElem.1 hm
      have := List.pairwise_iff_getElem.1 (List.nodup_iff_pairwise_ne.1 h.nod) k i (by simp; omega) (by simpa using hi) (by omega)
      simp only [List.getElem_map] at this
      exact this (by rw [e])

set_option maxHeartbeats 8000000 in
set_option maxRecDepth 100000 in
theorem circles_walk (ao : Option Addr) (cap : Nat) (L : List Tg) (w : World) (h : Fine w ao L) (hm : MaxIs w) :
    Calls Tryz.prog 4 #[.slice ao L.length cap] w fun e w' => e = .returned (.bool true) ∧ Below w.heap.size w w' := by
  have HF : Hid (Fine w ao L) := h
  have HBg : Hid (∀ W, Below w.heap.size w W → Calls Tryz.prog 14 #[] W fun e w' => e = .returned (.bool true) ∧ Hid (Below W.heap.size W w')) := fun W hb => (begun_any W (hm.up hb)).mono fun e w' q => ⟨q.1, q.2⟩
  have hln := h.len
  have hli : (L.length : Int) ≤ 1048576 := by omega
  obtain ⟨ln, hLn⟩ : ∃ ln, ln = L.length := ⟨_, rfl⟩
  have HL : Hid (ln = L.length) := hLn
  have HCk : Hid (∀ W, Below w.heap.size w W → Calls Tryz.prog 10 #[.slice ao ln cap] W fun e w' => e = .returned (.int .i64 (ckN L)) ∧ w' = W) := fun W hb => by rw [hLn]; exact CheckNames_any ao cap L W (h.below hb)
  rw [← hLn] at hli ⊢
  clear h hm hLn hln
  go_enter Tryz.func4, Tryz.ntmps4
  go_wp2_with fail
  refine (HF.out.circle ln cap HL.out w (Below.refl _ _)).mono ?_
  rintro e w1 ⟨v, e2, rfl, G1⟩
  obtain ⟨c, q1, q2, q3, q4⟩ := G1.out
  have HB1 : Hid (Below w.heap.size w w1) := q3
  have HT1 : Hid (TxIn w1 v c) := q2
  obtain ⟨_, hcl, va, vc, rfl, _⟩ := q2
  have HVc : Hid (c.length ≤ vc) := q4 _ _ _ rfl
  have HCc : Hid (CcA L c e2) := q1
  have hci : (c.length : Int) ≤ 1048576 := by omega
  clear G1 q1 q3 q4 hcl
  go_wp2_with fail
  refine (HCk.out w1 HB1.out).mono ?_
  rintro e w2 ⟨rfl, rfl⟩
  clear HCk
  go_wp2_with fail
  refine (HBg.out w2 HB1.out).mono ?_
  rintro e w3 ⟨rfl, G3⟩
  have HB3 : Hid (Below w.heap.size w w3) := HB1.out.trans (G3.out.mono HB1.out.size)
  have HT3 : Hid (TxIn w3 (.slice va c.length vc) c) := HT1.out.below G3.out (Nat.le_refl _)
  clear G3 HB1 HT1
  by_cases h0 : ckN L = 0
  · have hN := ckN_ok.1 h0
    have HN : Hid (NmOk L) := hN
    obtain ⟨he2, hcc⟩ : e2 = 0 ∧ ((Cyc (ndT (nfL L)) (c.map tl) ∧ ∀ y ∈ c, tl y ∈ L.map tnm) ∨ (c = [] ∧ ∀ k ∈ L.map tnm, ¬ Rp (ndT (nfL L)) k k)) := by
      rcases HCc.out with ⟨hn, _⟩ | ⟨_, h2, h3⟩
      · exact absurd h0 hn
      · exact ⟨h2, h3⟩
    subst he2
    rw [h0]
    clear HCc h0
    rcases hcc with ⟨hcy, hcu⟩ | ⟨rfl, hno⟩
    · have hp : 0 < c.length := by have := hcy.ne; simpa using this
      have HAt : Hid (∀ i (hi : i < c.length), ∃ j m, ∃ (hj : j < L.length) (hm : m < c.length), tgI L (tl c[i]) = (j : Int) ∧ m = (i + 1) % c.length ∧ c[m] ∈ L[j].ns ∧ c[i] ∉ c.take i) := fun i hi => cyc_at hN hcy hcu i hi
      obtain ⟨_, _, va2, vc2, e, hmem⟩ := HT3.out
      injection e with e1 _ e3
      subst e1 e3
      rcases hmem with hz | ⟨g, of, rfl, hg, hcell⟩
      · exfalso; rw [hz] at hp; exact absurd hp (by simp)
      have HCl : Hid (∀ j (hj : j < c.length), w3.cell? ⟨g, of + j, none⟩ = some (.string c[j])) := hcell
      have HTA : Hid (∀ x W, Below w.heap.size w W → Calls Tryz.prog 17 #[.slice ao ln cap, .string x] W fun e w' => e = .returned (.int .i64 (tgI L (tl x))) ∧ w' = W) := fun x W hb => by rw [HL.out]; exact TargetAt_any ao cap L x W (HF.out.below hb).is HF.out.len
      obtain ⟨cn, hcn⟩ : ∃ cn, cn = c.length := ⟨_, rfl⟩
      have HCn : Hid (cn = c.length) := hcn
      have hcn0 : ¬ cn = 0 := by omega
      have hcni : ¬ (cn : Int) = 0 := by omega
      have hcnb : ((cn : Int) == 0) = false := by simp; omega
      have hcnp : (0 : Int) < (cn : Int) := by omega
      rw [← hcn] at hci ⊢
      clear hN hcy hcu hp hg hcell hcn HBg
      go_wp2
      go_loopw [6] (fun u wr => ∃ i m : Nat, i ≤ cn ∧ u = .int .i64 (i : Int) ∧ wr = w3.drewN m) (fun u _ => cn - (intOf u).toNat)
      case atStart => exact ⟨0, 0, Nat.zero_le _, rfl, rfl⟩
      case round =>
        obtain ⟨i, m0, hi, rfl, rfl⟩ := hrel
        by_cases hlt : i < cn
        · have hii : (i : Int) < (cn : Int) := by omega
          have hic : i < c.length := by rw [← HCn.out]; exact hlt
          obtain ⟨j, m, hj, hm, h1, h2, h3, h4⟩ := HAt.out i hic
          rw [← HCn.out] at h2
          have hmi : (m : Int) < (cn : Int) := by rw [HCn.out]; omega
          have hbw : Below w.heap.size w (w3.drewN m0) := below_drw HB3.out m0
          have HTt := HTA.out c[i] (w3.drewN m0) hbw
          rw [h1] at HTt
          have c0 : (w3.drewN m0).cell? ⟨g, of + i, none⟩ = some (.string c[i]) := HCl.out i hic
          have c1 : (w3.drewN m0).cell? ⟨g, of + m, none⟩ = some (.string c[m]) := HCl.out m hm
          obtain ⟨tg, to, rfl, htg, hat⟩ := HF.out.is.at_.resolve_left (fun e => by rw [e] at hj; exact absurd hj (by simp))
          have c2 : (w3.drewN m0).cell? ⟨tg, to + j * 5 + 2, none⟩ = some L[j].vn := (hat.below hbw htg j hj).2.2.1
          have hNt := ((HF.out.below hbw).is.tx L[j] (List.getElem_mem hj)).2.1
          have hjl : (j : Int) < (ln : Int) := by rw [HL.out]; omega
          have hj0 : ¬ (j : Int) < 0 := by omega
          obtain ⟨i1, hi1⟩ : ∃ i1, i1 = i + 1 := ⟨_, rfl⟩
          have hi2 : (i : Int) + 1 = (i1 : Int) := by omega
          rw [← hi1] at h2
          have hr2 : (i1 : Int) % (cn : Int) = (m : Int) := by rw [h2]; simp
          have hr1 : (i1 : Int).tmod (cn : Int) = (m : Int) := by rw [Int.tmod_eq_emod_of_nonneg (by omega)]; exact hr2
          have hi3 : IntKind.i64.wrap (i1 : Int) = (i1 : Int) := by rw [IntKind.wrap_i64]; omega
          have hivc : i ≤ vc := by have := HVc.out; omega
          have hivi : (i : Int) ≤ (vc : Int) := by omega
          have HH1 := fun M => HasText_any L[j].vn L[j].ns c[m] ((w3.drewN m0).drewN M) (hNt.drewN M) true ⟨fun _ => h3, fun _ => rfl⟩
          have HH2 := fun M => HasText_any (.slice (some ⟨g, of, none⟩) i vc) (c.take i) c[i] ((w3.drewN m0).drewN M) (((HT3.out.drewN m0).cut i (by omega)).drewN M) false ⟨fun e => (by cases e), fun e => absurd e h4⟩
          obtain ⟨W, hW⟩ : ∃ W, W = w3.drewN m0 := ⟨_, rfl⟩
          have HW : Hid (W = w3.drewN m0) := hW
          rw [← hW] at c0 c1 c2 HH1 HH2 HTt ⊢
          generalize L[j].vn = nv at *
          generalize c[i] = x at *
          generalize c[m] = y at *
          have HI1 : Hid (i1 = i + 1) := hi1
          clear hat hNt h1 h2 h3 h4 hj hm hbw hW hi1 hic
          go_wp2_with (first | (go_at_call 17; refine HTt.mono ?_; rintro e wx ⟨rfl, rfl⟩) | go_in)
          go_quiet (first | (go_at_call_of 18 nv; exact Calls.quiet_of_same (HH1 _)) | (go_at_call_of 18 x; exact Calls.quiet_of_same (HH2 _)))
          go_wp2
          exact ⟨⟨i1, _, by have := HI1.out; omega, by go_num, by rw [HW.out, World.drewN_drewN]⟩, by
            have := HI1.out
            simp [intOf]
            omega⟩
        · obtain rfl : i = cn := by omega
          clear HAt HCl
          go_wp2
          go_ret
          exact ⟨rfl, below_drw HB3.out m0⟩
    · have hn60 := HN.out.len
      have HEv : Hid (Calls Tryz.prog 12 #[.slice ao ln cap] w3 fun e w' => ∃ v, e = .returned v ∧ BlIn w' v L.length (fun _ => true) ∧ Below w3.heap.size w3 w') := by rw [HL.out]; exact Everyone_any ao cap L w3 hn60
      have HCr : Hid (∀ v W, Below w.heap.size w W → BlIn W v L.length (fun _ => true) → Calls Tryz.prog 11 #[.slice ao ln cap, v] W fun e w' => e = .returned (.bool false) ∧ Hid (Below W.heap.size W w')) := fun v W h1 h2 => by
        rw [HL.out]
        refine HasCircle_any ao cap L v _ W (HF.out.below h1) HN.out h2 false ⟨fun e => (by cases e), fun hx => ?_⟩
        obtain ⟨k, hk, hr⟩ := (crc_iff (S := fun k => k ∈ L.map tnm) HN.out ksH_all).1 hx
        exact absurd hr (hno k hk)
      clear hN hno HBg HT3 HVc
      go_wp2_with fail
      refine HEv.out.mono ?_
      rintro e w4 ⟨ve, rfl, hve, hb4⟩
      have HB4 : Hid (Below w.heap.size w w4) := HB3.out.trans (hb4.mono HB3.out.size)
      have HC := HCr.out ve w4 HB4.out hve
      clear hve hb4 HEv HCr
      go_wp2_with fail
      refine HC.mono ?_
      rintro e w5 ⟨rfl, G5⟩
      have HB5 : Hid (Below w.heap.size w w5) := HB4.out.trans (G5.out.mono HB4.out.size)
      clear HC G5
      go_wp2
      go_ret
      exact ⟨rfl, HB5.out⟩
  · have he : c = [] ∧ e2 = ckN L := by
      rcases HCc.out with ⟨_, h2, h3⟩ | ⟨hn, _⟩
      · exact ⟨h2, h3⟩
      · exact absurd hn h0
    obtain ⟨rfl, rfl⟩ := he
    clear HCc HT3 HVc HF
    generalize ckN L = ck at *
    have hc1 : ¬ (ck : Int) = 0 := h0
    clear h0
    go_wp2_with fail
    refine (HBg.out w3 HB3.out).mono ?_
    rintro e w4 ⟨rfl, G4⟩
    have HB4 : Hid (Below w.heap.size w w4) := HB3.out.trans (G4.out.mono HB3.out.size)
    clear HBg G4
    go_wp2
    go_ret
    exact ⟨by first | rfl | simp, HB4.out⟩

set_option maxRecDepth 100000 in
theorem circles_walk_lifted (os : Os) (started : os.Started) (H : Type) (enc : TypeId × Value → H) (F : Stop.Interp) :
    ReturnsInHanded {} Tryz.checked os 4 .any ((Rows.OpenSpec.upto Rows.graphCirclesSpec).preRow enc Tryz.prog Tryz.f4 Rows.graphCirclesUptoRow.domain false Rows.graphCirclesUptoRow.laid) (((Rows.OpenSpec.upto Rows.graphCirclesSpec).at F).post enc Tryz.prog Tryz.f4 false true false false) := by
  refine returnsInHanded_of_row (C := Tryz.checked) (s := Rows.OpenSpec.upto Rows.graphCirclesSpec) own started (by kernel_rfl) Tryz.func4
    (witness_up (enc := enc) (C := Tryz.checked) (os := os) (World.laidAll Tryz.prog os Rows.graphCirclesUptoRow.laid) #[.slice none 0 0] (World.laidAll_os _ _ _)
      (World.shaped_of_ZipB (by kernel_rfl) (by kernel_rfl)) (by kernel_rfl)
      (OpenSpec.preRow_of_cond 8 (x := ([.nil], [], [])) (by kernel_rfl) (by kernel_rfl) (fun k hk => by cases hk; kernel_rfl) (by kernel_rfl)
        (by rw [MakeChecks.laidMetH_plain _ _ _ (by kernel_rfl)]; exact laidMet_laidAll _ (by kernel_rfl) (by kernel_rfl)))) ?_
  intro W base args ds gs before hval0 hW _ hcond hsz0 lies shape _
  have hval : ∀ (j : Nat) t v, Tryz.f4.params[j]? = some t → args[j]? = some v → Value.okWide Tryz.prog W .any base t v := hval0
  have hk := hcond _ rfl
  have hW' := hW
  obtain ⟨p, q, hA0, hV, rfl, hfz, hnd⟩ := hW
  have hA : DataW.TrodAll enc Tryz.prog W 0 (fun _ => true) true Tryz.f4.params.toList args.toList ds p := hA0
  have hsz : (DataW.weightsEach Tryz.prog (Tryz.f4.params.toList ++ Rows.graphCirclesSpec.plain.varTypes Tryz.prog) (ds ++ gs)).all (· ≤ reachBytes) = true := hsz0
  rw [Tryz.params4] at hA hval hsz
  obtain ⟨v0, d0, rfl, rfl, h0⟩ := trodAll_one hA
  obtain ⟨rfl, rfl⟩ := trodVars_none hV
  have h9 := of_decide_eq_true hk
  simp only [List.append_nil, Rows.uptoBulkAll] at h9
  obtain ⟨L0, ao0, cap0, rfl, hf0, hcap0, hnil0⟩ := arg_targets (hval 0 22 v0 rfl rfl) h0 (by omega)
  have lt0 : ∀ x ∈ p, x.block < W.heap.size := by obtain ⟨m, hm⟩ := h0; exact DataW.trod_lt m _ _ _ hm
  clear hA0 hval0
  refine (circles_walk ao0 cap0 L0 W hf0 (max_of_shaped shape)).mono fun e W' ⟨he, bel⟩ => ?_
  subst he
  exact ⟨_, rfl, _, _, _, [], _, [], hW', trodAll_mk1 (shut_bool Tryz.underlying4 _), trodAll_mk1 (Below.trod laidOut (by kernel_rfl) (of_decide_eq_true (by kernel_rfl)) h0 bel lt0), rfl, bel.frame _, fun h => by cases h⟩

theorem graphCirclesUpto_row : Rows.GraphCirclesUptoSaid :=
  OpenClaim.holds_of_cond 4 Tryz.f4 rfl rfl rfl rfl rfl rfl rfl ⟨rfl, rfl, rfl, rfl, rfl⟩ rfl rfl rfl rfl rfl (by kernel_rfl) Tryz.func4 (by kernel_rfl)
    (of_decide_eq_true (by kernel_rfl)) (by unfold Func.isWrapper; first | (rw [if_pos (by decide +kernel)]; kernel_rfl) | (rw [if_neg (by decide +kernel)]; exact ⟨rfl, rfl⟩))
    (fun os started H enc _ F => by rw [OpenClaim.pre_eq_preRow]; exact circles_walk_lifted os started H enc F)

theorem graphCirclesUpto_holds : Rows.GraphCirclesUptoCardSaid :=
  Claim7.holds_tied_plain_at .later [] Rows.graphCirclesUptoCard.laidKinds true Rows.graphCirclesUptoCard.stood.harness true
    graphCirclesUpto_row (fun _ h => by cases h) (by kernel_rfl) (fun _ h => by cases h) graphCirclesUpto_row_tie rfl ⟨rfl, rfl⟩ (by kernel_rfl) rfl
    (fun f fn hf hfn => by
      obtain rfl : f = 4 := Option.some.inj ((show Tryz.prog.funcNamed Rows.graphCirclesUptoRow.func = some 4 by kernel_rfl).symm.trans hf) |>.symm
      obtain rfl : fn = Tryz.f4 := (Option.some.inj (Tryz.func4.symm.trans hfn)).symm
      exact ⟨by kernel_rfl, fun j t ht => by
        rw [Tryz.params4] at ht
        have hm : t ∈ [22] := by simpa using Array.mem_of_getElem? ht
        have hall : ([22].all fun u => !Tryz.prog.wantsStandIn u) = true := by kernel_rfl
        exact (show Tryz.prog.wantsStandIn t = false by simpa using List.all_eq_true.1 hall t hm)⟩)
    (by kernel_rfl)
#print axioms graphCirclesUpto_holds
end Go.Proofs.YtankaiopdbcndaaGreatDoor
