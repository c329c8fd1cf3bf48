/- GraphRounds holds in its second form, its listed variables tied to the program's text: for all targets that can be read, of no more bulk than the form says, there is an order just where there is no circle, and it has them all; they read behind the call as they read before. -/
import Derived.Test.YtoccfkinnopnjaaDoorTr6
namespace Go.Proofs.YtoccfkinnopnjaaDoor
open Go.ChangeShapes Go.WideShapes Go.ChangeAt Go.RowKit Go.Shelf
theorem ro_of {L : List Tg} {o c : List ByteArray} {e : Int} (h0 : ckN L = 0) (h1 : LsA (ckN L) (nfL L) (fun k => k ∈ L.map tnm) o e) (h2 : CcA L c 0) : (e = 10 ∧ 0 < c.length) ∨ (e = 0 ∧ c = [] ∧ o.length = L.length) := by
  have hN := ckN_ok.1 h0
  have hcl : ∀ k, k ∈ L.map tnm → ∀ y ∈ ndT (nfL L) k, y ∈ L.map tnm := fun k hk y hy => by
    obtain ⟨z, hz, rfl⟩ := List.mem_map.1 hy
    exact hN.cl k hk z hz
  rcases h2 with ⟨hn, _⟩ | ⟨_, _, h2⟩
  · exact absurd h0 hn
  · rcases h1 with ⟨hn, _⟩ | ⟨_, ks, q, hq, ⟨h3, h4, h5⟩ | ⟨h3, h4, h5⟩⟩
    · exact absurd h0 hn
    · left
      refine ⟨h5, ?_⟩
      obtain ⟨k, hk, hr⟩ := (hq.circ hcl).1 h3
      rcases h2 with ⟨h6, _⟩ | ⟨_, h6⟩
      · have := h6.ne
        simpa using this
      · exact absurd hr (h6 k hk)
    · right
      refine ⟨h5, ?_, ?_⟩
      · rcases h2 with ⟨h6, h7⟩ | ⟨h6, _⟩
        · have hp := h6.ne
          have h8 := (hq.circ hcl).2 ⟨_, (by
            obtain ⟨y, hy, e⟩ := List.mem_map.1 (List.getElem_mem hp)
            rw [← e]
            exact h7 y hy), h6.loop⟩
          omega
        · exact h6
      · rw [h4, h3, perm_len hq.nod hN.nod fun k => hq.mem k, List.length_map]

set_option maxHeartbeats 8000000 in
set_option maxRecDepth 100000 in
theorem rounds_walk (ao : Option Addr) (cap : Nat) (L : List Tg) (w : World) (h : Fine w ao L) (hm : MaxIs w) :
    Calls Tryd.prog 3 #[.slice ao L.length cap] w fun e w' => e = .returned (.bool true) ∧ Below w.heap.size w w' := by
  have HF : Hid (Fine w ao L) := h
  have HBg : Hid (Calls Tryd.prog 4 #[] w fun e w' => e = .returned (.bool true) ∧ Below w.heap.size w w') := begun_any w hm
  obtain ⟨ln, hLn⟩ : ∃ ln, ln = L.length := ⟨_, rfl⟩
  have HL : Hid (ln = L.length) := hLn
  rw [← hLn]
  clear h hm hLn
  go_enter Tryd.func3, Tryd.ntmps3
  go_wp2_with fail
  refine HBg.out.mono ?_
  rintro e w1 ⟨rfl, hb1⟩
  have HB1 : Hid (Below w.heap.size w w1) := hb1
  clear hb1 HBg
  go_wp2_with fail
  refine (HF.out.order ln cap HL.out w1 HB1.out).mono ?_
  rintro e w2 ⟨v, e1, rfl, G1⟩
  obtain ⟨o, p1, p2, p3⟩ := G1.out
  have HB2 : Hid (Below w.heap.size w w2) := HB1.out.trans (p3.mono HB1.out.size)
  obtain ⟨hs1, hol, va, vc, rfl, hs2⟩ := p2
  clear hs1 hs2
  have HLs : Hid (LsA (ckN L) (nfL L) (fun k => k ∈ L.map tnm) o e1) := p1
  clear G1 p1 p3 HB1
  go_wp2_with fail
  refine (HF.out.circle ln cap HL.out w2 HB2.out).mono ?_
  rintro e w3 ⟨u, e2, rfl, G2⟩
  obtain ⟨c, q1, q2, q3, q4⟩ := G2.out
  have HB3 : Hid (Below w.heap.size w w3) := HB2.out.trans (q3.mono HB2.out.size)
  clear q4
  obtain ⟨hs3, hcl, ua, uc, rfl, hs4⟩ := q2
  clear hs3 hs4
  have HCc : Hid (CcA L c e2) := q1
  clear G2 q1 q3 HB2 HF
  by_cases h0 : ckN L = 0
  · obtain rfl : e2 = 0 := by
      rcases HCc.out with ⟨hn, _⟩ | ⟨_, h2, _⟩
      · exact absurd h0 hn
      · exact h2
    rcases ro_of h0 HLs.out HCc.out with ⟨rfl, hc⟩ | ⟨rfl, rfl, ho⟩
    · have hci : (0 : Int) < (c.length : Int) := by omega
      clear HLs HCc h0 hc
      generalize c.length = cl at *
      generalize o.length = ol at *
      go_wp2
      go_ret
      exact ⟨by first | rfl | simp, HB3.out⟩
    · have hoi : (o.length : Int) = (ln : Int) := by rw [ho, HL.out]
      rw [ho, ← HL.out]
      clear HLs HCc h0 hoi
      go_wp2
      go_ret
      exact ⟨by first | rfl | simp, HB3.out⟩
  · obtain rfl : e1 = e2 := by
      rcases HCc.out with ⟨_, _, h2⟩ | ⟨hn, _⟩
      · rcases HLs.out with ⟨_, _, h3⟩ | ⟨hn, _⟩
        · rw [h2, h3]
        · exact absurd hn h0
      · exact absurd hn h0
    have hne : ¬ (e1 : Int) = 0 := by
      rcases HCc.out with ⟨h1, _, h2⟩ | ⟨hn, _⟩
      · rw [h2]; exact h1
      · exact absurd hn h0
    clear HLs HCc h0
    go_wp2
    go_ret
    exact ⟨by first | rfl | simp, HB3.out⟩

set_option maxRecDepth 100000 in
theorem rounds_walk_lifted (os : Os) (started : os.Started) (H : Type) (enc : TypeId × Value → H) (F : Stop.Interp) :
    ReturnsInHanded {} Tryd.checked os 3 .any ((Rows.OpenSpec.upto Rows.graphRoundsSpec).preRow enc Tryd.prog Tryd.f3 Rows.graphRoundsUptoRow.domain false Rows.graphRoundsUptoRow.laid) (((Rows.OpenSpec.upto Rows.graphRoundsSpec).at F).post enc Tryd.prog Tryd.f3 false true false false) := by
  refine returnsInHanded_of_row (C := Tryd.checked) (s := Rows.OpenSpec.upto Rows.graphRoundsSpec) own started (by kernel_rfl) Tryd.func3
    (witness_up (enc := enc) (C := Tryd.checked) (os := os) (World.laidAll Tryd.prog os Rows.graphRoundsUptoRow.laid) #[.slice none 0 0] (World.laidAll_os _ _ _)
      (World.shaped_of_ZipB (by kernel_rfl) (by kernel_rfl)) (by kernel_rfl)
      (OpenSpec.preRow_of_cond 8 (x := ([.nil], [], [])) (by kernel_rfl) (by kernel_rfl) (fun k hk => by cases hk; kernel_rfl) (by kernel_rfl)
        (by rw [MakeChecks.laidMetH_plain _ _ _ (by kernel_rfl)]; exact laidMet_laidAll _ (by kernel_rfl) (by kernel_rfl)))) ?_
  intro W base args ds gs before hval0 hW _ hcond hsz0 lies shape _
  have hval : ∀ (j : Nat) t v, Tryd.f3.params[j]? = some t → args[j]? = some v → Value.okWide Tryd.prog W .any base t v := hval0
  have hk := hcond _ rfl
  have hW' := hW
  obtain ⟨p, q, hA0, hV, rfl, hfz, hnd⟩ := hW
  have hA : DataW.TrodAll enc Tryd.prog W 0 (fun _ => true) true Tryd.f3.params.toList args.toList ds p := hA0
  have hsz : (DataW.weightsEach Tryd.prog (Tryd.f3.params.toList ++ Rows.graphRoundsSpec.plain.varTypes Tryd.prog) (ds ++ gs)).all (· ≤ reachBytes) = true := hsz0
  rw [Tryd.params3] at hA hval hsz
  obtain ⟨v0, d0, rfl, rfl, h0⟩ := trodAll_one hA
  obtain ⟨rfl, rfl⟩ := trodVars_none hV
  have h9 := of_decide_eq_true hk
  simp only [List.append_nil, Rows.uptoBulkAll] at h9
  obtain ⟨L0, ao0, cap0, rfl, hf0, hcap0, hnil0⟩ := arg_targets (hval 0 22 v0 rfl rfl) h0 (by omega)
  have lt0 : ∀ x ∈ p, x.block < W.heap.size := by obtain ⟨m, hm⟩ := h0; exact DataW.trod_lt m _ _ _ hm
  clear hA0 hval0
  refine (rounds_walk ao0 cap0 L0 W hf0 (max_of_shaped shape)).mono fun e W' ⟨he, bel⟩ => ?_
  subst he
  exact ⟨_, rfl, _, _, _, [], _, [], hW', trodAll_mk1 (shut_bool Tryd.underlying4 _), trodAll_mk1 (Below.trod laidOut (by kernel_rfl) (of_decide_eq_true (by kernel_rfl)) h0 bel lt0), rfl, bel.frame _, fun h => by cases h⟩

theorem graphRoundsUpto_row : Rows.GraphRoundsUptoSaid :=
  OpenClaim.holds_of_cond 3 Tryd.f3 rfl rfl rfl rfl rfl rfl rfl ⟨rfl, rfl, rfl, rfl, rfl⟩ rfl rfl rfl rfl rfl (by kernel_rfl) Tryd.func3 (by kernel_rfl)
    (of_decide_eq_true (by kernel_rfl)) (by unfold Func.isWrapper; first | (rw [if_pos (by decide +kernel)]; kernel_rfl) | (rw [if_neg (by decide +kernel)]; exact ⟨rfl, rfl⟩))
    (fun os started H enc _ F => by rw [OpenClaim.pre_eq_preRow]; exact rounds_walk_lifted os started H enc F)

theorem graphRoundsUpto_holds : Rows.GraphRoundsUptoCardSaid :=
  Claim7.holds_tied_plain_at .later [] Rows.graphRoundsUptoCard.laidKinds true Rows.graphRoundsUptoCard.stood.harness true
    graphRoundsUpto_row (fun _ h => by cases h) (by kernel_rfl) (fun _ h => by cases h) graphRoundsUpto_row_tie rfl ⟨rfl, rfl⟩ (by kernel_rfl) rfl
    (fun f fn hf hfn => by
      obtain rfl : f = 3 := Option.some.inj ((show Tryd.prog.funcNamed Rows.graphRoundsUptoRow.func = some 3 by kernel_rfl).symm.trans hf) |>.symm
      obtain rfl : fn = Tryd.f3 := (Option.some.inj (Tryd.func3.symm.trans hfn)).symm
      exact ⟨by kernel_rfl, fun j t ht => by
        rw [Tryd.params3] at ht
        have hm : t ∈ [22] := by simpa using Array.mem_of_getElem? ht
        have hall : ([22].all fun u => !Tryd.prog.wantsStandIn u) = true := by kernel_rfl
        exact (show Tryd.prog.wantsStandIn t = false by simpa using List.all_eq_true.1 hall t hm)⟩)
    (by kernel_rfl)
#print axioms graphRoundsUpto_holds
end Go.Proofs.YtoccfkinnopnjaaDoor
