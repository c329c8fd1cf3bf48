/- TreeDiffers holds, its listed variables tied to the program's text: for every two lists of files Differs answers just as the document says, errors too, and both read behind the call as they read before; no condition of ours. -/
import Derived.Test.YtelcflmjagjbfaaGreatDoorTd7
namespace Go.Proofs.YtelcflmjagjbfaaGreatDoor
open Go.ChangeShapes Go.WideShapes Go.ChangeAt Go.RowKit Go.Shelf Go.Sort
open Go.ChangeMaps (open_string shut_string)
attribute [local go_sem ↓] appS_eq

theorem laidOut : laidOutB Tryz.prog = true := by kernel_rfl

/-- Texts in a row. -/
def IsTl (w : World) (ao : Option Addr) (l : List (List UInt8)) : Prop := l = [] ∨ ∃ g, ao = some ⟨g, 0, none⟩ ∧ ∀ (k : Nat) (hk : k < l.length), w.cell? ⟨g, k, none⟩ = some (.string ⟨(l[k]).toArray⟩)
theorem own_tl {w : World} {base : Nat} {ao : Option Addr} {cap : Nat} {l : List (List UInt8)} (h : w.ownsRow base 9 1 (.slice ao l.length cap) l.length (l.map encStr)) : IsTl w ao l := by
  rcases Nat.eq_zero_or_pos l.length with h0 | h0
  · exact .inl (List.length_eq_zero_iff.1 h0)
  · obtain ⟨g, cap', hv, _, _⟩ := h.form h0
    injection hv with e1 _ e2
    subst e1 e2
    refine .inr ⟨g, rfl, fun k hk => ?_⟩
    refine (h.cellAt k (by omega)).trans ?_
    rw [List.getElem?_map, List.getElem?_eq_getElem hk]
    rfl

set_option maxHeartbeats 4000000 in
set_option maxRecDepth 100000 in
theorem SameTexts_ok (xa ya : Option Addr) (xc yc : Nat) (l : List (List UInt8)) (w : World) (hn : l.length ≤ 1000000) (hx : IsTl w xa l) (hy : IsTl w ya l) :
    Calls Tryz.prog 39 #[.slice xa l.length xc, .slice ya l.length yc] w fun e w' => e = .returned (.bool true) ∧ ∃ n, w' = w.drewN n := by
  have HX : Hid (IsTl w xa l) := hx
  have HY : Hid (IsTl w ya l) := hy
  have hn1 : (l.length : Int) ≤ 1000000 := by omega
  clear hx hy
  go_enter Tryz.func39, Tryz.ntmps39
  go_wp2
  go_loopw [5] (fun i wr => ∃ k m : Nat, k ≤ l.length ∧ i = .int .i64 k ∧ wr = w.drewN m) (fun i _ => l.length - (intOf i).toNat)
  case atStart => exact ⟨0, 0, Nat.zero_le _, rfl, rfl⟩
  case round =>
    obtain ⟨k, m, hk, rfl, rfl⟩ := hrel
    by_cases hlt : k < l.length
    · rcases HX.out with h | ⟨g, rfl, ca⟩
      · exfalso; rw [h] at hlt; exact absurd hlt (by simp)
      rcases HY.out with h | ⟨g', rfl, cb⟩
      · exfalso; rw [h] at hlt; exact absurd hlt (by simp)
      have a0 := ca k hlt
      have b0 := cb k hlt
      have hki : (k : Int) < (l.length : Int) := by omega
      clear ca cb
      generalize (⟨(l[k]).toArray⟩ : ByteArray) = x at a0 b0
      go_wp2
      go_region
      all_goals go_wp2
      all_goals exact ⟨⟨k + 1, m + 1, by omega, by go_num, rfl⟩, by simp [intOf]; omega⟩
    · obtain rfl : k = l.length := by omega
      have hki : ¬ (l.length : Int) < (l.length : Int) := by omega
      go_wp2
      go_ret
      exact ⟨rfl, m, rfl⟩

set_option maxHeartbeats 2000000 in
set_option maxRecDepth 100000 in
theorem textsAre_ok (er : Int) (xa ya : Option Addr) (xc yc : Nat) (X Y : List (List UInt8)) (w : World) (hn : X.length ≤ 1000000) (hx : IsTl w xa X) (hy : IsTl w ya Y) (h1 : er ≠ 0 → X = []) (h2 : er = 0 → X = Y) :
    Calls Tryz.prog 19 #[.slice xa X.length xc, .int .i64 er, .int .i64 er, .slice ya Y.length yc] w fun e w' => e = .returned (.bool true) ∧ Below w.heap.size w w' := by
  by_cases h0 : er = 0
  · obtain rfl := h2 h0
    subst h0
    have HS : Hid (Calls Tryz.prog 39 #[.slice xa X.length xc, .slice ya X.length yc] w fun e w' => e = .returned (.bool true) ∧ ∃ n, w' = w.drewN n) := SameTexts_ok xa ya xc yc X w hn hx hy
    clear hx hy h1 h2
    go_enter Tryz.func19, Tryz.ntmps19
    go_wp2_with fail
    refine HS.out.mono ?_
    rintro e w1 ⟨rfl, n, rfl⟩
    go_wp2
    go_ret
    exact ⟨rfl, below_drewN (Below.refl _ _) n⟩
  · obtain rfl := h1 h0
    have HS : Hid (Calls Tryz.prog 39 #[.slice xa 0 xc, .slice none 0 0] w fun e w' => e = .returned (.bool true) ∧ ∃ n, w' = w.drewN n) := SameTexts_ok xa none xc 0 [] w (by decide) (.inl rfl) (.inl rfl)
    have h0' : (er != 0) = true := by simpa using h0
    clear hx hy h1 h2 h0
    rw [show ([] : List (List UInt8)).length = 0 from rfl]
    go_enter Tryz.func19, Tryz.ntmps19
    go_wp2_with fail
    refine HS.out.mono ?_
    rintro e w1 ⟨rfl, n, rfl⟩
    go_wp2
    go_ret
    exact ⟨rfl, below_drewN (Below.refl _ _) n⟩

set_option maxHeartbeats 2000000 in
set_option maxRecDepth 100000 in
theorem twoTrees_any (ao co : Option Addr) (ac cc : Nat) (A C : List Fl) (w : World) (ha : IsFl w ao A) (hc : IsFl w co C) :
    Calls Tryz.prog 15 #[.slice ao A.length ac, .slice co C.length cc] w fun e w' => e = .returned (.int .i64 (erF A C)) ∧ Below w.heap.size w w' := by
  have HA : Hid (Calls Tryz.prog 9 #[.slice ao A.length ac] w fun e w' => e = .returned (.int .i64 (chF A)) ∧ Below w.heap.size w w') := RCheck_any ao ac A w ha
  have HC : Hid (∀ W, Below w.heap.size w W → Calls Tryz.prog 9 #[.slice co C.length cc] W fun e w' => e = .returned (.int .i64 (chF C)) ∧ Below W.heap.size W w') := fun W hW => RCheck_any co cc C W (hc.below hW (Nat.le_refl _))
  unfold erF
  clear ha hc
  by_cases h1 : chF A = 0
  · rw [if_pos h1]
    rw [h1] at HA
    generalize chF C = c at *
    clear h1
    go_enter Tryz.func15, Tryz.ntmps15
    go_wp2_with fail
    refine HA.out.mono ?_
    rintro e w1 ⟨rfl, hb1⟩
    have HB1 : Hid (Below w.heap.size w w1) := hb1
    clear hb1
    go_wp2_with fail
    refine (HC.out _ HB1.out).mono ?_
    rintro e w2 ⟨rfl, hb2⟩
    have HB2 : Hid (Below w.heap.size w w2) := HB1.out.trans (hb2.mono HB1.out.size)
    clear hb2
    go_wp2
    go_ret
    exact ⟨rfl, HB2.out⟩
  · rw [if_neg h1]
    generalize chF A = c at *
    have h1' : (c == 0) = false := by simpa using h1
    clear h1
    go_enter Tryz.func15, Tryz.ntmps15
    go_wp2_with fail
    refine HA.out.mono ?_
    rintro e w1 ⟨rfl, hb1⟩
    have HB1 : Hid (Below w.heap.size w w1) := hb1
    clear hb1
    go_wp2
    go_ret
    exact ⟨rfl, HB1.out⟩

set_option maxHeartbeats 4000000 in
set_option maxRecDepth 100000 in
theorem differs_walk (ao co : Option Addr) (ac cc : Nat) (A C : List Fl) (w : World) (ha : IsFl w ao A) (hc : IsFl w co C) (he : Env w) :
    Calls Tryz.prog 5 #[.slice ao A.length ac, .slice co C.length cc] w fun e w' => e = .returned (.bool true) ∧ Below w.heap.size w w' := by
  have HU : Hid (Calls Tryz.prog 17 #[.slice ao A.length ac, .slice co C.length cc] w (DfP A C w)) := Differs_any ao co ac cc A C w ha hc he.1
  have HR : Hid (∀ W, Below w.heap.size w W → Calls Tryz.prog 15 #[.slice ao A.length ac, .slice co C.length cc] W fun e w' => e = .returned (.int .i64 (erF A C)) ∧ Below W.heap.size W w') := fun W hW => twoTrees_any ao co ac cc A C W (ha.below hW (Nat.le_refl _)) (hc.below hW (Nat.le_refl _))
  have HT : Hid (∀ W, Below w.heap.size w W → Calls Tryz.prog 12 #[] W fun e w' => e = .returned (.bool true) ∧ Below W.heap.size W w') := fun W hW => treeBegun_any W (he.up hW)
  by_cases h0 : erF A C = 0
  · obtain ⟨hA, hC⟩ := erF_zero h0
    have HD : Hid (∀ W, Below w.heap.size w W → Calls Tryz.prog 18 #[.slice ao A.length ac, .slice co C.length cc] W (TxP (difF A C) W)) := fun W hW => DiffersTree_any ao co ac cc A C W (ha.below hW (Nat.le_refl _)) (hc.below hW (Nat.le_refl _)) (okT_of hA) (okT_of hC)
    have hd : dfL A C = difF A C := by unfold dfL; rw [if_pos h0]
    have HLn : Hid ((difF A C).length ≤ 1000000) := by
      have h1 := dtL_len A C (A.length + C.length)
      rw [dtL_end] at h1
      have h2 := (okT_of hA).1
      have h3 := (okT_of hC).1
      show _ ≤ _
      omega
    unfold DfP at HU
    rw [hd, h0] at HU
    rw [h0] at HR
    clear ha hc he hA hC h0 hd
    go_enter Tryz.func5, Tryz.ntmps5
    go_wp2_with fail
    refine HU.out.mono ?_
    rintro e w1 ⟨xa, xc, rfl, hx1, hb1⟩
    have HB1 : Hid (Below w.heap.size w w1) := hb1
    have HX1 : Hid (w1.ownsRow w.heap.size 9 1 (.slice xa (difF A C).length xc) (difF A C).length ((difF A C).map encStr)) := hx1
    clear hb1 hx1
    go_wp2_with fail
    refine (HR.out _ HB1.out).mono ?_
    rintro e w2 ⟨rfl, hb2⟩
    have HB2 : Hid (Below w.heap.size w w2) := HB1.out.trans (hb2.mono HB1.out.size)
    have HX2 : Hid (w2.ownsRow w.heap.size 9 1 (.slice xa (difF A C).length xc) (difF A C).length ((difF A C).map encStr)) := row_heap HX1.out fun b hb => hb2.block b (HX1.out.lt b hb).2
    clear hb2
    go_wp2_with fail
    refine (HD.out _ HB2.out).mono ?_
    rintro e w3 ⟨ya, yc, rfl, hy3, _, hb3⟩
    have HB3 : Hid (Below w.heap.size w w3) := HB2.out.trans (hb3.mono HB2.out.size)
    have HX3 : Hid (w3.ownsRow w.heap.size 9 1 (.slice xa (difF A C).length xc) (difF A C).length ((difF A C).map encStr)) := row_heap HX2.out fun b hb => hb3.block b (HX2.out.lt b hb).2
    have HY3 : Hid (w3.ownsRow w2.heap.size 9 1 (.slice ya (difF A C).length yc) (difF A C).length ((difF A C).map encStr)) := hy3
    clear hb3 hy3
    go_wp2_with fail
    refine (HT.out _ HB3.out).mono ?_
    rintro e w4 ⟨rfl, hb4⟩
    have HB4 : Hid (Below w.heap.size w w4) := HB3.out.trans (hb4.mono HB3.out.size)
    have HE : Hid (Calls Tryz.prog 19 #[.slice xa (difF A C).length xc, .int .i64 0, .int .i64 0, .slice ya (difF A C).length yc] w4 fun e w' => e = .returned (.bool true) ∧ Below w4.heap.size w4 w') := textsAre_ok 0 xa ya xc yc _ _ w4 HLn.out (own_tl (row_heap HX3.out fun b hb => hb4.block b (HX3.out.lt b hb).2)) (own_tl (row_heap HY3.out fun b hb => hb4.block b (HY3.out.lt b hb).2)) (fun h => absurd rfl h) (fun _ => rfl)
    clear hb4
    go_wp2_with fail
    refine HE.out.mono ?_
    rintro e w5 ⟨rfl, hb5⟩
    have HB5 : Hid (Below w.heap.size w w5) := HB4.out.trans (hb5.mono HB4.out.size)
    clear hb5
    go_wp2
    go_ret
    exact ⟨rfl, HB5.out⟩
  · have hd : dfL A C = [] := by unfold dfL; rw [if_neg h0]
    unfold DfP at HU
    rw [hd] at HU
    generalize erF A C = c at *
    have HF : Hid (∀ (xa : Option Addr) (xc : Nat) (W : World), Calls Tryz.prog 19 #[.slice xa 0 xc, .int .i64 c, .int .i64 c, .slice none 0 0] W fun e w' => e = .returned (.bool true) ∧ Below W.heap.size W w') := fun xa xc W => textsAre_ok c xa none xc 0 [] [] W (by decide) (.inl rfl) (.inl rfl) (fun _ => rfl) (fun _ => rfl)
    have h0' : (c == 0) = false := by simpa using h0
    rw [show ([] : List (List UInt8)).length = 0 from rfl] at HU
    clear ha hc he h0 hd
    go_enter Tryz.func5, Tryz.ntmps5
    go_wp2_with fail
    refine HU.out.mono ?_
    rintro e w1 ⟨xa, xc, rfl, _, hb1⟩
    have HB1 : Hid (Below w.heap.size w w1) := hb1
    clear hb1
    go_wp2_with fail
    refine (HR.out _ HB1.out).mono ?_
    rintro e w2 ⟨rfl, hb2⟩
    have HB2 : Hid (Below w.heap.size w w2) := HB1.out.trans (hb2.mono HB1.out.size)
    clear hb2
    go_wp2_with fail
    refine (HT.out _ HB2.out).mono ?_
    rintro e w4 ⟨rfl, hb4⟩
    have HB4 : Hid (Below w.heap.size w w4) := HB2.out.trans (hb4.mono HB2.out.size)
    clear hb4
    go_wp2_with fail
    refine (HF.out _ _ _).mono ?_
    rintro e w5 ⟨rfl, hb5⟩
    have HB5 : Hid (Below w.heap.size w w5) := HB4.out.trans (hb5.mono HB4.out.size)
    clear hb5
    go_wp2
    go_ret
    exact ⟨rfl, HB5.out⟩

set_option maxRecDepth 100000 in
theorem differs_lifted (os : Os) (started : os.Started) (H : Type) (enc : TypeId × Value → H) :
    ReturnsInHanded {} Tryz.checked os 5 .any (fun w args => (Rows.treeDiffersSpec.pre enc Tryz.prog Tryz.f5 Rows.treeDiffersRow.domain false w args ∧ laidMetH Tryz.prog Rows.treeDiffersRow.laid w) ∧ sizedMet enc Tryz.prog Tryz.f5 (OpenSpec.ofChange Rows.treeDiffersSpec) false w args)
      (Rows.treeDiffersSpec.post enc Tryz.prog Tryz.f5 false true false false) := by
  refine returns_laid own started (by kernel_rfl) Tryz.func5
    (ChangeSpec.witness_shaped (enc := enc) (C := Tryz.checked) (os := os) (X := fun w _ => laidMetH Tryz.prog Rows.treeDiffersRow.laid w) false (World.laidAll Tryz.prog os Rows.treeDiffersRow.laid) #[.slice none 0 0, .slice none 0 0] 8 (World.laidAll_os _ _ _)
      (World.shaped_of_ZipB (by kernel_rfl) (by kernel_rfl)) (by kernel_rfl) (by kernel_rfl) (by kernel_rfl)
      (by rw [MakeChecks.laidMetH_plain _ _ _ (by kernel_rfl)]; exact laidMet_laidAll _ (by kernel_rfl) (by kernel_rfl))) ?_
  intro W base args ds gs before hval0 hW hsz0 lies shape
  have hval : ∀ (j : Nat) t v, Tryz.f5.params[j]? = some t → args[j]? = some v → Value.okWide Tryz.prog W .any base t v := hval0
  have hW' := hW
  obtain ⟨p, q, hA0, hV, rfl, hfz, hnd⟩ := hW
  have hA : DataW.TrodAll enc Tryz.prog W 0 (fun _ => true) true Tryz.f5.params.toList args.toList ds p := hA0
  have hsz : (DataW.weightsEach Tryz.prog (Tryz.f5.params.toList ++ Rows.treeDiffersSpec.plain.varTypes Tryz.prog) (ds ++ gs)).all (· ≤ reachBytes) = true := hsz0
  rw [Tryz.params5] at hA hval hsz
  obtain ⟨v0, v1, d0, d1, p0, p1, rfl, rfl, rfl, h0, h1⟩ := trodAll_two hA
  obtain ⟨rfl, rfl⟩ := trodVars_none hV
  have r0 : ∀ elems sp, d0 = .slice elems sp → elems.length ≤ 4611686018427387904 := fun elems sp he => by
    have h1 := sized_slice hsz (j := 0) (t := 22) rfl (by rw [he]; rfl) Tryz.underlying22
    have h2 := reachBytes_lt
    rw [bytesFl] at h1
    omega
  obtain ⟨L, ao, cap, rfl, i0, hln⟩ := arg_files (hval 0 22 v0 rfl rfl) h0 r0
  have lt0 : ∀ x ∈ p0, x.block < W.heap.size := by obtain ⟨m, hm⟩ := h0; exact DataW.trod_lt m _ _ _ hm
  have r1 : ∀ elems sp, d1 = .slice elems sp → elems.length ≤ 4611686018427387904 := fun elems sp he => by
    have h1 := sized_slice hsz (j := 1) (t := 22) rfl (by rw [he]; rfl) Tryz.underlying22
    have h2 := reachBytes_lt
    rw [bytesFl] at h1
    omega
  obtain ⟨M, bo, bcap, rfl, i1, _⟩ := arg_files (hval 1 22 v1 rfl rfl) h1 r1
  have lt1 : ∀ x ∈ p1, x.block < W.heap.size := by obtain ⟨m, hm⟩ := h1; exact DataW.trod_lt m _ _ _ hm
  clear hA0 hval0
  refine (differs_walk ao bo cap bcap L M W i0 i1 (env_of lies shape)).mono fun e W' ⟨he, bel⟩ => ?_
  subst he
  exact ⟨_, rfl, _, _, _, [], _, [], hW', trodAll_mk1 (shut_bool Tryz.underlying4 _), trodAll_mk2 (Below.trod laidOut (by kernel_rfl) (of_decide_eq_true (by kernel_rfl)) h0 bel lt0) (Below.trod laidOut (by kernel_rfl) (of_decide_eq_true (by kernel_rfl)) h1 bel lt1), rfl, bel.frame _, fun h => by cases h⟩

theorem treeDiffers_row : Rows.TreeDiffersSaid :=
  OpenClaim.holds_of_wide 5 Tryz.f5 rfl rfl rfl rfl rfl rfl rfl ⟨rfl, rfl, rfl, rfl, rfl⟩ rfl rfl rfl rfl rfl (by kernel_rfl) Tryz.func5 (by kernel_rfl)
    (of_decide_eq_true (by kernel_rfl)) (by unfold Func.isWrapper; first | (rw [if_pos (by decide +kernel)]; kernel_rfl) | (rw [if_neg (by decide +kernel)]; exact ⟨rfl, rfl⟩))
    (fun os started H enc _ => differs_lifted os started H enc)

theorem treeDiffers_holds : Rows.TreeDiffersCardSaid :=
  Claim7.holds_tied_plain_at .later [] Rows.treeDiffersCard.laidKinds true Rows.treeDiffersCard.stood.harness true
    treeDiffers_row (fun _ h => by cases h) (by kernel_rfl) (fun _ h => by cases h) treeDiffers_row_tie rfl ⟨rfl, rfl⟩ (by kernel_rfl) rfl
    (fun f fn hf hfn => by
      obtain rfl : f = 5 := Option.some.inj ((show Tryz.prog.funcNamed Rows.treeDiffersRow.func = some 5 by kernel_rfl).symm.trans hf) |>.symm
      obtain rfl : fn = Tryz.f5 := (Option.some.inj (Tryz.func5.symm.trans hfn)).symm
      exact ⟨by kernel_rfl, fun j t ht => by
        rw [Tryz.params5] at ht
        have hm : t ∈ [22, 22] := by simpa using Array.mem_of_getElem? ht
        have hall : ([22, 22].all fun u => !Tryz.prog.wantsStandIn u) = true := by kernel_rfl
        exact (show Tryz.prog.wantsStandIn t = false by simpa using List.all_eq_true.1 hall t hm)⟩)
    (by kernel_rfl)
#print axioms treeDiffers_holds
end Go.Proofs.YtelcflmjagjbfaaGreatDoor
