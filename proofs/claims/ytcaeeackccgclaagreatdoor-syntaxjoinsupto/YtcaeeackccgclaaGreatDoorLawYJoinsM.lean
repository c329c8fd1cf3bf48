/- SyntaxJoins holds in its second form, its listed variables tied to the program's text: of any two sources of no more bulk than the form says, that are parsed, the one behind the other is parsed, if it isn't too long, and has the statements of both. -/
import Derived.Test.YtcaeeackccgclaaGreatDoorTa14
namespace Go.Proofs.YtcaeeackccgclaaGreatDoor
open Go.ChangeMaps (open_string shut_string)
open Go.ChangeShapes Go.WideShapes Go.ChangeAt Go.RowKit Go.Shelf
attribute [local go_sem ↓] appZ_eq

set_option maxHeartbeats 8000000 in
set_option maxRecDepth 100000 in
theorem joins_walk (s t : ByteArray) (w : World) (hr : ErrR w) (ht : TabW w) (hs : s.size ≤ 1048576) (hs2 : t.size ≤ 1048576) :
    Calls Tryz.prog 5 #[.string s, .string t] w fun e w' => e = .returned (.bool true) ∧ Below w.heap.size w w' := by
  have HB := sbegun_any w hr ht
  have HP : Hid (∀ s W, Below w.heap.size w W → Calls Tryz.prog 8 #[.string s] W (ParU W (parT s.data.toList))) := fun s W hW => Parse_u s W (hr.up hW)
  have hsi : (s.size : Int) ≤ 1048576 := by omega
  have hti : (t.size : Int) ≤ 1048576 := by omega
  clear hr ht
  go_enter Tryz.func5, Tryz.ntmps5
  go_wp2_with fail
  refine HB.mono ?_
  rintro e w1 ⟨rfl, hb1⟩
  have HB1 : Hid (Below w.heap.size w w1) := hb1
  have HPs := HP.out s w1 hb1
  clear hb1 HB
  go_wp2_with fail
  refine HPs.mono ?_
  rintro e w2 ⟨sa, sn, sc, kk, zz, rfl, HS⟩
  have HB2 : Hid (Below w.heap.size w (w2.alloc (.cells #[.int .i64 kk, .int .i64 zz] 25))) := (HB1.out.trans (HS.out.1.mono HB1.out.size)).trans ((alB w2 _).mono (HB1.out.trans (HS.out.1.mono HB1.out.size)).size)
  have HPt := HP.out t _ HB2.out
  clear HPs
  go_wp2_with fail
  refine HPt.mono ?_
  rintro e w3 ⟨ta, tn, tc', kt, zt, rfl, HT⟩
  have s3 : (w3.alloc (.cells #[.int .i64 kt, .int .i64 zt] 25)).heap.size = w3.heap.size + 1 := World.size_alloc _ _
  have hcv : (convert 34 9 (.slice (some ⟨w3.heap.size + 1, 0, none⟩) 1 1)).run Tryz.prog ((w3.alloc (.cells #[.int .i64 kt, .int .i64 zt] 25)).alloc (.cells #[.int .u8 10] 5)) = .ok (.string ⟨#[10]⟩) ((w3.alloc (.cells #[.int .i64 kt, .int .i64 zt] 25)).alloc (.cells #[.int .u8 10] 5)) :=
    run_convert_bytes_back _ 34 9 5 ⟨w3.heap.size + 1, 0, none⟩ 1 [10] Tryz.underlying34 Tryz.underlying5 Tryz.underlying9 fun j hj => by
      have hj0 : j = 0 := by simpa using hj
      subst hj0
      have := heap_alloc_new (w3.alloc (.cells #[.int .i64 kt, .int .i64 zt] 25)) (.cells #[.int .u8 10] 5)
      rw [s3] at this
      rw [add0, Lib.cell_of_heap this]
      rfl
  have HB3 : Hid (Below w.heap.size w w3) := HB2.out.trans (HT.out.1.mono HB2.out.size)
  have hz2 := HT.out.1.size
  rw [World.size_alloc] at hz2
  have g1 : (w3.alloc (.cells #[.int .i64 kt, .int .i64 zt] 25)).heap[w2.heap.size]? = some (.cells #[.int .i64 kk, .int .i64 zz] 25) := (heap_al w3 _ _ (by omega)).trans ((HT.out.1.block _ (by rw [World.size_alloc]; omega)).trans (heap_alloc_new w2 _))
  have g2 : (w3.alloc (.cells #[.int .i64 kt, .int .i64 zt] 25)).heap[w3.heap.size]? = some (.cells #[.int .i64 kt, .int .i64 zt] 25) := heap_alloc_new w3 _
  have l1 : ((w3.alloc (.cells #[.int .i64 kt, .int .i64 zt] 25)).alloc (.cells #[.int .u8 10] 5)).cell? ⟨w2.heap.size, 0, none⟩ = some (.int .i64 kk) := by
    rw [Lib.cell_of_heap ((heap_al _ _ _ (by rw [s3]; omega)).trans g1)]; rfl
  have l2 : ((w3.alloc (.cells #[.int .i64 kt, .int .i64 zt] 25)).alloc (.cells #[.int .u8 10] 5)).cell? ⟨w3.heap.size, 0, none⟩ = some (.int .i64 kt) := by
    rw [Lib.cell_of_heap ((heap_al _ _ _ (by rw [s3]; omega)).trans g2)]; rfl
  have HB4 : Hid (Below w.heap.size w ((w3.alloc (.cells #[.int .i64 kt, .int .i64 zt] 25)).alloc (.cells #[.int .u8 10] 5))) := by
    have h1 := HB3.out.alloc HB3.out.size (.cells #[.int .i64 kt, .int .i64 zt] 25)
    exact h1.alloc h1.size _
  have HS2 : Hid ((∃ k z, parT s.data.toList = .error (k, z) ∧ kk ≠ 0) ∨ ∃ l vs, parT s.data.toList = .ok l ∧ kk = 0 ∧ RwS w1.heap.size ((w3.alloc (.cells #[.int .i64 kt, .int .i64 zt] 25)).alloc (.cells #[.int .u8 10] 5)) l (.slice sa sn sc) vs) := by
    rcases HS.out.2 with h | ⟨l, vs, h1, h2, h3⟩
    · exact .inl h
    · refine .inr ⟨l, vs, h1, h2, h3.keep fun g _ hg => ?_⟩
      exact (heap_al _ _ _ (by rw [s3]; omega)).trans ((heap_al w3 _ _ (by omega)).trans ((HT.out.1.block _ (by rw [World.size_alloc]; omega)).trans (heap_al w2 _ _ hg)))
  have HT2 : Hid ((∃ k z, parT t.data.toList = .error (k, z) ∧ kt ≠ 0) ∨ ∃ l vs, parT t.data.toList = .ok l ∧ kt = 0 ∧ RwS (w2.alloc (.cells #[.int .i64 kk, .int .i64 zz] 25)).heap.size ((w3.alloc (.cells #[.int .i64 kt, .int .i64 zt] 25)).alloc (.cells #[.int .u8 10] 5)) l (.slice ta tn tc') vs) := by
    rcases HT.out.2 with h | ⟨l, vs, h1, h2, h3⟩
    · exact .inl h
    · refine .inr ⟨l, vs, h1, h2, h3.keep fun g _ hg => ?_⟩
      exact (heap_al _ _ _ (by rw [s3]; omega)).trans (heap_al w3 _ _ (by omega))
  clear HPt s3 g1 g2 hz2 HS HT
  by_cases hkk : kk = 0
  case neg =>
    clear HS2 HT2
    go_wp2
    go_ret
    exact ⟨rfl, HB4.out⟩
  subst hkk
  by_cases hkt : kt = 0
  case neg =>
    clear HS2 HT2
    go_wp2
    go_ret
    exact ⟨rfl, HB4.out⟩
  subst hkt
  by_cases hbl : (6000 : Int) < ((s ++ ⟨#[10]⟩ ++ t).size : Int)
  · clear HS2 HT2
    have hbl2 : (6000 : Int) < (s.size : Int) + 1 + (t.size : Int) := by
      have hbl := hbl
      rw [ByteArray.size_append, ByteArray.size_append] at hbl
      have : (⟨#[10]⟩ : ByteArray).size = 1 := rfl
      omega
    go_wp2
    go_ret
    exact ⟨rfl, HB4.out⟩
  have hbs : (s ++ ⟨#[10]⟩ ++ t).data.toList = s.data.toList ++ 10 :: t.data.toList := by simp
  have hbz : (s ++ ⟨#[10]⟩ ++ t).size = (s ++ ⟨#[10]⟩ ++ t).data.toList.length := by
    generalize s ++ ⟨#[10]⟩ ++ t = b
    cases b
    exact Array.length_toList.symm
  obtain ⟨l, vs, ps, _, rs⟩ := HS2.out.resolve_left (fun h => by obtain ⟨_, _, _, h⟩ := h; exact h rfl)
  obtain ⟨m, us, pt', _, rt⟩ := HT2.out.resolve_left (fun h => by obtain ⟨_, _, _, h⟩ := h; exact h rfl)
  have hjoin := par_join ps pt' (by rw [← hbs, ← hbz]; omega)
  rw [← hbs] at hjoin
  have HJ : Hid (parT (s ++ ⟨#[10]⟩ ++ t).data.toList = .ok (l ++ m)) := hjoin
  have HR : Hid (l.length ≤ 50000 ∧ m.length ≤ 50000 ∧ RwS w1.heap.size ((w3.alloc (.cells #[.int .i64 0, .int .i64 zt] 25)).alloc (.cells #[.int .u8 10] 5)) l (.slice sa sn sc) vs ∧ RwS (w2.alloc (.cells #[.int .i64 0, .int .i64 zz] 25)).heap.size ((w3.alloc (.cells #[.int .i64 0, .int .i64 zt] 25)).alloc (.cells #[.int .u8 10] 5)) m (.slice ta tn tc') us) := ⟨parT_len ps, parT_len pt', rs, rt⟩
  have hbl2 : ¬ (6000 : Int) < (s.size : Int) + 1 + (t.size : Int) := by
    have hbl := hbl
    rw [ByteArray.size_append, ByteArray.size_append] at hbl
    have : (⟨#[10]⟩ : ByteArray).size = 1 := rfl
    omega
  have hbl3 : (s.size : Int) + 1 + (t.size : Int) ≤ 6000 := by omega
  clear HS2 HT2 ps pt' rs rt hjoin hbz hbs
  have HPb := HP.out (s ++ ⟨#[10]⟩ ++ t) _ HB4.out
  have HIn : Hid (∀ h : 0 < t.size, True) := fun _ => trivial
  by_cases ht0 : t.size = 0
  · have ht1 : (t.size : Int) = 0 := by omega
    clear HIn
    go_wp2_with fail
    refine HPb.mono ?_
    rintro e w4 ⟨xa, xn, xc, kx, zx, rfl, HX⟩
    obtain ⟨l9, xs, px, hk9, rx⟩ := HX.out.2.resolve_left (fun h => by obtain ⟨_, _, e, _⟩ := h; rw [HJ.out] at e; cases e)
    rw [HJ.out] at px
    cases px
    subst hk9
    obtain ⟨hl5, hm5, rs, rt⟩ := HR.out
    have hB5 : Below w.heap.size w w4 := HB4.out.trans (HX.out.1.mono HB4.out.size)
    have hB6 : Below w.heap.size w (w4.alloc (.cells #[.int .i64 0, .int .i64 zx] 25)) := hB5.alloc hB5.size _
    have e4 : (w4.alloc (.cells #[.int .i64 0, .int .i64 zx] 25)).heap.size = w4.heap.size + 1 := World.size_alloc _ _
    have k5 := fun g (hg : g < _) => (heap_al w4 (.cells #[.int .i64 0, .int .i64 zx] 25) g (Nat.lt_of_lt_of_le hg HX.out.1.size)).trans (HX.out.1.block g hg)
    obtain ⟨v1, W1, v2, W2, r1, r2, b7, n7, h7⟩ := two_rows (W0 := w4.alloc (.cells #[.int .i64 0, .int .i64 zx] 25)) (rs.keep fun g _ hg => k5 g hg) (rt.keep fun g _ hg => k5 g hg) hl5 hm5
    obtain ⟨n8, h8⟩ := stw_of rx
    have h9 : StW W2 n8 (.slice xa xn xc) (l ++ m) := h8.keep fun g hg => (b7.block g (by rw [e4]; omega)).trans (heap_al w4 _ g hg)
    have HSm := SStmts_ok (max n7 n8) (.slice xa xn xc) v2 (l ++ m) W2 (h9.le (Nat.le_max_right _ _)) (h7.le (Nat.le_max_left _ _))
    have hB7 : Below w.heap.size w W2 := hB6.trans (b7.mono hB6.size)
    have HB7 : Hid (Below w.heap.size w W2) := hB7
    have l4 : (w4.alloc (.cells #[.int .i64 0, .int .i64 zx] 25)).cell? ⟨w4.heap.size, 0, none⟩ = some (.int .i64 0) := by rw [Lib.cell_of_heap (heap_alloc_new w4 _)]; rfl
    rw [e4] at r1
    clear HPb HX rx rs rt hB5 hB6 hB7 k5 b7 h7 h8 h9 e4 hl5 hm5 HR HJ
    go_wp2_with fail
    refine HSm.mono ?_
    rintro e w5 ⟨rfl, hb5⟩
    have HB8 : Hid (Below w.heap.size w w5) := HB7.out.trans (hb5.mono HB7.out.size)
    clear hb5 HSm r1 r2
    go_wp2
    go_ret
    exact ⟨rfl, HB8.out⟩
  · have ht1 : (0 : Int) < (t.size : Int) := by omega
    have ht2 : 0 < t.size := by omega
    clear HIn ht0
    obtain ⟨c, hc⟩ : ∃ c, c = t[0].toNat := ⟨_, rfl⟩
    by_cases hc32 : c = 32
    · have hc1 : (t[0].toNat : Int) = 32 := by omega
      have hc2 : t[0] = 32 := UInt8.toNat.inj (by rw [← hc, hc32]; rfl)
      clear hc
      go_wp2
      go_ret
      exact ⟨rfl, HB4.out⟩
    · have hc1 : ¬ (t[0].toNat : Int) = 32 := by omega
      clear hc
      go_wp2_with fail
      refine HPb.mono ?_
      rintro e w4 ⟨xa, xn, xc, kx, zx, rfl, HX⟩
      obtain ⟨l9, xs, px, hk9, rx⟩ := HX.out.2.resolve_left (fun h => by obtain ⟨_, _, e, _⟩ := h; rw [HJ.out] at e; cases e)
      rw [HJ.out] at px
      cases px
      subst hk9
      obtain ⟨hl5, hm5, rs, rt⟩ := HR.out
      have hB5 : Below w.heap.size w w4 := HB4.out.trans (HX.out.1.mono HB4.out.size)
      have hB6 : Below w.heap.size w (w4.alloc (.cells #[.int .i64 0, .int .i64 zx] 25)) := hB5.alloc hB5.size _
      have e4 : (w4.alloc (.cells #[.int .i64 0, .int .i64 zx] 25)).heap.size = w4.heap.size + 1 := World.size_alloc _ _
      have k5 := fun g (hg : g < _) => (heap_al w4 (.cells #[.int .i64 0, .int .i64 zx] 25) g (Nat.lt_of_lt_of_le hg HX.out.1.size)).trans (HX.out.1.block g hg)
      obtain ⟨v1, W1, v2, W2, r1, r2, b7, n7, h7⟩ := two_rows (W0 := w4.alloc (.cells #[.int .i64 0, .int .i64 zx] 25)) (rs.keep fun g _ hg => k5 g hg) (rt.keep fun g _ hg => k5 g hg) hl5 hm5
      obtain ⟨n8, h8⟩ := stw_of rx
      have h9 : StW W2 n8 (.slice xa xn xc) (l ++ m) := h8.keep fun g hg => (b7.block g (by rw [e4]; omega)).trans (heap_al w4 _ g hg)
      have HSm := SStmts_ok (max n7 n8) (.slice xa xn xc) v2 (l ++ m) W2 (h9.le (Nat.le_max_right _ _)) (h7.le (Nat.le_max_left _ _))
      have hB7 : Below w.heap.size w W2 := hB6.trans (b7.mono hB6.size)
      have HB7 : Hid (Below w.heap.size w W2) := hB7
      have l4 : (w4.alloc (.cells #[.int .i64 0, .int .i64 zx] 25)).cell? ⟨w4.heap.size, 0, none⟩ = some (.int .i64 0) := by rw [Lib.cell_of_heap (heap_alloc_new w4 _)]; rfl
      rw [e4] at r1
      clear HPb HX rx rs rt hB5 hB6 hB7 k5 b7 h7 h8 h9 e4 hl5 hm5 HR HJ
      go_wp2_with fail
      refine HSm.mono ?_
      rintro e w5 ⟨rfl, hb5⟩
      have HB8 : Hid (Below w.heap.size w w5) := HB7.out.trans (hb5.mono HB7.out.size)
      clear hb5 HSm r1 r2
      go_wp2
      go_ret
      exact ⟨rfl, HB8.out⟩

set_option maxRecDepth 100000 in
theorem joins_walk_lifted (os : Os) (started : os.Started) (H : Type) (enc : TypeId × Value → H) (F : Stop.Interp) :
    ReturnsInHanded {} Tryz.checked os 5 .any ((Rows.OpenSpec.upto Rows.syntaxJoinsSpec).preRow enc Tryz.prog Tryz.f5 Rows.syntaxJoinsUptoRow.domain false Rows.syntaxJoinsUptoRow.laid) (((Rows.OpenSpec.upto Rows.syntaxJoinsSpec).at F).post enc Tryz.prog Tryz.f5 false true false false) := by
  refine returnsInHanded_of_row (C := Tryz.checked) (s := Rows.OpenSpec.upto Rows.syntaxJoinsSpec) own started (by kernel_rfl) Tryz.func5
    (witness_up (enc := enc) (C := Tryz.checked) (os := os) (World.laidAll Tryz.prog os Rows.syntaxJoinsUptoRow.laid) #[.string ⟨#[]⟩, .string ⟨#[]⟩] (World.laidAll_os _ _ _)
      (World.shaped_of_ZipB (by kernel_rfl) (by kernel_rfl)) (by kernel_rfl)
      (OpenSpec.preRow_of_cond 8 (x := ([.lit (.string []), .lit (.string [])], [], [])) (by kernel_rfl) (by kernel_rfl) (fun k hk => by cases hk; kernel_rfl) (by kernel_rfl)
        (by rw [MakeChecks.laidMetH_plain _ _ _ (by kernel_rfl)]; exact laidMet_laidAll _ (by kernel_rfl) (by kernel_rfl)))) ?_
  intro W base args ds gs before hval0 hW _ hcond hsz0 lies shape _
  have hval : ∀ (j : Nat) t v, Tryz.f5.params[j]? = some t → args[j]? = some v → Value.okWide Tryz.prog W .any base t v := hval0
  have hk := hcond _ rfl
  have hW' := hW
  obtain ⟨p, q, hA0, hV, rfl, hfz, hnd⟩ := hW
  have hA : DataW.TrodAll enc Tryz.prog W 0 (fun _ => true) true Tryz.f5.params.toList args.toList ds p := hA0
  have hsz : (DataW.weightsEach Tryz.prog (Tryz.f5.params.toList ++ Rows.syntaxJoinsSpec.plain.varTypes Tryz.prog) (ds ++ gs)).all (· ≤ reachBytes) = true := hsz0
  rw [Tryz.params5] at hA hval hsz
  obtain ⟨v0, v1, d0, d1, p0, p1, rfl, rfl, rfl, h0, h1⟩ := trodAll_two hA
  obtain ⟨rfl, rfl⟩ := trodVars_none hV
  have h9 := of_decide_eq_true hk
  simp only [List.append_nil, Rows.uptoBulkAll] at h9
  obtain ⟨a0, rfl, rfl, rfl, w0⟩ := open_string Tryz.underlying9 (hval 0 9 v0 rfl rfl) h0
  obtain ⟨a1, rfl, rfl, rfl, w1⟩ := open_string Tryz.underlying9 (hval 1 9 v1 rfl rfl) h1
  clear hA0 hval0
  refine (joins_walk a0 a1 W (err_syntaxJoinsUpto lies) (tab_syntaxJoinsUpto lies) (by have h8 := h9; simp [Rows.uptoBulk] at h8; omega) (by have h8 := h9; simp [Rows.uptoBulk] at h8; omega)).mono fun e W' ⟨he, bel⟩ => ?_
  subst he
  exact ⟨_, rfl, _, _, _, [], _, [], hW', trodAll_mk1 (shut_bool Tryz.underlying4 _), trodAll_mk2 (shut_string Tryz.underlying9 w0) (shut_string Tryz.underlying9 w1), rfl, bel.frame _, fun h => by cases h⟩

theorem syntaxJoinsUpto_row : Rows.SyntaxJoinsUptoSaid :=
  OpenClaim.holds_of_cond 5 Tryz.f5 rfl rfl rfl rfl rfl rfl rfl ⟨rfl, rfl, rfl, rfl, rfl⟩ rfl rfl rfl rfl rfl (by kernel_rfl) Tryz.func5 (by kernel_rfl)
    (of_decide_eq_true (by kernel_rfl)) (by unfold Func.isWrapper; first | (rw [if_pos (by decide +kernel)]; kernel_rfl) | (rw [if_neg (by decide +kernel)]; exact ⟨rfl, rfl⟩))
    (fun os started H enc _ F => by rw [OpenClaim.pre_eq_preRow]; exact joins_walk_lifted os started H enc F)

theorem syntaxJoinsUpto_holds : Rows.SyntaxJoinsUptoCardSaid :=
  Claim7.holds_tied_plain_at .later [] Rows.syntaxJoinsUptoCard.laidKinds true Rows.syntaxJoinsUptoCard.stood.harness true
    syntaxJoinsUpto_row (fun _ h => by cases h) (by kernel_rfl) (fun _ h => by cases h) syntaxJoinsUpto_row_tie rfl ⟨rfl, rfl⟩ (by kernel_rfl) rfl
    (fun f fn hf hfn => by
      obtain rfl : f = 5 := Option.some.inj ((show Tryz.prog.funcNamed Rows.syntaxJoinsUptoRow.func = some 5 by kernel_rfl).symm.trans hf) |>.symm
      obtain rfl : fn = Tryz.f5 := (Option.some.inj (Tryz.func5.symm.trans hfn)).symm
      exact ⟨by kernel_rfl, fun j t ht => by
        rw [Tryz.params5] at ht
        have hm : t ∈ [9, 9] := by simpa using Array.mem_of_getElem? ht
        have hall : ([9, 9].all fun u => !Tryz.prog.wantsStandIn u) = true := by kernel_rfl
        exact (show Tryz.prog.wantsStandIn t = false by simpa using List.all_eq_true.1 hall t hm)⟩)
    (by kernel_rfl)
#print axioms syntaxJoinsUpto_holds
end Go.Proofs.YtcaeeackccgclaaGreatDoor
