/- SyntaxBrackets holds in its second form, its listed variables tied to the program's text: an expression of no more bulk than the form says, in brackets, is what it is without them, or is too deep, or too long. -/
import Derived.Test.YtcaeeackccgclaaGreatDoorTb14
namespace Go.Proofs.YtcaeeackccgclaaGreatDoor
open Go.ChangeMaps (open_string shut_string)
open Go.ChangeShapes Go.WideShapes Go.ChangeAt Go.RowKit Go.Shelf

theorem cat_list (a b : ByteArray) : (a ++ b).data.toList = a.data.toList ++ b.data.toList := by simp

set_option maxHeartbeats 8000000 in
set_option maxRecDepth 100000 in
theorem brackets_walk (s : ByteArray) (w : World) (hr : ErrR w) (ht : TabW w) (hs : s.size ≤ 1048576) :
    Calls Tryz.prog 4 #[.string s] w fun e w' => e = .returned (.bool true) ∧ Below w.heap.size w w' := by
  have HB := sbegun_any w hr ht
  have HP : Hid (∀ s W, Below w.heap.size w W → Calls Tryz.prog 8 #[.string s] W (ParU W (parT s.data.toList))) := fun s W hW => Parse_u s W (hr.up hW)
  have HEr : Hid (∀ W, Below w.heap.size w W → ErrR W) := fun W hW => hr.up hW
  have HI : Hid (∀ c b W, b = s.data.toList.contains c → Calls Tryz.prog 10 #[.string ⟨#[c]⟩, .string s] W fun e w' => e = .returned (.bool b) ∧ w' = W) := fun c b W hb => isin_any c b s W hs hb
  have HX1 : Hid ((⟨#[120, 32, 61, 32]⟩ ++ s : ByteArray).data.toList = 120 :: 32 :: 61 :: 32 :: s.data.toList) := by show (⟨#[120, 32, 61, 32]⟩ ++ s : ByteArray).data.toList = _; rw [cat_list]; rfl
  have HX2 : Hid ((⟨#[120, 32, 61, 32, 40]⟩ ++ s ++ ⟨#[41]⟩ : ByteArray).data.toList = 120 :: 32 :: 61 :: 32 :: 40 :: (s.data.toList ++ [41])) := by show (⟨#[120, 32, 61, 32, 40]⟩ ++ s ++ ⟨#[41]⟩ : ByteArray).data.toList = _; rw [cat_list, cat_list]; rfl
  have hsi : (s.size : Int) ≤ 1048576 := by omega
  clear hr ht
  go_enter Tryz.func4, Tryz.ntmps4
  go_wp2_with fail
  refine HB.mono ?_
  rintro e w1 ⟨rfl, hb1⟩
  have HB1 : Hid (Below w.heap.size w w1) := hb1
  have HPs := HP.out (⟨#[120, 32, 61, 32]⟩ ++ s) w1 hb1
  clear hb1 HB
  go_wp2_with fail
  refine HPs.mono ?_
  rintro e w2 ⟨sa, sn, sc, kk, zz, rfl, HS⟩
  have HB2 : Hid (Below w.heap.size w (w2.alloc (.cells #[.int .i64 kk, .int .i64 zz] 25))) := (HB1.out.trans (HS.out.1.mono HB1.out.size)).trans ((alB w2 _).mono (HB1.out.trans (HS.out.1.mono HB1.out.size)).size)
  have l1 : (w2.alloc (.cells #[.int .i64 kk, .int .i64 zz] 25)).cell? ⟨w2.heap.size, 0, none⟩ = some (.int .i64 kk) := by rw [Lib.cell_of_heap (heap_alloc_new w2 _)]; rfl
  clear HPs
  by_cases hkk : kk = 0
  case neg =>
    clear HS
    go_wp2
    go_ret
    exact ⟨rfl, HB2.out⟩
  subst hkk
  by_cases hsn : (sn : Int) = 1
  case neg =>
    clear HS
    go_wp2
    go_ret
    exact ⟨rfl, HB2.out⟩
  have hsn1 : sn = 1 := by omega
  subst hsn1
  obtain ⟨l, vs, ps, _, rs⟩ := HS.out.2.resolve_left (fun h => by obtain ⟨_, _, _, h⟩ := h; exact h rfl)
  have hl1 : l.length = 1 := rs.at_slice.symm
  have s3 : (w2.alloc (.cells #[.int .i64 0, .int .i64 zz] 25)).heap.size = w2.heap.size + 1 := World.size_alloc _ _
  have hcv : (convert 34 9 (.slice (some ⟨w2.heap.size + 1, 0, none⟩) 1 1)).run Tryz.prog ((w2.alloc (.cells #[.int .i64 0, .int .i64 zz] 25)).alloc (.cells #[.int .u8 10] 5)) = .ok (.string ⟨#[10]⟩) ((w2.alloc (.cells #[.int .i64 0, .int .i64 zz] 25)).alloc (.cells #[.int .u8 10] 5)) :=
    run_convert_bytes_back _ 34 9 5 ⟨w2.heap.size + 1, 0, none⟩ 1 [10] Tryz.underlying34 Tryz.underlying5 Tryz.underlying9 fun j hj => by
      have hj0 : j = 0 := by simpa using hj
      subst hj0
      have := heap_alloc_new (w2.alloc (.cells #[.int .i64 0, .int .i64 zz] 25)) (.cells #[.int .u8 10] 5)
      rw [s3] at this
      rw [add0, Lib.cell_of_heap this]
      rfl
  have HB3 : Hid (Below w.heap.size w ((w2.alloc (.cells #[.int .i64 0, .int .i64 zz] 25)).alloc (.cells #[.int .u8 10] 5))) := HB2.out.alloc HB2.out.size _
  have HR : Hid (RwS w1.heap.size ((w2.alloc (.cells #[.int .i64 0, .int .i64 zz] 25)).alloc (.cells #[.int .u8 10] 5)) l (.slice sa 1 sc) vs) := rs.keep fun g _ hg => (heap_al _ _ _ (by rw [s3]; omega)).trans (heap_al w2 _ _ hg)
  have HL : Hid (parT s.data.toList = parT s.data.toList ∧ parT (120 :: 32 :: 61 :: 32 :: s.data.toList) = .ok l ∧ l.length = 1) := ⟨rfl, by rw [← HX1.out]; exact ps, hl1⟩
  obtain ⟨b1, hb1⟩ : ∃ b, b = s.data.toList.contains 10 := ⟨_, rfl⟩
  obtain ⟨b2, hb2⟩ : ∃ b, b = s.data.toList.contains 35 := ⟨_, rfl⟩
  have HI1 : Hid (∀ W, Calls Tryz.prog 10 #[.string ⟨#[10]⟩, .string s] W fun e w' => e = .returned (.bool b1) ∧ w' = W) := fun W => HI.out 10 b1 W hb1
  have HI2 : Hid (∀ W, Calls Tryz.prog 10 #[.string ⟨#[35]⟩, .string s] W fun e w' => e = .returned (.bool b2) ∧ w' = W) := fun W => HI.out 35 b2 W hb2
  have HH : Hid (b1 = s.data.toList.contains 10 ∧ b2 = s.data.toList.contains 35) := ⟨hb1, hb2⟩
  clear HS rs ps hl1 s3 HI hb1 hb2 hsn
  go_wp2_with fail
  refine (HI1.out _).mono ?_
  rintro e w3 ⟨rfl, rfl⟩
  clear HI1
  cases b1 with
  | true =>
    clear HI2
    go_wp2
    go_ret
    exact ⟨rfl, HB3.out⟩
  | false =>
  go_wp2_with fail
  refine (HI2.out _).mono ?_
  rintro e w3 ⟨rfl, rfl⟩
  clear HI2
  cases b2 with
  | true =>
    go_wp2
    go_ret
    exact ⟨rfl, HB3.out⟩
  | false =>
  have hpn : Pn s.data.toList := fun c hc => by
    refine ⟨fun e => ?_, fun e => ?_⟩
    · have h9 := HH.out.1
      rw [show c = 10 from UInt8.toNat.inj e] at hc
      rw [List.contains_iff_mem.2 hc] at h9
      cases h9
    · have h9 := HH.out.2
      rw [show c = 35 from UInt8.toNat.inj e] at hc
      rw [List.contains_iff_mem.2 hc] at h9
      cases h9
  have hbr := par_br hpn HL.out.2.1 HL.out.2.2
  rw [← HX2.out] at hbr
  clear HH hpn
  rcases hbr with hbr | ⟨z, hbr⟩
  · have HPb := HP.out (⟨#[120, 32, 61, 32, 40]⟩ ++ s ++ ⟨#[41]⟩) _ HB3.out
    rw [hbr] at HPb
    clear hbr
    go_wp2_with fail
    refine HPb.mono ?_
    rintro e w4 ⟨ta, tn, tc', kt, zt, rfl, HT⟩
    obtain ⟨l9, xs, px, hk9, rx⟩ := HT.out.2.resolve_left (fun h => by obtain ⟨_, _, e, _⟩ := h; cases e)
    cases px
    subst hk9
    have hB5 : Below w.heap.size w w4 := HB3.out.trans (HT.out.1.mono HB3.out.size)
    have hB6 : Below w.heap.size w (w4.alloc (.cells #[.int .i64 0, .int .i64 zt] 25)) := hB5.alloc hB5.size _
    have k5 := HR.out.keep (w' := w4.alloc (.cells #[.int .i64 0, .int .i64 zt] 25)) fun g _ hg => (heap_al w4 _ g (Nat.lt_of_lt_of_le hg HT.out.1.size)).trans (HT.out.1.block g hg)
    have k6 := rx.keep (w' := w4.alloc (.cells #[.int .i64 0, .int .i64 zt] 25)) fun g _ hg => heap_al w4 _ g hg
    obtain ⟨n7, h7⟩ := stw_of k5
    obtain ⟨n8, h8⟩ := stw_of k6
    have HSm := SStmts_ok (max n7 n8) (.slice sa 1 sc) (.slice ta tn tc') l _ (h7.le (Nat.le_max_left _ _)) (h8.le (Nat.le_max_right _ _))
    have HB7 : Hid (Below w.heap.size w (w4.alloc (.cells #[.int .i64 0, .int .i64 zt] 25))) := hB6
    have l4 : (w4.alloc (.cells #[.int .i64 0, .int .i64 zt] 25)).cell? ⟨w4.heap.size, 0, none⟩ = some (.int .i64 0) := by rw [Lib.cell_of_heap (heap_alloc_new w4 _)]; rfl
    clear HPb HT rx hB5 hB6 k5 k6 h7 h8 HR HL
    go_wp2_with fail
    refine HSm.mono ?_
    rintro e w5 ⟨rfl, hb5⟩
    have HB8 : Hid (Below w.heap.size w w5) := HB7.out.trans (hb5.mono HB7.out.size)
    clear hb5 HSm
    go_wp2
    go_ret
    exact ⟨rfl, HB8.out⟩
  · have HPb : Calls Tryz.prog 8 #[.string (⟨#[120, 32, 61, 32, 40]⟩ ++ s ++ ⟨#[41]⟩)] ((w2.alloc (.cells #[.int .i64 0, .int .i64 zz] 25)).alloc (.cells #[.int .u8 10] 5)) fun e w' => e = .returned (.tuple #[.slice none 0 0, .agg #[.int .i64 2, .int .i64 (z : Int)]]) ∧ Below w.heap.size w w' := by
      have h1 := Parse_told (⟨#[120, 32, 61, 32, 40]⟩ ++ s ++ ⟨#[41]⟩ : ByteArray).data.toList ((w2.alloc (.cells #[.int .i64 0, .int .i64 zz] 25)).alloc (.cells #[.int .u8 10] 5)) (HEr.out _ HB3.out)
      rw [hbr, show mkB (⟨#[120, 32, 61, 32, 40]⟩ ++ s ++ ⟨#[41]⟩ : ByteArray).data.toList = _ from (mk_self _).symm] at h1
      exact h1.mono fun e w' ⟨h2, _, h3⟩ => ⟨h2 2 z rfl, HB3.out.trans (h3.mono HB3.out.size)⟩
    clear hbr HR HL
    generalize (z : Int) = zi at HPb
    go_wp2_with fail
    refine HPb.mono ?_
    rintro e w4 ⟨rfl, hb4⟩
    have HB7 : Hid (Below w.heap.size w (w4.alloc (.cells #[.int .i64 2, .int .i64 zi] 25))) := hb4.alloc hb4.size _
    have l4 : (w4.alloc (.cells #[.int .i64 2, .int .i64 zi] 25)).cell? ⟨w4.heap.size, 0, none⟩ = some (.int .i64 2) := by rw [Lib.cell_of_heap (heap_alloc_new w4 _)]; rfl
    clear hb4 HPb
    go_wp2
    go_ret
    exact ⟨rfl, HB7.out⟩

set_option maxRecDepth 100000 in
theorem brackets_walk_lifted (os : Os) (started : os.Started) (H : Type) (enc : TypeId × Value → H) (F : Stop.Interp) :
    ReturnsInHanded {} Tryz.checked os 4 .any ((Rows.OpenSpec.upto Rows.syntaxBracketsSpec).preRow enc Tryz.prog Tryz.f4 Rows.syntaxBracketsUptoRow.domain false Rows.syntaxBracketsUptoRow.laid) (((Rows.OpenSpec.upto Rows.syntaxBracketsSpec).at F).post enc Tryz.prog Tryz.f4 false true false false) := by
  refine returnsInHanded_of_row (C := Tryz.checked) (s := Rows.OpenSpec.upto Rows.syntaxBracketsSpec) own started (by kernel_rfl) Tryz.func4
    (witness_up (enc := enc) (C := Tryz.checked) (os := os) (World.laidAll Tryz.prog os Rows.syntaxBracketsUptoRow.laid) #[.string ⟨#[]⟩] (World.laidAll_os _ _ _)
      (World.shaped_of_ZipB (by kernel_rfl) (by kernel_rfl)) (by kernel_rfl)
      (OpenSpec.preRow_of_cond 8 (x := ([.lit (.string [])], [], [])) (by kernel_rfl) (by kernel_rfl) (fun k hk => by cases hk; kernel_rfl) (by kernel_rfl)
        (by rw [MakeChecks.laidMetH_plain _ _ _ (by kernel_rfl)]; exact laidMet_laidAll _ (by kernel_rfl) (by kernel_rfl)))) ?_
  intro W base args ds gs before hval0 hW _ hcond hsz0 lies shape _
  have hval : ∀ (j : Nat) t v, Tryz.f4.params[j]? = some t → args[j]? = some v → Value.okWide Tryz.prog W .any base t v := hval0
  have hk := hcond _ rfl
  have hW' := hW
  obtain ⟨p, q, hA0, hV, rfl, hfz, hnd⟩ := hW
  have hA : DataW.TrodAll enc Tryz.prog W 0 (fun _ => true) true Tryz.f4.params.toList args.toList ds p := hA0
  have hsz : (DataW.weightsEach Tryz.prog (Tryz.f4.params.toList ++ Rows.syntaxBracketsSpec.plain.varTypes Tryz.prog) (ds ++ gs)).all (· ≤ reachBytes) = true := hsz0
  rw [Tryz.params4] at hA hval hsz
  obtain ⟨v0, d0, rfl, rfl, h0⟩ := trodAll_one hA
  obtain ⟨rfl, rfl⟩ := trodVars_none hV
  have h9 := of_decide_eq_true hk
  simp only [List.append_nil, Rows.uptoBulkAll] at h9
  obtain ⟨a0, rfl, rfl, rfl, w0⟩ := open_string Tryz.underlying9 (hval 0 9 v0 rfl rfl) h0
  clear hA0 hval0
  refine (brackets_walk a0 W (err_syntaxBracketsUpto lies) (tab_syntaxBracketsUpto lies) (by have h8 := h9; simp [Rows.uptoBulk] at h8; omega)).mono fun e W' ⟨he, bel⟩ => ?_
  subst he
  exact ⟨_, rfl, _, _, _, [], _, [], hW', trodAll_mk1 (shut_bool Tryz.underlying4 _), trodAll_mk1 (shut_string Tryz.underlying9 w0), rfl, bel.frame _, fun h => by cases h⟩

theorem syntaxBracketsUpto_row : Rows.SyntaxBracketsUptoSaid :=
  OpenClaim.holds_of_cond 4 Tryz.f4 rfl rfl rfl rfl rfl rfl rfl ⟨rfl, rfl, rfl, rfl, rfl⟩ rfl rfl rfl rfl rfl (by kernel_rfl) Tryz.func4 (by kernel_rfl)
    (of_decide_eq_true (by kernel_rfl)) (by unfold Func.isWrapper; first | (rw [if_pos (by decide +kernel)]; kernel_rfl) | (rw [if_neg (by decide +kernel)]; exact ⟨rfl, rfl⟩))
    (fun os started H enc _ F => by rw [OpenClaim.pre_eq_preRow]; exact brackets_walk_lifted os started H enc F)

theorem syntaxBracketsUpto_holds : Rows.SyntaxBracketsUptoCardSaid :=
  Claim7.holds_tied_plain_at .later [] Rows.syntaxBracketsUptoCard.laidKinds true Rows.syntaxBracketsUptoCard.stood.harness true
    syntaxBracketsUpto_row (fun _ h => by cases h) (by kernel_rfl) (fun _ h => by cases h) syntaxBracketsUpto_row_tie rfl ⟨rfl, rfl⟩ (by kernel_rfl) rfl
    (fun f fn hf hfn => by
      obtain rfl : f = 4 := Option.some.inj ((show Tryz.prog.funcNamed Rows.syntaxBracketsUptoRow.func = some 4 by kernel_rfl).symm.trans hf) |>.symm
      obtain rfl : fn = Tryz.f4 := (Option.some.inj (Tryz.func4.symm.trans hfn)).symm
      exact ⟨by kernel_rfl, fun j t ht => by
        rw [Tryz.params4] at ht
        have hm : t ∈ [9] := by simpa using Array.mem_of_getElem? ht
        have hall : ([9].all fun u => !Tryz.prog.wantsStandIn u) = true := by kernel_rfl
        exact (show Tryz.prog.wantsStandIn t = false by simpa using List.all_eq_true.1 hall t hm)⟩)
    (by kernel_rfl)
#print axioms syntaxBracketsUpto_holds
end Go.Proofs.YtcaeeackccgclaaGreatDoor
