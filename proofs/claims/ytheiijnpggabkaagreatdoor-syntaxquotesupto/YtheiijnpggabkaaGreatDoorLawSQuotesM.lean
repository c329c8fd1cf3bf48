/- SyntaxQuotes holds in its second form, its listed variables tied to the program's text: every text of no more bulk than the form says, with no byte below 32 but line feeds and tabs, that is quoted and no longer than a source may be is one token that says it, and the end of a line. -/
import Derived.Test.YtheiijnpggabkaaGreatDoorTs10
import Derived.Test.YtheiijnpggabkaaGreatDoorSyQpM
namespace Go.Proofs.YtheiijnpggabkaaGreatDoor
open Go.ChangeMaps (open_string shut_string)
open Go.ChangeShapes Go.WideShapes Go.ChangeAt Go.RowKit Go.Shelf

theorem row_form2 {w : World} {B : Nat} {e : TypeId} {sz : Nat} {v : Value} {n : Nat} {xs : List Value} (h : w.ownsRow B e sz v n xs) (hn : 0 < n) : ∃ g cap, v = .slice (some ⟨g, 0, none⟩) n cap ∧ g < w.heap.size ∧ ∀ j, j < n * sz → w.cell? ⟨g, j, none⟩ = xs[j]? := by
  rcases h.2 with ⟨_, e0⟩ | ⟨g, cap, cur, hv, h2, h3, h4, h5, h6, h7⟩
  · omega
  · exact ⟨g, cap, hv, (Array.getElem?_eq_some_iff.1 h3).1, fun j hj => by rw [Lib.cell_of_heap h3, ← h7, List.getElem?_take_of_lt hj]; simp⟩

set_option maxHeartbeats 8000000 in
set_option maxRecDepth 100000 in
theorem quotes_walk (s : ByteArray) (w : World) (hr : ErrR w) (ht : TabW w) (hs : s.size ≤ 1048576) :
    Calls Tryz.prog 4 #[.string s] w fun e w' => e = .returned (.bool true) ∧ Below w.heap.size w w' := by
  have HB := sbegun_any w hr ht
  have HQ : Hid (∀ W, Calls Tryz.prog 6 #[.string s] W fun e w' => e = .returned (.string (mkB (qtL s.data.toList))) ∧ Below W.heap.size W w') := fun W => Quote_any s W (by omega)
  have HS : Hid (∀ W, Below w.heap.size w W → Calls Tryz.prog 8 #[.string (mkB (qtL s.data.toList))] W fun e w' => SplP W (splitA (qtL s.data.toList)) e w') := fun W hW => Split_any _ W (hr.up hW)
  have hsi : (s.size : Int) ≤ 1048576 := by omega
  have hsz := mk_size (qtL s.data.toList)
  clear hr ht
  go_enter Tryz.func4, Tryz.ntmps4
  go_wp2_with (go_at_call 5; refine HB.mono ?_; rintro e w1 ⟨rfl, hb1⟩; have HB1 : Hid (Below w.heap.size w w1) := hb1; clear hb1)
  clear HB
  go_loop [3] (fun i => ∃ k : Nat, k ≤ s.size ∧ i = .int .i64 (k : Int) ∧ Hid (∀ c ∈ s.data.toList.take k, okB c = true)) (fun i => s.size - (intOf i).toNat)
  case atStart => exact ⟨0, Nat.zero_le _, rfl, by show ∀ c ∈ s.data.toList.take 0, _; simp⟩
  case round =>
    obtain ⟨k, hk, rfl, HK⟩ := hrel
    by_cases hlt : k < s.size
    · have hki : (k : Int) < (s.size : Int) := by omega
      have hkl : k < s.data.toList.length := by simpa using hlt
      have hnx : okB s[k] = true → Hid (∀ c ∈ s.data.toList.take (k + 1), okB c = true) := fun hc => by
        show ∀ c ∈ s.data.toList.take (k + 1), okB c = true
        rw [List.take_succ_eq_append_getElem hkl]
        intro c hcm
        rcases List.mem_append.1 hcm with h | h
        · exact HK.out c h
        · have e : c = s.data[k] := by simpa using h
          rw [e]
          exact hc
      by_cases h32 : s[k].toNat < 32
      · have h32i : (s[k].toNat : Int) < 32 := by omega
        by_cases h9 : s[k].toNat = 9
        · have h9i : (s[k].toNat : Int) = 9 := by omega
          have HN := hnx (by unfold okB; simp [h9])
          clear HK h9 h32 hnx
          go_wp2
          exact ⟨⟨k + 1, by omega, by go_num, HN⟩, by simp [intOf]; omega⟩
        · have h9i : ¬ (s[k].toNat : Int) = 9 := by omega
          by_cases h10 : s[k].toNat = 10
          · have h10i : (s[k].toNat : Int) = 10 := by omega
            have HN := hnx (by unfold okB; simp [h10])
            clear HK h9 h32 hnx h10
            go_wp2
            exact ⟨⟨k + 1, by omega, by go_num, HN⟩, by simp [intOf]; omega⟩
          · have h10i : ¬ (s[k].toNat : Int) = 10 := by omega
            have h10b : ((s[k].toNat : Int) == 10) = false := beq_eq_false_iff_ne.2 h10i
            have h9b : ((s[k].toNat : Int) == 9) = false := beq_eq_false_iff_ne.2 h9i
            have h10c : ((s[k].toNat : Int) != 10) = true := by simp [h10i]
            have h9c : ((s[k].toNat : Int) != 9) = true := by simp [h9i]
            clear HK h9 h32 hnx h10
            go_wp2
            go_ret
            exact ⟨rfl, HB1.out⟩
      · have h32i : ¬ (s[k].toNat : Int) < 32 := by omega
        have h32j : (32 : Int) ≤ (s[k].toNat : Int) := by omega
        have HN := hnx (by unfold okB; simp; omega)
        clear HK h32 hnx
        go_wp2
        exact ⟨⟨k + 1, by omega, by go_num, HN⟩, by simp [intOf]; omega⟩
    · obtain rfl : k = s.size := by omega
      have hall : ∀ c ∈ s.data.toList, okB c = true := by
        have := HK.out
        rwa [List.take_of_length_le (by simp)] at this
      have HSq := split_qt s.data.toList hall
      have HQ1 := HQ.out w1
      clear HK hall
      go_wp2_with fail
      refine HQ1.mono ?_
      rintro e w2 ⟨rfl, hb2⟩
      have hb2' : Below w.heap.size w w2 := HB1.out.trans (hb2.mono HB1.out.size)
      by_cases hbig : (qtL s.data.toList).length ≤ 6000
      · have hbi : ¬ (6000 : Int) < ((qtL s.data.toList).length : Int) := by omega
        have hbj : ((qtL s.data.toList).length : Int) ≤ 6000 := by omega
        have HS2 := HS.out w2 hb2'
        rw [show splitA (qtL s.data.toList) = splitL (qtL s.data.toList) from if_pos hbig, HSq] at HS2
        have hself : mkB s.data.toList = s := (mk_self s).symm
        generalize mkB (qtL s.data.toList) = q at *
        generalize (qtL s.data.toList).length = n at *
        clear HQ HQ1 HS HSq
        go_wp2_with fail
        refine HS2.mono ?_
        rintro e w3 ⟨_, hok, hb3⟩
        obtain ⟨tv, rfl, hown⟩ := hok _ rfl
        obtain ⟨g, cap, rfl, hgl, hcell⟩ := row_form2 hown (by simp)
        have hv : ∀ j, j < 2 * 4 → (w3.alloc fz).cell? ⟨g, j, none⟩ = (tcs [⟨3, s.data.toList, 0, 0⟩, ⟨6, [], 0, n⟩])[j]? := fun j hj => (World.cell?_of_block (heap_al w3 fz g hgl)).trans (hcell j hj)
        have v0 : (w3.alloc fz).cell? ⟨g, 0, none⟩ = some (.int .i64 3) := hv 0 (by decide)
        have v1 : (w3.alloc fz).cell? ⟨g, 1, none⟩ = some (.string s) := by rw [hv 1 (by decide), ← hself]; rfl
        have v3 : (w3.alloc fz).cell? ⟨g, 3, none⟩ = some (.int .i64 0) := hv 3 (by decide)
        have HZ : Hid (Below w.heap.size w (w3.alloc fz)) := (hb2'.trans (hb3.mono hb2'.size)).trans ((alB w3 fz).mono (Nat.le_trans hb2'.size hb3.size))
        clear hok hb3 hown hcell hv HS2 hb2 hb2'
        go_wp2
        go_ret
        exact ⟨ret_b (by simp), HZ.out⟩
      · have hbi : (6000 : Int) < ((qtL s.data.toList).length : Int) := by omega
        generalize (qtL s.data.toList).length = n at *
        generalize mkB (qtL s.data.toList) = q at *
        clear HQ HQ1 HS HSq
        go_wp2
        go_ret
        exact ⟨rfl, hb2'⟩

set_option maxRecDepth 100000 in
theorem quotes_walk_lifted (os : Os) (started : os.Started) (H : Type) (enc : TypeId × Value → H) (F : Stop.Interp) :
    ReturnsInHanded {} Tryz.checked os 4 .any ((Rows.OpenSpec.upto Rows.syntaxQuotesSpec).preRow enc Tryz.prog Tryz.f4 Rows.syntaxQuotesUptoRow.domain false Rows.syntaxQuotesUptoRow.laid) (((Rows.OpenSpec.upto Rows.syntaxQuotesSpec).at F).post enc Tryz.prog Tryz.f4 false true false false) := by
  refine returnsInHanded_of_row (C := Tryz.checked) (s := Rows.OpenSpec.upto Rows.syntaxQuotesSpec) own started (by kernel_rfl) Tryz.func4
    (witness_up (enc := enc) (C := Tryz.checked) (os := os) (World.laidAll Tryz.prog os Rows.syntaxQuotesUptoRow.laid) #[.string ⟨#[]⟩] (World.laidAll_os _ _ _)
      (World.shaped_of_ZipB (by kernel_rfl) (by kernel_rfl)) (by kernel_rfl)
      (OpenSpec.preRow_of_cond 8 (x := ([.lit (.string [])], [], [])) (by kernel_rfl) (by kernel_rfl) (fun k hk => by cases hk; kernel_rfl) (by kernel_rfl)
        (by rw [MakeChecks.laidMetH_plain _ _ _ (by kernel_rfl)]; exact laidMet_laidAll _ (by kernel_rfl) (by kernel_rfl)))) ?_
  intro W base args ds gs before hval0 hW _ hcond hsz0 lies shape _
  have hval : ∀ (j : Nat) t v, Tryz.f4.params[j]? = some t → args[j]? = some v → Value.okWide Tryz.prog W .any base t v := hval0
  have hk := hcond _ rfl
  have hW' := hW
  obtain ⟨p, q, hA0, hV, rfl, hfz, hnd⟩ := hW
  have hA : DataW.TrodAll enc Tryz.prog W 0 (fun _ => true) true Tryz.f4.params.toList args.toList ds p := hA0
  have hsz : (DataW.weightsEach Tryz.prog (Tryz.f4.params.toList ++ Rows.syntaxQuotesSpec.plain.varTypes Tryz.prog) (ds ++ gs)).all (· ≤ reachBytes) = true := hsz0
  rw [Tryz.params4] at hA hval hsz
  obtain ⟨v0, d0, rfl, rfl, h0⟩ := trodAll_one hA
  obtain ⟨rfl, rfl⟩ := trodVars_none hV
  have h9 := of_decide_eq_true hk
  simp only [List.append_nil, Rows.uptoBulkAll] at h9
  obtain ⟨a0, rfl, rfl, rfl, w0⟩ := open_string Tryz.underlying9 (hval 0 9 v0 rfl rfl) h0
  clear hA0 hval0
  refine (quotes_walk a0 W (err_syntaxQuotesUpto lies) (tab_syntaxQuotesUpto lies) (by have h8 := h9; simp [Rows.uptoBulk] at h8; omega)).mono fun e W' ⟨he, bel⟩ => ?_
  subst he
  exact ⟨_, rfl, _, _, _, [], _, [], hW', trodAll_mk1 (shut_bool Tryz.underlying4 _), trodAll_mk1 (shut_string Tryz.underlying9 w0), rfl, bel.frame _, fun h => by cases h⟩

theorem syntaxQuotesUpto_row : Rows.SyntaxQuotesUptoSaid :=
  OpenClaim.holds_of_cond 4 Tryz.f4 rfl rfl rfl rfl rfl rfl rfl ⟨rfl, rfl, rfl, rfl, rfl⟩ rfl rfl rfl rfl rfl (by kernel_rfl) Tryz.func4 (by kernel_rfl)
    (of_decide_eq_true (by kernel_rfl)) (by unfold Func.isWrapper; first | (rw [if_pos (by decide +kernel)]; kernel_rfl) | (rw [if_neg (by decide +kernel)]; exact ⟨rfl, rfl⟩))
    (fun os started H enc _ F => by rw [OpenClaim.pre_eq_preRow]; exact quotes_walk_lifted os started H enc F)

theorem syntaxQuotesUpto_holds : Rows.SyntaxQuotesUptoCardSaid :=
  Claim7.holds_tied_plain_at .later [] Rows.syntaxQuotesUptoCard.laidKinds true Rows.syntaxQuotesUptoCard.stood.harness true
    syntaxQuotesUpto_row (fun _ h => by cases h) (by kernel_rfl) (fun _ h => by cases h) syntaxQuotesUpto_row_tie rfl ⟨rfl, rfl⟩ (by kernel_rfl) rfl
    (fun f fn hf hfn => by
      obtain rfl : f = 4 := Option.some.inj ((show Tryz.prog.funcNamed Rows.syntaxQuotesUptoRow.func = some 4 by kernel_rfl).symm.trans hf) |>.symm
      obtain rfl : fn = Tryz.f4 := (Option.some.inj (Tryz.func4.symm.trans hfn)).symm
      exact ⟨by kernel_rfl, fun j t ht => by
        rw [Tryz.params4] at ht
        have hm : t ∈ [9] := by simpa using Array.mem_of_getElem? ht
        have hall : ([9].all fun u => !Tryz.prog.wantsStandIn u) = true := by kernel_rfl
        exact (show Tryz.prog.wantsStandIn t = false by simpa using List.all_eq_true.1 hall t hm)⟩)
    (by kernel_rfl)
#print axioms syntaxQuotesUpto_holds
end Go.Proofs.YtheiijnpggabkaaGreatDoor
