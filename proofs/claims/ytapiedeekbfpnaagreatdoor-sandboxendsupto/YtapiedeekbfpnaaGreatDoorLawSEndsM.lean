/- SandboxEnds holds in its second form, its listed variables tied to the program's text: for all files and every command that can be read, of no more bulk than the form says, a command without jumps burns no more than its lines and their texts ask for, and with that much it ends without CodeFuel; both read behind the call as they read before. -/
import Derived.Test.YtapiedeekbfpnaaGreatDoorSbUpM
import Derived.Test.YtapiedeekbfpnaaGreatDoorSbI2M
import Derived.Test.YtapiedeekbfpnaaGreatDoorTa7
import Derived.Test.YtapiedeekbfpnaaGreatDoorSd5M
namespace Go.Proofs.YtapiedeekbfpnaaGreatDoor
open Go.ChangeShapes Go.WideShapes Go.ChangeAt Go.RowKit Go.Shelf Go.Sort

set_option maxHeartbeats 8000000 in
set_option maxRecDepth 100000 in
theorem ends_walk (ao co : Option Addr) (cap ccap : Nat) (F : List Fl) (ss : List ByteArray) (w : World) (hl : IsFl w ao F) (ht : TxAt w co ss) (he : Env w) (hlen : ss.length ≤ 1048576) (hts : ∀ s ∈ ss, s.size ≤ 1048576) :
    Calls Tryz.prog 7 #[.slice ao F.length cap, .slice co ss.length ccap] w fun e w' => e = .returned (.bool true) ∧ Below w.heap.size w w' := by
  have HBg : Hid (Calls Tryz.prog 11 #[] w fun e w' => e = .returned (.bool true) ∧ Hid (Below w.heap.size w w')) := sbegun_any w he.1
  have run : ∀ (W : World), Below w.heap.size w W → Calls Tryz.prog 9 #[.slice ao F.length cap, .slice co ss.length ccap, .int .i64 100000] W (RuP F ss ((100000 : Nat) : Int) W) := fun W hW => RunC ao co cap ccap F ss ((100000 : Nat) : Int) W (hl.below hW (Nat.le_refl _)) (ht.below hW) (he.up hW) (by omega) (by omega) (by omega)
  have HR1 : Hid (∀ W, Hid (Below w.heap.size w W) → Calls Tryz.prog 9 #[.slice ao F.length cap, .slice co ss.length ccap, .int .i64 100000] W fun e w' => ∃ ra rc n1, e = .returned (.tuple #[.slice ra n1 rc, .int .i64 (rnC F ss ((100000 : Nat) : Int) : Int), .int .i64 (rnS F ss ((100000 : Nat) : Int) : Int), .int .i64 (rnE F ss ((100000 : Nat) : Int))]) ∧ Hid (Below w.heap.size w w')) := fun W hW => (run W hW.out).mono fun e w' ⟨ra, rc, q1, q2, q3⟩ => ⟨ra, rc, _, q1, below_low hW.out q3.out hW.out.size⟩
  have HTx : Hid (∀ W, Below w.heap.size w W → TxAt W co ss) := fun W hW => ht.below hW
  have HWd : Hid (∀ (k : Nat) (hk : k < ss.length) (W : World), Hid (Below w.heap.size w W) → Calls Tryz.prog 17 #[.string ss[k]] W fun e w' => ∃ g cap n, e = .returned (.slice (some ⟨g, 0, none⟩) n cap) ∧ (0 : Int) < (n : Int) ∧ w'.cell? ⟨g, 0, none⟩ = some (.string (bA ((wdL [] ss[k].data.toList).getD 0 []))) ∧ Hid (Below w.heap.size w w')) := fun k hk W hW => (WordsB ss[k] W (by have := hts _ (List.getElem_mem hk); omega)).mono fun e w' ⟨g, cap, q1, q2, q3⟩ => by
    have hne : (wdL [] ss[k].data.toList).length ≠ 0 := fun e => wdL_ne _ _ (List.length_eq_zero_iff.1 e)
    exact ⟨g, cap, _, q1, by omega, q2.out 0 (by omega), below_low hW.out q3.out hW.out.size⟩
  have HEn : Hid (rnE F ss ((100000 : Nat) : Int) = 0 → (∀ s ∈ ss, jmp s = false) → ss.length ≤ 60 ∧ rnS F ss ((100000 : Nat) : Int) ≤ ss.length * 6251 ∧ (rnC F ss ((100000 : Nat) : Int) = 104 → rnS F ss ((100000 : Nat) : Int) = 100000)) := fun h1 h2 => rn_ends h1 h2
  have hleni : (ss.length : Int) ≤ 1048576 := by omega
  generalize rnE F ss ((100000 : Nat) : Int) = E at *
  generalize rnC F ss ((100000 : Nat) : Int) = C at *
  generalize rnS F ss ((100000 : Nat) : Int) = S at *
  clear run hl ht he hts
  go_enter Tryz.func7, Tryz.ntmps7
  go_wp2_with (first
    | (go_at_call 11; refine HBg.out.mono ?_; rintro e w1 ⟨rfl, H1⟩)
    | go_in)
  go_loopw [5] (fun i wr => ∃ k : Nat, k ≤ ss.length ∧ i = .int .i64 (k : Int) ∧ Hid (∀ s ∈ ss.take k, jmp s = false) ∧ Hid (Below w.heap.size w wr)) (fun i _ => ss.length - (intOf i).toNat)
  case atStart =>
    refine ⟨0, Nat.zero_le _, rfl, ?_, H1⟩
    exact (fun s hs => by simp at hs : ∀ s ∈ ss.take 0, jmp s = false)
  case round =>
    obtain ⟨k, hk, rfl, HN, HJ⟩ := hrel
    by_cases hkl : k < ss.length
    · have hki : (k : Int) < (ss.length : Int) := by omega
      obtain ⟨tg, to, rfl, htg, htc⟩ := (HTx.out _ HJ.out).at_ hkl
      have hW0 := HWd.out k hkl wr HJ
      have HSn : Hid (jmp ss[k] = false → ∀ s ∈ ss.take (k + 1), jmp s = false) := fun h s hs => by
        rw [List.take_succ_eq_append_getElem hkl] at hs
        rcases List.mem_append.1 hs with hs | hs
        · exact HN.out s hs
        · rw [List.mem_singleton.1 hs]; exact h
      have HJm : Hid (jmp ss[k] = (decide ((wdL [] ss[k].data.toList).getD 0 [] = [103, 111, 116, 111]) || decide ((wdL [] ss[k].data.toList).getD 0 [] = [115, 97, 109, 101]) || decide ((wdL [] ss[k].data.toList).getD 0 [] = [108, 101, 115, 115]))) := rfl
      have b1 := eqw ((wdL [] ss[k].data.toList).getD 0 []) [103, 111, 116, 111]
      have b2 := eqw ((wdL [] ss[k].data.toList).getD 0 []) [115, 97, 109, 101]
      have b3 := eqw ((wdL [] ss[k].data.toList).getD 0 []) [108, 101, 115, 115]
      have HWk : Hid (Calls Tryz.prog 17 #[.string ss[k]] wr fun e w' => ∃ g cap n, e = .returned (.slice (some ⟨g, 0, none⟩) n cap) ∧ (0 : Int) < (n : Int) ∧ w'.cell? ⟨g, 0, none⟩ = some (.string (bA ((wdL [] ss[k].data.toList).getD 0 []))) ∧ Hid (Below w.heap.size w w')) := hW0
      generalize ss[k] = s at *
      generalize bA ((wdL [] s.data.toList).getD 0 []) = b0 at *
      generalize decide ((wdL [] s.data.toList).getD 0 [] = [103, 111, 116, 111]) = d1 at *
      generalize decide ((wdL [] s.data.toList).getD 0 [] = [115, 97, 109, 101]) = d2 at *
      generalize decide ((wdL [] s.data.toList).getD 0 [] = [108, 101, 115, 115]) = d3 at *
      clear hW0
      cases d1 with
      | true =>
        clear HJm HSn
        go_wp2_with (first
          | (go_at_call 17; refine HWk.out.mono ?_; rintro e w4 ⟨wg, wc, wn, rfl, hwn, q0, H4⟩)
          | go_in)
        go_ret
        exact ⟨by first | rfl | simp, H4.out⟩
      | false =>
        cases d2 with
        | true =>
          clear HJm HSn
          go_wp2_with (first
            | (go_at_call 17; refine HWk.out.mono ?_; rintro e w4 ⟨wg, wc, wn, rfl, hwn, q0, H4⟩)
            | go_in)
          go_ret
          exact ⟨by first | rfl | simp, H4.out⟩
        | false =>
          cases d3 with
          | true =>
            clear HJm HSn
            go_wp2_with (first
              | (go_at_call 17; refine HWk.out.mono ?_; rintro e w4 ⟨wg, wc, wn, rfl, hwn, q0, H4⟩)
              | go_in)
            go_ret
            exact ⟨by first | rfl | simp, H4.out⟩
          | false =>
            have HN2 : Hid (∀ s ∈ ss.take (k + 1), jmp s = false) := HSn.out HJm.out
            clear HJm HSn HN
            go_wp2_with (first
              | (go_at_call 17; refine HWk.out.mono ?_; rintro e w4 ⟨wg, wc, wn, rfl, hwn, q0, H4⟩)
              | go_in)
            refine ⟨⟨k + 1, hkl, by go_num, HN2, H4⟩, ?_⟩
            simp [intOf]; omega
    · obtain rfl : k = ss.length := by omega
      have HAll : Hid (∀ s ∈ ss, jmp s = false) := fun s hs => HN.out s (by rw [List.take_length]; exact hs)
      have hR := HR1.out wr HJ
      by_cases h0 : E = 0
      · subst h0
        obtain ⟨z1, z2, z3⟩ := HEn.out rfl HAll.out
        have hmul : (ss.length : Int) * 6251 = ((ss.length * 6251 : Nat) : Int) := by omega
        generalize ss.length * 6251 = Y at *
        have hY : IntKind.i64.wrap (Y : Int) = (Y : Int) := by rw [IntKind.wrap_i64]; omega
        have hSY : (S : Int) ≤ (Y : Int) := by omega
        by_cases h104 : C = 104
        · have hS := z3 h104
          subst h104 hS
          have HR2 : Hid (Calls Tryz.prog 9 #[.slice ao F.length cap, .slice co ss.length ccap, .int .i64 100000] wr fun e w' => ∃ ra rc n1, e = .returned (.tuple #[.slice ra n1 rc, .int .i64 ((104 : Nat) : Int), .int .i64 ((100000 : Nat) : Int), .int .i64 0]) ∧ Hid (Below w.heap.size w w')) := hR
          clear hR z1 z2 z3
          go_wp2_with (first
            | (go_at_call 9; refine HR2.out.mono ?_; rintro e w5 ⟨ra, rc, n1, rfl, H5⟩)
            | go_in)
          go_ret
          exact ⟨by first | rfl | simp, H5.out⟩
        · have hCi : ((C : Int) == 104) = false := by simp; omega
          have hCn : ¬ (C : Int) = 104 := by omega
          have hCm : ((C : Int) != 104) = true := by simp; omega
          have HR2 : Hid (Calls Tryz.prog 9 #[.slice ao F.length cap, .slice co ss.length ccap, .int .i64 100000] wr fun e w' => ∃ ra rc n1, e = .returned (.tuple #[.slice ra n1 rc, .int .i64 (C : Int), .int .i64 (S : Int), .int .i64 0]) ∧ Hid (Below w.heap.size w w')) := hR
          clear hR z1 z2 z3 h104
          go_wp2_with (first
            | (go_at_call 9; refine HR2.out.mono ?_; rintro e w5 ⟨ra, rc, n1, rfl, H5⟩)
            | go_in)
          go_ret
          exact ⟨by first | rfl | simp, H5.out⟩
      · have hE : (E == 0) = false := by simpa using h0
        have HR2 : Hid (Calls Tryz.prog 9 #[.slice ao F.length cap, .slice co ss.length ccap, .int .i64 100000] wr fun e w' => ∃ ra rc n1, e = .returned (.tuple #[.slice ra n1 rc, .int .i64 (C : Int), .int .i64 (S : Int), .int .i64 E]) ∧ Hid (Below w.heap.size w w')) := hR
        clear hR
        go_wp2_with (first
          | (go_at_call 9; refine HR2.out.mono ?_; rintro e w5 ⟨ra, rc, n1, rfl, H5⟩)
          | go_in)
        go_ret
        exact ⟨by first | rfl | simp, H5.out⟩

set_option maxRecDepth 100000 in
theorem ends_walk_lifted (os : Os) (started : os.Started) (H : Type) (enc : TypeId × Value → H) (F : Stop.Interp) :
    ReturnsInHanded {} Tryz.checked os 7 .any ((Rows.OpenSpec.upto Rows.sandboxEndsSpec).preRow enc Tryz.prog Tryz.f7 Rows.sandboxEndsUptoRow.domain false Rows.sandboxEndsUptoRow.laid) (((Rows.OpenSpec.upto Rows.sandboxEndsSpec).at F).post enc Tryz.prog Tryz.f7 false true false false) := by
  refine returnsInHanded_of_row (C := Tryz.checked) (s := Rows.OpenSpec.upto Rows.sandboxEndsSpec) own started (by kernel_rfl) Tryz.func7
    (witness_up (enc := enc) (C := Tryz.checked) (os := os) (World.laidAll Tryz.prog os Rows.sandboxEndsUptoRow.laid) #[.slice none 0 0, .slice none 0 0] (World.laidAll_os _ _ _)
      (World.shaped_of_ZipB (by kernel_rfl) (by kernel_rfl)) (by kernel_rfl)
      (OpenSpec.preRow_of_cond 8 (x := ([.nil, .nil], [], [])) (by kernel_rfl) (by kernel_rfl) (fun k hk => by cases hk; kernel_rfl) (by kernel_rfl)
        (by rw [MakeChecks.laidMetH_plain _ _ _ (by kernel_rfl)]; exact laidMet_laidAll _ (by kernel_rfl) (by kernel_rfl)))) ?_
  intro W base args ds gs before hval0 hW _ hcond hsz0 lies shape _
  have hval : ∀ (j : Nat) t v, Tryz.f7.params[j]? = some t → args[j]? = some v → Value.okWide Tryz.prog W .any base t v := hval0
  have hk := hcond _ rfl
  have hW' := hW
  obtain ⟨p, q, hA0, hV, rfl, hfz, hnd⟩ := hW
  have hA : DataW.TrodAll enc Tryz.prog W 0 (fun _ => true) true Tryz.f7.params.toList args.toList ds p := hA0
  have hsz : (DataW.weightsEach Tryz.prog (Tryz.f7.params.toList ++ Rows.sandboxEndsSpec.plain.varTypes Tryz.prog) (ds ++ gs)).all (· ≤ reachBytes) = true := hsz0
  rw [Tryz.params7] at hA hval hsz
  obtain ⟨v0, v1, d0, d1, p0, p1, rfl, rfl, rfl, h0, h1⟩ := trodAll_two hA
  obtain ⟨rfl, rfl⟩ := trodVars_none hV
  have h9 := of_decide_eq_true hk
  simp only [List.append_nil, Rows.uptoBulkAll] at h9
  obtain ⟨L0, ao0, cap0, rfl, hf0, hn0⟩ := arg_files (hval 0 22 v0 rfl rfl) h0 (arg_lenF hsz 0 d0 rfl rfl)
  have lt0 : ∀ x ∈ p0, x.block < W.heap.size := by obtain ⟨m, hm⟩ := h0; exact DataW.trod_lt m _ _ _ hm
  obtain ⟨ss1, co1, cc1, rfl, ht1, htot1, hnil1, hcap1⟩ := arg_texts_up (hval 1 23 v1 rfl rfl) h1 (by omega)
  have hml1 := total_len ss1
  have lt1 : ∀ x ∈ p1, x.block < W.heap.size := by obtain ⟨m, hm⟩ := h1; exact DataW.trod_lt m _ _ _ hm
  clear hA0 hval0
  refine (ends_walk ao0 co1 cap0 cc1 L0 ss1 W hf0 ht1 (env_of lies shape) (by omega) (fun s hs => by have := total_mem hs; omega)).mono fun e W' ⟨he, bel⟩ => ?_
  subst he
  exact ⟨_, rfl, _, _, _, [], _, [], hW', trodAll_mk1 (shut_bool Tryz.underlying4 _), trodAll_mk2 (Below.trod laidOut (by kernel_rfl) (of_decide_eq_true (by kernel_rfl)) h0 bel lt0) (Below.trod laidOut (by kernel_rfl) (of_decide_eq_true (by kernel_rfl)) h1 bel lt1), rfl, bel.frame _, fun h => by cases h⟩

theorem sandboxEndsUpto_row : Rows.SandboxEndsUptoSaid :=
  OpenClaim.holds_of_cond 7 Tryz.f7 rfl rfl rfl rfl rfl rfl rfl ⟨rfl, rfl, rfl, rfl, rfl⟩ rfl rfl rfl rfl rfl (by kernel_rfl) Tryz.func7 (by kernel_rfl)
    (of_decide_eq_true (by kernel_rfl)) (by unfold Func.isWrapper; first | (rw [if_pos (by decide +kernel)]; kernel_rfl) | (rw [if_neg (by decide +kernel)]; exact ⟨rfl, rfl⟩))
    (fun os started H enc _ F => by rw [OpenClaim.pre_eq_preRow]; exact ends_walk_lifted os started H enc F)

theorem sandboxEndsUpto_holds : Rows.SandboxEndsUptoCardSaid :=
  Claim7.holds_tied_plain_at .later [] Rows.sandboxEndsUptoCard.laidKinds true Rows.sandboxEndsUptoCard.stood.harness false
    sandboxEndsUpto_row (fun _ h => by cases h) (by kernel_rfl) (fun _ h => by cases h) sandboxEndsUpto_row_tie rfl ⟨rfl, rfl⟩ (by kernel_rfl) rfl
    (fun f fn hf hfn => by
      obtain rfl : f = 7 := Option.some.inj ((show Tryz.prog.funcNamed Rows.sandboxEndsUptoRow.func = some 7 by kernel_rfl).symm.trans hf) |>.symm
      obtain rfl : fn = Tryz.f7 := (Option.some.inj (Tryz.func7.symm.trans hfn)).symm
      exact ⟨by kernel_rfl, fun j t ht => by
        rw [Tryz.params7] at ht
        have hm : t ∈ [22, 23] := by simpa using Array.mem_of_getElem? ht
        have hall : ([22, 23].all fun u => !Tryz.prog.wantsStandIn u) = true := by kernel_rfl
        exact (show Tryz.prog.wantsStandIn t = false by simpa using List.all_eq_true.1 hall t hm)⟩)
    (by kernel_rfl)
#print axioms sandboxEndsUpto_holds
end Go.Proofs.YtapiedeekbfpnaaGreatDoor
