/- SandboxMore holds, its listed variables tied to the program's text: for all files, every command, all fuel and whatever number that can be read, what ends without CodeFuel ends so with more fuel, and with just what it burnt, and what was made is a tree; all read behind the call as they read before; no condition of ours. -/
import Derived.Test.YtapiedeekbfpnaaGreatDoorTa7
namespace Go.Proofs.YtapiedeekbfpnaaGreatDoor
open Go.ChangeShapes Go.WideShapes Go.ChangeAt Go.RowKit Go.Shelf Go.Sort

theorem more_num (fu r : Nat) (h1 : fu ≤ 100000) (h2 : r < 1000) : ∃ q z : Nat, (fu : Int) + (r : Int) = (q : Int) ∧ IntKind.i64.wrap (q : Int) = (q : Int) ∧ min (100000 : Int) (q : Int) = (z : Int) ∧ fu ≤ z ∧ z ≤ 100000 := by
  refine ⟨fu + r, min 100000 (fu + r), by omega, ?_, by omega, by omega, by omega⟩
  rw [IntKind.wrap_i64]
  omega

set_option maxHeartbeats 8000000 in
set_option maxRecDepth 100000 in
theorem more_walk (ao co : Option Addr) (cap ccap : Nat) (F : List Fl) (ss : List ByteArray) (fuel more : Int) (w : World) (hl : IsFl w ao F) (ht : TxAt w co ss) (he : Env w) (hlen : ss.length ≤ 4611686018427387904) (hf1 : -9223372036854775808 ≤ fuel) (hf2 : fuel ≤ 9223372036854775807) (hm1 : -9223372036854775808 ≤ more) (hm2 : more ≤ 9223372036854775807) :
    Calls Tryz.prog 4 #[.slice ao F.length cap, .slice co ss.length ccap, .int .i64 fuel, .int .i64 more] w fun e w' => e = .returned (.bool true) ∧ Below w.heap.size w w' := by
  have HBg : Hid (Calls Tryz.prog 11 #[] w fun e w' => e = .returned (.bool true) ∧ Hid (Below w.heap.size w w')) := sbegun_any w he.1
  have run : ∀ (f : Int) (W : World), -9223372036854775808 ≤ f → f ≤ 9223372036854775807 → Below w.heap.size w W → Calls Tryz.prog 9 #[.slice ao F.length cap, .slice co ss.length ccap, .int .i64 f] W (RuP F ss f W) := fun f W h1 h2 hW => RunC ao co cap ccap F ss f W (hl.below hW (Nat.le_refl _)) (ht.below hW) (he.up hW) hlen h1 h2
  have hR1 := fun W hW => run fuel W hf1 hf2 hW
  by_cases h0 : rnE F ss fuel = 0
  · obtain ⟨fu, rfl, hfu, _, _⟩ := rn_zero h0
    have htr := rn_tree F ss (fu : Int)
    have hsp := rn_spent F ss _ h0
    have HR1 : Hid (∀ W, Hid (Below w.heap.size w W) → Calls Tryz.prog 9 #[.slice ao F.length cap, .slice co ss.length ccap, .int .i64 (fu : Int)] W fun e w' => ∃ ra rc, e = .returned (.tuple #[.slice ra (rnL F ss (fu : Int)).length rc, .int .i64 (rnC F ss (fu : Int) : Int), .int .i64 (rnS F ss (fu : Int) : Int), .int .i64 0]) ∧ Hid (Below w.heap.size w w' ∧ IsFl w' ra (rnL F ss (fu : Int)))) := fun W hW => (hR1 W hW.out).mono fun e w' ⟨ra, rc, q1, q2, q3⟩ => ⟨ra, rc, by rw [q1, h0], below_low hW.out q3.out hW.out.size, q2.out⟩
    have HCk : Hid (∀ (W : World) ra rc, Hid (Below w.heap.size w W ∧ IsFl W ra (rnL F ss (fu : Int))) → Calls Tryz.prog 13 #[.slice ra (rnL F ss (fu : Int)).length rc] W fun e w' => e = .returned (.int .i64 0) ∧ Hid (Below w.heap.size w w' ∧ IsFl w' ra (rnL F ss (fu : Int)))) := fun W ra rc h => (Check_any ra rc _ W h.out.2 (he.up h.out.1).1).mono fun e w' q => ⟨by rw [q.1, htr.ch], below_low h.out.1 q.2 h.out.1.size, h.out.2.up q.2⟩
    have hn60 := htr.ln
    by_cases h104 : rnC F ss (fu : Int) = 104
    · have hs := rn_out h0 h104
      rw [hs, h104] at HR1
      generalize (rnL F ss (fu : Int)).length = n1 at *
      have hfui : (fu : Int) ≤ 100000 := by omega
      clear run hR1 hl ht he hlen hsp hs h104 htr h0
      go_enter Tryz.func4, Tryz.ntmps4
      go_wp2_with (first
        | (go_at_call 11; refine HBg.out.mono ?_; rintro e w1 ⟨rfl, H1⟩)
        | (go_at_call 9; refine (HR1.out _ H1).mono ?_; rintro e w2 ⟨ra, rc, rfl, H2⟩)
        | (go_at_call 13; refine (HCk.out _ _ _ H2).mono ?_; rintro e w3 ⟨rfl, H3⟩)
        | go_in)
      go_ret
      exact ⟨by first | rfl | simp, H3.out.1⟩
    · have hSm : ∀ (W : World) (ra rb : Option Addr) (rc rd : Nat), IsFl W ra (rnL F ss (fu : Int)) → IsFl W rb (rnL F ss (fu : Int)) → Calls Tryz.prog 15 #[.slice ra (rnL F ss (fu : Int)).length rc, .slice rb (rnL F ss (fu : Int)).length rd] W fun e w' => e = .returned (.bool true) ∧ Hid (Below W.heap.size W w') := fun W ra rb rc rd h1 h2 => SameC ra rb rc rd _ W hn60 h1 h2
      have HS1 : Hid (∀ (W : World) (ra rb rp : Option Addr) (rc rd : Nat), Hid (Below w.heap.size w W ∧ IsFl W ra (rnL F ss (fu : Int)) ∧ IsFl W rb (rnL F ss (fu : Int)) ∧ IsFl W rp (rnL F ss (fu : Int))) → Calls Tryz.prog 15 #[.slice ra (rnL F ss (fu : Int)).length rc, .slice rb (rnL F ss (fu : Int)).length rd] W fun e w' => e = .returned (.bool true) ∧ Hid (Below w.heap.size w w' ∧ IsFl w' ra (rnL F ss (fu : Int)) ∧ IsFl w' rp (rnL F ss (fu : Int)))) := fun W ra rb rp rc rd h => (hSm W ra rb rc rd h.out.2.1 h.out.2.2.1).mono fun e w' q => ⟨q.1, below_low h.out.1 q.2.out h.out.1.size, h.out.2.1.up q.2.out, h.out.2.2.2.up q.2.out⟩
      have HS2 : Hid (∀ (W : World) (ra rp : Option Addr) (rc rd : Nat), Hid (Below w.heap.size w W ∧ IsFl W ra (rnL F ss (fu : Int)) ∧ IsFl W rp (rnL F ss (fu : Int))) → Calls Tryz.prog 15 #[.slice ra (rnL F ss (fu : Int)).length rc, .slice rp (rnL F ss (fu : Int)).length rd] W fun e w' => e = .returned (.bool true) ∧ Hid (Below w.heap.size w w')) := fun W ra rp rc rd h => (hSm W ra rp rc rd h.out.2.1 h.out.2.2).mono fun e w' q => ⟨q.1, below_low h.out.1 q.2.out h.out.1.size⟩
      have HCh : Hid (∀ W, Calls Tryz.prog 14 #[.int .i64 more, .int .i64 1000] W fun e w' => (∃ r : Nat, r < 1000 ∧ e = .returned (.int .i64 (r : Int))) ∧ w' = W) := fun W => choose_any more 1000 W hm1 hm2 (by decide) (by decide)
      have HR2 : Hid (∀ (W : World) (ra : Option Addr) (z : Nat), Hid (Below w.heap.size w W ∧ IsFl W ra (rnL F ss (fu : Int))) → Hid (fu ≤ z ∧ z ≤ 100000) → Calls Tryz.prog 9 #[.slice ao F.length cap, .slice co ss.length ccap, .int .i64 (z : Int)] W fun e w' => ∃ rb rd, e = .returned (.tuple #[.slice rb (rnL F ss (fu : Int)).length rd, .int .i64 (rnC F ss (fu : Int) : Int), .int .i64 (rnS F ss (fu : Int) : Int), .int .i64 0]) ∧ Hid (Below w.heap.size w w' ∧ IsFl w' ra (rnL F ss (fu : Int)) ∧ IsFl w' rb (rnL F ss (fu : Int)))) := fun W ra z h hz => by
        have hz := hz.out
        obtain ⟨d, rfl⟩ : ∃ d, z = fu + d := ⟨z - fu, by omega⟩
        obtain ⟨m1, m2, m3, m4⟩ := rn_mores h0 h104 hz.2
        refine (run ((fu + d : Nat) : Int) W (by omega) (by omega) h.out.1).mono ?_
        rintro e w' ⟨rb, rd, q1, q2, q3⟩
        rw [m2] at q1 q2
        rw [m1, m3, m4] at q1
        exact ⟨rb, rd, q1, below_low h.out.1 q3.out h.out.1.size, h.out.2.up q3.out, q2.out⟩
      have HR3 : Hid (∀ (W : World) (ra rb : Option Addr), Hid (Below w.heap.size w W ∧ IsFl W ra (rnL F ss (fu : Int)) ∧ IsFl W rb (rnL F ss (fu : Int))) → Calls Tryz.prog 9 #[.slice ao F.length cap, .slice co ss.length ccap, .int .i64 (rnS F ss (fu : Int) : Int)] W fun e w' => ∃ rp rq, e = .returned (.tuple #[.slice rp (rnL F ss (fu : Int)).length rq, .int .i64 (rnC F ss (fu : Int) : Int), .int .i64 (rnS F ss (fu : Int) : Int), .int .i64 0]) ∧ Hid (Below w.heap.size w w' ∧ IsFl w' ra (rnL F ss (fu : Int)) ∧ IsFl w' rb (rnL F ss (fu : Int)) ∧ IsFl w' rp (rnL F ss (fu : Int)))) := fun W ra rb h => by
        obtain ⟨m1, m2, m3, m4⟩ := rn_justs h0 h104
        refine (run (rnS F ss (fu : Int) : Int) W (by omega) (by omega) h.out.1).mono ?_
        rintro e w' ⟨rp, rq, q1, q2, q3⟩
        rw [m2] at q1 q2
        rw [m1, m3, m4] at q1
        exact ⟨rp, rq, q1, below_low h.out.1 q3.out h.out.1.size, h.out.2.1.up q3.out, h.out.2.2.up q3.out, q2.out⟩
      have h104i : ((rnC F ss (fu : Int) : Int) == 104) = false := by simp; omega
      have hfui : (fu : Int) ≤ 100000 := by omega
      generalize rnL F ss (fu : Int) = X at *
      generalize rnC F ss (fu : Int) = C at *
      generalize rnS F ss (fu : Int) = S at *
      generalize X.length = n1 at *
      clear run hR1 hl ht he hlen htr h0 hSm h104
      go_enter Tryz.func4, Tryz.ntmps4
      go_wp2_with (first
        | (go_at_call 11; refine HBg.out.mono ?_; rintro e w1 ⟨rfl, H1⟩)
        | (go_at_call 9; with_reducible refine (HR1.out _ H1).mono ?_; rintro e w2 ⟨ra, rc, rfl, H2⟩)
        | (go_at_call 13; refine (HCk.out _ _ _ H2).mono ?_; rintro e w3 ⟨rfl, H3⟩)
        | (go_at_call 14; refine (HCh.out _).mono ?_; rintro e w4 ⟨⟨r, hr, rfl⟩, hw⟩; subst w4; obtain ⟨q, z, e1, e2, e3, z1, z2⟩ := more_num fu r hfu hr; have HZ : Hid (fu ≤ z ∧ z ≤ 100000) := ⟨z1, z2⟩; clear z1 z2 hr)
        | (go_at_call 9; with_reducible refine (HR2.out _ ra z H3 HZ).mono ?_; rintro e w5 ⟨rb, rd, rfl, H5⟩)
        | (go_at_call 9; with_reducible refine (HR3.out _ ra rb H5).mono ?_; rintro e w6 ⟨rp, rq, rfl, H6⟩)
        | (go_at_call 15; with_reducible refine (HS1.out _ ra rb rp _ _ H6).mono ?_; rintro e w7 ⟨rfl, H7⟩)
        | (go_at_call 15; with_reducible refine (HS2.out _ ra rp _ _ H7).mono ?_; rintro e w8 ⟨rfl, H8⟩)
        | go_in)
      go_ret
      exact ⟨by first | rfl | simp, H8.out⟩
  · have HR1 : Hid (∀ W, Hid (Below w.heap.size w W) → Calls Tryz.prog 9 #[.slice ao F.length cap, .slice co ss.length ccap, .int .i64 fuel] W fun e w' => ∃ ra rc, e = .returned (.tuple #[.slice ra (rnL F ss fuel).length rc, .int .i64 (rnC F ss fuel : Int), .int .i64 (rnS F ss fuel : Int), .int .i64 (rnE F ss fuel)]) ∧ Hid (Below w.heap.size w w')) := fun W hW => (hR1 W hW.out).mono fun e w' ⟨ra, rc, q1, q2, q3⟩ => ⟨ra, rc, q1, below_low hW.out q3.out hW.out.size⟩
    generalize rnE F ss fuel = E at *
    generalize (rnL F ss fuel).length = n1 at *
    generalize rnC F ss fuel = C at *
    generalize rnS F ss fuel = S at *
    have hE : (E == 0) = false := by simpa using h0
    clear run hR1 hl ht he hlen
    go_enter Tryz.func4, Tryz.ntmps4
    go_wp2_with (first
      | (go_at_call 11; refine HBg.out.mono ?_; rintro e w1 ⟨rfl, H1⟩)
      | (go_at_call 9; refine (HR1.out _ H1).mono ?_; rintro e w2 ⟨ra, rc, rfl, H2⟩)
      | go_in)
    go_ret
    exact ⟨by first | rfl | simp, H2.out⟩

set_option maxRecDepth 100000 in
theorem more_walk_lifted (os : Os) (started : os.Started) (H : Type) (enc : TypeId × Value → H) :
    ReturnsInHanded {} Tryz.checked os 4 .any (fun w args => (Rows.sandboxMoreSpec.pre enc Tryz.prog Tryz.f4 Rows.sandboxMoreRow.domain false w args ∧ laidMetH Tryz.prog Rows.sandboxMoreRow.laid w) ∧ sizedMet enc Tryz.prog Tryz.f4 (OpenSpec.ofChange Rows.sandboxMoreSpec) false w args)
      (Rows.sandboxMoreSpec.post enc Tryz.prog Tryz.f4 false true false false) := by
  refine returns_laid own started (by kernel_rfl) Tryz.func4
    (ChangeSpec.witness_shaped (enc := enc) (C := Tryz.checked) (os := os) (X := fun w _ => laidMetH Tryz.prog Rows.sandboxMoreRow.laid w) false (World.laidAll Tryz.prog os Rows.sandboxMoreRow.laid) #[.slice none 0 0, .slice none 0 0, .int .i64 0, .int .i64 0] 8 (World.laidAll_os _ _ _)
      (World.shaped_of_ZipB (by kernel_rfl) (by kernel_rfl)) (by kernel_rfl) (by kernel_rfl) (by kernel_rfl)
      (by rw [MakeChecks.laidMetH_plain _ _ _ (by kernel_rfl)]; exact laidMet_laidAll _ (by kernel_rfl) (by kernel_rfl))) ?_
  intro W base args ds gs before hval0 hW hsz0 lies shape
  have hval : ∀ (j : Nat) t v, Tryz.f4.params[j]? = some t → args[j]? = some v → Value.okWide Tryz.prog W .any base t v := hval0
  have hW' := hW
  obtain ⟨p, q, hA0, hV, rfl, hfz, hnd⟩ := hW
  have hA : DataW.TrodAll enc Tryz.prog W 0 (fun _ => true) true Tryz.f4.params.toList args.toList ds p := hA0
  have hsz : (DataW.weightsEach Tryz.prog (Tryz.f4.params.toList ++ Rows.sandboxMoreSpec.plain.varTypes Tryz.prog) (ds ++ gs)).all (· ≤ reachBytes) = true := hsz0
  rw [Tryz.params4] at hA hval hsz
  obtain ⟨v0, v1, v2, v3, d0, d1, d2, d3, p0, p1, p2, p3, rfl, rfl, rfl, h0, h1, h2, h3⟩ := trodAll_four hA
  obtain ⟨rfl, rfl⟩ := trodVars_none hV
  obtain ⟨L0, ao0, cap0, rfl, hf0, hn0⟩ := arg_files (hval 0 22 v0 rfl rfl) h0 (arg_lenF hsz 0 d0 rfl rfl)
  have lt0 : ∀ x ∈ p0, x.block < W.heap.size := by obtain ⟨m, hm⟩ := h0; exact DataW.trod_lt m _ _ _ hm
  obtain ⟨ss1, i1⟩ := arg_texts (hval 1 23 v1 rfl rfl) h1 (arg_len hsz 1 d1 rfl rfl)
  obtain ⟨hn1, co1, cc1, rfl, ht1⟩ := tx_of i1
  have lt1 : ∀ x ∈ p1, x.block < W.heap.size := by obtain ⟨m, hm⟩ := h1; exact DataW.trod_lt m _ _ _ hm
  obtain ⟨a2, rfl, rfl, rfl, w2⟩ := open_int Tryz.underlying3 (hval 2 3 v2 rfl rfl) h2
  have r2 : -9223372036854775808 ≤ a2 ∧ a2 ≤ 9223372036854775807 := by simpa [Lit.wf, IntKind.min, IntKind.max, IntKind.signed, IntKind.bits] using w2
  obtain ⟨a3, rfl, rfl, rfl, w3⟩ := open_int Tryz.underlying3 (hval 3 3 v3 rfl rfl) h3
  have r3 : -9223372036854775808 ≤ a3 ∧ a3 ≤ 9223372036854775807 := by simpa [Lit.wf, IntKind.min, IntKind.max, IntKind.signed, IntKind.bits] using w3
  clear hA0 hval0
  refine (more_walk ao0 co1 cap0 cc1 L0 ss1 a2 a3 W hf0 ht1 (env_of lies shape) hn1 r2.1 r2.2 r3.1 r3.2).mono fun e W' ⟨he, bel⟩ => ?_
  subst he
  exact ⟨_, rfl, _, _, _, [], _, [], hW', trodAll_mk1 (shut_bool Tryz.underlying4 _), trodAll_mk4 (Below.trod laidOut (by kernel_rfl) (of_decide_eq_true (by kernel_rfl)) h0 bel lt0) (Below.trod laidOut (by kernel_rfl) (of_decide_eq_true (by kernel_rfl)) h1 bel lt1) (shut_int Tryz.underlying3 w2) (shut_int Tryz.underlying3 w3), rfl, bel.frame _, fun h => by cases h⟩

theorem sandboxMore_row : Rows.SandboxMoreSaid :=
  OpenClaim.holds_of_wide 4 Tryz.f4 rfl rfl rfl rfl rfl rfl rfl ⟨rfl, rfl, rfl, rfl, rfl⟩ rfl rfl rfl rfl rfl (by kernel_rfl) Tryz.func4 (by kernel_rfl)
    (of_decide_eq_true (by kernel_rfl)) (by unfold Func.isWrapper; first | (rw [if_pos (by decide +kernel)]; kernel_rfl) | (rw [if_neg (by decide +kernel)]; exact ⟨rfl, rfl⟩))
    (fun os started H enc _ => more_walk_lifted os started H enc)

theorem sandboxMore_holds : Rows.SandboxMoreCardSaid :=
  Claim7.holds_tied_plain_at .later [] Rows.sandboxMoreCard.laidKinds true Rows.sandboxMoreCard.stood.harness false
    sandboxMore_row (fun _ h => by cases h) (by kernel_rfl) (fun _ h => by cases h) sandboxMore_row_tie rfl ⟨rfl, rfl⟩ (by kernel_rfl) rfl
    (fun f fn hf hfn => by
      obtain rfl : f = 4 := Option.some.inj ((show Tryz.prog.funcNamed Rows.sandboxMoreRow.func = some 4 by kernel_rfl).symm.trans hf) |>.symm
      obtain rfl : fn = Tryz.f4 := (Option.some.inj (Tryz.func4.symm.trans hfn)).symm
      exact ⟨by kernel_rfl, fun j t ht => by
        rw [Tryz.params4] at ht
        have hm : t ∈ [22, 23, 3, 3] := by simpa using Array.mem_of_getElem? ht
        have hall : ([22, 23, 3, 3].all fun u => !Tryz.prog.wantsStandIn u) = true := by kernel_rfl
        exact (show Tryz.prog.wantsStandIn t = false by simpa using List.all_eq_true.1 hall t hm)⟩)
    (by kernel_rfl)
#print axioms sandboxMore_holds
end Go.Proofs.YtapiedeekbfpnaaGreatDoor
