/- SandboxMakes holds, its listed variables tied to the program's text: for all files, every command and all fuel that can be read, what Run made is made by a line that makes it, and is a tree, and it ends as it may; all read behind the call as they read before; no condition of ours. -/
import Derived.Test.YtapiedeekbfpnaaGreatDoorSbWdM
import Derived.Test.YtapiedeekbfpnaaGreatDoorTa7
import Derived.Test.YtapiedeekbfpnaaGreatDoorSd3M
import Derived.Deep.QuietTactic
import Derived.BigQuiet
import Derived.BigRegion
namespace Go.Proofs.YtapiedeekbfpnaaGreatDoor
open Go.ChangeShapes Go.WideShapes Go.ChangeAt Go.RowKit Go.Shelf Go.Sort

theorem any_snoc {x : Fl} (ss : List ByteArray) {k : Nat} (hk : k < ss.length) : (ss.take (k + 1)).any (mkd x) = ((ss.take k).any (mkd x) || mkd x ss[k]) := by
  rw [List.take_succ_eq_append_getElem hk, List.any_append]
  simp

theorem dn_keep {w W : World} {ra : Option Addr} {X : List Fl} (h : Hid (Below w.heap.size w W ∧ IsFl W ra X)) (n : Nat) : Hid (Below w.heap.size w (W.drewN n) ∧ IsFl (W.drewN n) ra X) := ⟨below_low h.out.1 (below_dn W n) h.out.1.size, h.out.2.up (below_dn W n)⟩

set_option maxHeartbeats 8000000 in
set_option maxRecDepth 100000 in
theorem makes_walk (ao co : Option Addr) (cap ccap : Nat) (F : List Fl) (ss : List ByteArray) (fuel : Int) (w : World) (hl : IsFl w ao F) (ht : TxAt w co ss) (he : Env w) (hlen : ss.length ≤ 4611686018427387904) (hf1 : -9223372036854775808 ≤ fuel) (hf2 : fuel ≤ 9223372036854775807) :
    Calls Tryz.prog 6 #[.slice ao F.length cap, .slice co ss.length ccap, .int .i64 fuel] w fun e w' => e = .returned (.bool true) ∧ Below w.heap.size w w' := by
  have HBg : Hid (Calls Tryz.prog 11 #[] w fun e w' => e = .returned (.bool true) ∧ Hid (Below w.heap.size w w')) := sbegun_any w he.1
  have run : ∀ (W : World), Below w.heap.size w W → Calls Tryz.prog 9 #[.slice ao F.length cap, .slice co ss.length ccap, .int .i64 fuel] W (RuP F ss fuel W) := fun W hW => RunC ao co cap ccap F ss fuel W (hl.below hW (Nat.le_refl _)) (ht.below hW) (he.up hW) hlen hf1 hf2
  have HR1 : Hid (∀ W, Hid (Below w.heap.size w W) → Calls Tryz.prog 9 #[.slice ao F.length cap, .slice co ss.length ccap, .int .i64 fuel] W fun e w' => ∃ ra rc, e = .returned (.tuple #[.slice ra (rnL F ss fuel).length rc, .int .i64 (rnC F ss fuel : Int), .int .i64 (rnS F ss fuel : Int), .int .i64 (rnE F ss fuel)]) ∧ Hid (Below w.heap.size w w' ∧ IsFl w' ra (rnL F ss fuel))) := fun W hW => (run W hW.out).mono fun e w' ⟨ra, rc, q1, q2, q3⟩ => ⟨ra, rc, q1, below_low hW.out q3.out hW.out.size, q2.out⟩
  by_cases h0 : rnE F ss fuel = 0
  · have htr := rn_tree F ss fuel
    have hln := htr.ln
    have HCod : Hid (rnC F ss fuel ≤ 99 ∨ (101 ≤ rnC F ss fuel ∧ rnC F ss fuel ≤ 104)) := rn_cod F ss fuel
    have HMd : Hid (∀ x ∈ rnL F ss fuel, ss.any (mkd x) = true) := fun x hx => rn_made h0 hx
    have hck : (chkF ss).2 = 0 := by obtain ⟨_, _, _, _, hck⟩ := rn_zero h0; exact hck
    have HCk : Hid (∀ (W : World) ra rc, Hid (Below w.heap.size w W ∧ IsFl W ra (rnL F ss fuel)) → Calls Tryz.prog 13 #[.slice ra (rnL F ss fuel).length rc] W fun e w' => e = .returned (.int .i64 0) ∧ Hid (Below w.heap.size w w')) := fun W ra rc h => (Check_any ra rc _ W h.out.2 (he.up h.out.1).1).mono fun e w' q => ⟨by rw [q.1, htr.ch], below_low h.out.1 q.2 h.out.1.size⟩
    have HTx : Hid (∀ W, Below w.heap.size w W → TxAt W co ss) := fun W hW => ht.below hW
    have HWd : Hid (∀ (k : Nat) (hk : k < ss.length) (W : World), Calls Tryz.prog 17 #[.string ss[k]] W fun e w' => ∃ g cap, e = .returned (.slice (some ⟨g, 0, none⟩) (wdL [] ss[k].data.toList).length cap) ∧ Hid (WdAt w' g (wdL [] ss[k].data.toList)) ∧ Hid (Below W.heap.size W w')) := fun k hk W => WordsC ss[k] W (chk_all hck (List.getElem_mem hk)).1
    have HLn : Hid (∀ (k : Nat) (hk : k < ss.length), ((wdL [] ss[k].data.toList).getD 0 [] = [109, 97, 107, 101] ∨ (wdL [] ss[k].data.toList).getD 0 [] = [114, 117, 110]) → (wdL [] ss[k].data.toList).length = 3) := fun k hk => mkd_words hck (List.getElem_mem hk)
    have HSS : Hid (ss.length ≤ 60) := (lns_ok hck).1
    have hssi : (ss.length : Int) ≤ 60 := by have := HSS.out; omega
    rw [h0] at HR1
    generalize rnL F ss fuel = X at *
    generalize rnC F ss fuel = C at *
    generalize rnS F ss fuel = S at *
    have hxi : (X.length : Int) ≤ 60 := by omega
    have HXL : Hid (X.length ≤ 60) := hln
    clear run hl ht he hlen htr h0 hck hln
    go_enter Tryz.func6, Tryz.ntmps6
    go_wp2_with (first
      | (go_at_call 11; refine HBg.out.mono ?_; rintro e w1 ⟨rfl, H1⟩)
      | (go_at_call 9; refine (HR1.out _ H1).mono ?_; rintro e w2 ⟨ra, rc, rfl, H2⟩)
      | go_in)
    go_loopw [11] (fun i wr => ∃ k : Nat, k ≤ X.length ∧ i = .int .i64 (k : Int) ∧ Hid (Below w.heap.size w wr ∧ IsFl wr ra X)) (fun i _ => X.length - (intOf i).toNat)
    case atStart => exact ⟨0, Nat.zero_le _, rfl, H2⟩
    case round =>
      obtain ⟨i, hi, rfl, HI⟩ := hrel
      by_cases hlt : i < X.length
      · have hii : (i : Int) < (X.length : Int) := by omega
        have HAny : Hid (ss.any (mkd X[i]) = true) := HMd.out _ (List.getElem_mem hlt)
        obtain ⟨x, hx⟩ : ∃ x, X[i] = x := ⟨_, rfl⟩
        rw [hx] at HAny
        have HFx : Hid (∀ W, IsFl W ra X → ∃ g o, ra = some ⟨g, o, none⟩ ∧ W.cell? ⟨g, o + i * 3, none⟩ = some (.string x.pa) ∧ W.cell? ⟨g, o + i * 3 + 2, none⟩ = some (.bool x.rn)) := fun W hW => by
          rcases hW with h | ⟨g, o, e, _, hc⟩
          · rw [h] at hlt; simp at hlt
          · have := hc i hlt
            rw [hx] at this
            exact ⟨g, o, e, this.1, this.2.2⟩
        clear hx
        obtain ⟨w3, hw3⟩ : ∃ w3, w3 = wr := ⟨wr, rfl⟩
        rw [← hw3] at HI ⊢
        clear hw3
        go_wp2
        go_loopw [12, 13] (fun nm kv wr => ∃ k : Nat, k ≤ ss.length ∧ nm = .bool ((ss.take k).any (mkd x)) ∧ kv = .int .i64 (k : Int) ∧ Hid (Below w.heap.size w wr ∧ IsFl wr ra X)) (fun _ kv _ => ss.length - (intOf kv).toNat)
        case atStart => exact ⟨0, Nat.zero_le _, rfl, rfl, HI⟩
        case round =>
          obtain ⟨k, hk, rfl, rfl, HJ⟩ := hrel
          by_cases hkl : k < ss.length
          · have hki : (k : Int) < (ss.length : Int) := by omega
            have HSn0 : Hid ((ss.take (k + 1)).any (mkd x) = ((ss.take k).any (mkd x) || mkd x ss[k])) := any_snoc ss hkl
            have HMk : Hid (mkd x ss[k] = (((decide ((wdL [] ss[k].data.toList).getD 0 [] = [109, 97, 107, 101]) && !x.rn) || (decide ((wdL [] ss[k].data.toList).getD 0 [] = [114, 117, 110]) && x.rn)) && decide ((wdL [] ss[k].data.toList).getD 1 [] = pth x))) := rfl
            obtain ⟨tg, to, rfl, htg, htc⟩ := (HTx.out _ HJ.out.1).get hkl
            have hW0 := HWd.out k hkl
            have hL0 := HLn.out k hkl
            have hnz : (wdL [] ss[k].data.toList).length ≠ 0 := fun e => wdL_ne _ _ (List.length_eq_zero_iff.1 e)
            generalize ss[k] = s at *
            generalize wdL [] s.data.toList = ws at *
            obtain ⟨xg, xo, rfl, xc0, xc2⟩ := HFx.out _ HJ.out.2
            have HWk : Hid (Calls Tryz.prog 17 #[.string s] wr fun e w' => ∃ g cap, e = .returned (.slice (some ⟨g, 0, none⟩) ws.length cap) ∧ w'.cell? ⟨g, 0, none⟩ = some (.string (bA (ws.getD 0 []))) ∧ (Hid (2 ≤ ws.length → w'.cell? ⟨g, 1, none⟩ = some (.string (bA (ws.getD 1 []))))) ∧ (w'.cell? ⟨xg, xo + i * 3, none⟩ = some (.string x.pa) ∧ w'.cell? ⟨xg, xo + i * 3 + 2, none⟩ = some (.bool x.rn)) ∧ Hid (Below w.heap.size w w' ∧ IsFl w' (some ⟨xg, xo, none⟩) X)) := (hW0 wr).mono fun e w' ⟨g, cap, q1, q2, q3⟩ => by
              have hF2 := HJ.out.2.up q3.out
              obtain ⟨g2, o2, e2, y0, y2⟩ := HFx.out _ hF2
              injection e2 with e2
              injection e2 with e3 e4
              subst e3 e4
              exact ⟨g, cap, q1, q2.out 0 (by omega), fun h => q2.out 1 (by omega), ⟨y0, y2⟩, below_low HJ.out.1 q3.out HJ.out.1.size, hF2⟩
            have hbm := eqb (ws.getD 0 []) [109, 97, 107, 101]
            have hbr := eqb (ws.getD 0 []) [114, 117, 110]
            have hbe : ((bA (ws.getD 1 [])).toList == x.pa.toList) = decide (ws.getD 1 [] = pth x) := by rw [Lib.toList_data x.pa]; exact eqb _ _
            have hboth : ¬ (ws.getD 0 [] = [109, 97, 107, 101] ∧ ws.getD 0 [] = [114, 117, 110]) := fun h => by rw [h.1] at h; exact absurd h.2 (by decide)
            have HL0 : Hid ((ws.getD 0 [] = [109, 97, 107, 101] ∨ ws.getD 0 [] = [114, 117, 110]) → ws.length = 3) := hL0
            generalize bA (ws.getD 0 []) = b0 at *
            generalize bA (ws.getD 1 []) = b1 at *
            generalize (ss.take k).any (mkd x) = nm at *
            have hwl : (0 : Int) < (ws.length : Int) := by omega
            obtain ⟨xp, xt, xr⟩ := x
            simp only at HWk HMk hbe xc0 xc2
            generalize ws.length = wn at *
            cases nm with
            | true =>
              have HSn : Hid ((ss.take (k + 1)).any (mkd ⟨xp, xt, xr⟩) = true) := by show _ = true; rw [HSn0.out]; simp
              clear hbm hbr hbe hboth
              go_wp2_with (first
                | (go_at_call 17; refine HWk.out.mono ?_; rintro e w4 ⟨wg, wc, rfl, q0, Q1, ⟨y0, y2⟩, H4⟩)
                | go_in)
              go_quiet (fail)
              go_wp2
              refine ⟨⟨k + 1, hkl, by rw [HSn.out], by go_num, dn_keep H4 _⟩, ?_⟩
              simp [intOf]; omega
            | false =>
              by_cases hm : ws.getD 0 [] = [109, 97, 107, 101]
              · have hr : ¬ ws.getD 0 [] = [114, 117, 110] := fun h => hboth ⟨hm, h⟩
                have HN3 : Hid (wn = 3) := HL0.out (.inl hm)
                have hw1 : (1 : Int) < (wn : Int) := by have := HN3.out; omega
                rw [decide_eq_true hm] at hbm HMk
                rw [decide_eq_false hr] at hbr HMk
                cases xr with
                | true =>
                  have HSn : Hid ((ss.take (k + 1)).any (mkd ⟨xp, xt, true⟩) = false) := by show _ = false; rw [HSn0.out, HMk.out]; simp
                  clear hm hr hboth hbe
                  go_wp2_with (first
                    | (go_at_call 17; refine HWk.out.mono ?_; rintro e w4 ⟨wg, wc, rfl, q0, Q1, ⟨y0, y2⟩, H4⟩)
                    | go_in)
                  go_quiet (fail)
                  go_wp2
                  refine ⟨⟨k + 1, hkl, by rw [HSn.out], by go_num, dn_keep H4 _⟩, ?_⟩
                  simp [intOf]; omega
                | false =>
                  generalize decide (ws.getD 1 [] = pth ⟨xp, xt, false⟩) = be at *
                  have HSn : Hid ((ss.take (k + 1)).any (mkd ⟨xp, xt, false⟩) = be) := by show _ = be; rw [HSn0.out, HMk.out]; simp
                  clear hm hr hboth
                  cases be with
                  | true =>
                    go_wp2_with (first
                      | (go_at_call 17; refine HWk.out.mono ?_; rintro e w4 ⟨wg, wc, rfl, q0, Q1, ⟨y0, y2⟩, H4⟩; have q1 := Q1.out (by have := HN3.out; omega))
                      | go_in)
                    go_quiet (fail)
                    go_wp2
                    refine ⟨⟨k + 1, hkl, by rw [HSn.out], by go_num, dn_keep H4 _⟩, ?_⟩
                    simp [intOf]; omega
                  | false =>
                    go_wp2_with (first
                      | (go_at_call 17; refine HWk.out.mono ?_; rintro e w4 ⟨wg, wc, rfl, q0, Q1, ⟨y0, y2⟩, H4⟩; have q1 := Q1.out (by have := HN3.out; omega))
                      | go_in)
                    go_quiet (fail)
                    go_wp2
                    refine ⟨⟨k + 1, hkl, by rw [HSn.out], by go_num, dn_keep H4 _⟩, ?_⟩
                    simp [intOf]; omega
              · rw [decide_eq_false hm] at hbm HMk
                by_cases hr : ws.getD 0 [] = [114, 117, 110]
                · have HN3 : Hid (wn = 3) := HL0.out (.inr hr)
                  have hw1 : (1 : Int) < (wn : Int) := by have := HN3.out; omega
                  rw [decide_eq_true hr] at hbr HMk
                  cases xr with
                  | false =>
                    have HSn : Hid ((ss.take (k + 1)).any (mkd ⟨xp, xt, false⟩) = false) := by show _ = false; rw [HSn0.out, HMk.out]; simp
                    clear hm hr hboth hbe
                    go_wp2_with (first
                      | (go_at_call 17; refine HWk.out.mono ?_; rintro e w4 ⟨wg, wc, rfl, q0, Q1, ⟨y0, y2⟩, H4⟩)
                      | go_in)
                    go_quiet (fail)
                    go_wp2
                    refine ⟨⟨k + 1, hkl, by rw [HSn.out], by go_num, dn_keep H4 _⟩, ?_⟩
                    simp [intOf]; omega
                  | true =>
                    generalize decide (ws.getD 1 [] = pth ⟨xp, xt, true⟩) = be at *
                    have HSn : Hid ((ss.take (k + 1)).any (mkd ⟨xp, xt, true⟩) = be) := by show _ = be; rw [HSn0.out, HMk.out]; simp
                    clear hm hr hboth
                    cases be with
                    | true =>
                      go_wp2_with (first
                        | (go_at_call 17; refine HWk.out.mono ?_; rintro e w4 ⟨wg, wc, rfl, q0, Q1, ⟨y0, y2⟩, H4⟩; have q1 := Q1.out (by have := HN3.out; omega))
                        | go_in)
                      go_quiet (fail)
                      go_wp2
                      refine ⟨⟨k + 1, hkl, by rw [HSn.out], by go_num, dn_keep H4 _⟩, ?_⟩
                      simp [intOf]; omega
                    | false =>
                      go_wp2_with (first
                        | (go_at_call 17; refine HWk.out.mono ?_; rintro e w4 ⟨wg, wc, rfl, q0, Q1, ⟨y0, y2⟩, H4⟩; have q1 := Q1.out (by have := HN3.out; omega))
                        | go_in)
                      go_quiet (fail)
                      go_wp2
                      refine ⟨⟨k + 1, hkl, by rw [HSn.out], by go_num, dn_keep H4 _⟩, ?_⟩
                      simp [intOf]; omega
                · rw [decide_eq_false hr] at hbr HMk
                  have HSn : Hid ((ss.take (k + 1)).any (mkd ⟨xp, xt, xr⟩) = false) := by show _ = false; rw [HSn0.out, HMk.out]; simp
                  clear hm hr hboth hbe
                  go_wp2_with (first
                    | (go_at_call 17; refine HWk.out.mono ?_; rintro e w4 ⟨wg, wc, rfl, q0, Q1, ⟨y0, y2⟩, H4⟩)
                    | go_in)
                  go_quiet (fail)
                  go_wp2
                  refine ⟨⟨k + 1, hkl, by rw [HSn.out], by go_num, dn_keep H4 _⟩, ?_⟩
                  simp [intOf]; omega
          · obtain rfl : k = ss.length := by omega
            have hall : (ss.take ss.length).any (mkd x) = true := by rw [List.take_length]; exact HAny.out
            rw [hall]
            go_wp2
            refine ⟨⟨i + 1, hlt, by go_num, HJ⟩, ?_⟩
            simp [intOf]; omega
      · obtain rfl : i = X.length := by omega
        have hCk := fun rc => HCk.out wr ra rc HI
        rcases HCod.out with hc | ⟨hc, hc2⟩
        · have hci : (C : Int) ≤ 99 := by omega
          go_wp2_with (first
            | (go_at_call 13; refine (hCk _).mono ?_; rintro e w5 ⟨rfl, H5⟩)
            | go_in)
          go_ret
          exact ⟨by first | rfl | simp, H5.out⟩
        · have hci : (101 : Int) ≤ (C : Int) := by omega
          have hci2 : (C : Int) ≤ 104 := by omega
          have hci3 : ¬ (C : Int) ≤ 99 := by omega
          go_wp2_with (first
            | (go_at_call 13; refine (hCk _).mono ?_; rintro e w5 ⟨rfl, H5⟩)
            | go_in)
          go_ret
          exact ⟨by first | rfl | simp, H5.out⟩
  · have hX : rnL F ss fuel = [] := by unfold rnL; rw [if_neg h0]
    rw [hX] at HR1
    generalize rnE F ss fuel = E at *
    generalize rnC F ss fuel = C at *
    generalize rnS F ss fuel = S at *
    have hE : (E == 0) = false := by simpa using h0
    rw [show ([] : List Fl).length = 0 from rfl] at HR1
    clear run hl ht he hlen
    go_enter Tryz.func6, Tryz.ntmps6
    go_wp2_with (first
      | (go_at_call 11; refine HBg.out.mono ?_; rintro e w1 ⟨rfl, H1⟩)
      | (go_at_call 9; refine (HR1.out _ H1).mono ?_; rintro e w2 ⟨ra, rc, rfl, H2⟩)
      | go_in)
    go_ret
    exact ⟨by first | rfl | simp, H2.out.1⟩

set_option maxRecDepth 100000 in
theorem makes_walk_lifted (os : Os) (started : os.Started) (H : Type) (enc : TypeId × Value → H) :
    ReturnsInHanded {} Tryz.checked os 6 .any (fun w args => (Rows.sandboxMakesSpec.pre enc Tryz.prog Tryz.f6 Rows.sandboxMakesRow.domain false w args ∧ laidMetH Tryz.prog Rows.sandboxMakesRow.laid w) ∧ sizedMet enc Tryz.prog Tryz.f6 (OpenSpec.ofChange Rows.sandboxMakesSpec) false w args)
      (Rows.sandboxMakesSpec.post enc Tryz.prog Tryz.f6 false true false false) := by
  refine returns_laid own started (by kernel_rfl) Tryz.func6
    (ChangeSpec.witness_shaped (enc := enc) (C := Tryz.checked) (os := os) (X := fun w _ => laidMetH Tryz.prog Rows.sandboxMakesRow.laid w) false (World.laidAll Tryz.prog os Rows.sandboxMakesRow.laid) #[.slice none 0 0, .slice none 0 0, .int .i64 0] 8 (World.laidAll_os _ _ _)
      (World.shaped_of_ZipB (by kernel_rfl) (by kernel_rfl)) (by kernel_rfl) (by kernel_rfl) (by kernel_rfl)
      (by rw [MakeChecks.laidMetH_plain _ _ _ (by kernel_rfl)]; exact laidMet_laidAll _ (by kernel_rfl) (by kernel_rfl))) ?_
  intro W base args ds gs before hval0 hW hsz0 lies shape
  have hval : ∀ (j : Nat) t v, Tryz.f6.params[j]? = some t → args[j]? = some v → Value.okWide Tryz.prog W .any base t v := hval0
  have hW' := hW
  obtain ⟨p, q, hA0, hV, rfl, hfz, hnd⟩ := hW
  have hA : DataW.TrodAll enc Tryz.prog W 0 (fun _ => true) true Tryz.f6.params.toList args.toList ds p := hA0
  have hsz : (DataW.weightsEach Tryz.prog (Tryz.f6.params.toList ++ Rows.sandboxMakesSpec.plain.varTypes Tryz.prog) (ds ++ gs)).all (· ≤ reachBytes) = true := hsz0
  rw [Tryz.params6] at hA hval hsz
  obtain ⟨v0, v1, v2, d0, d1, d2, p0, p1, p2, rfl, rfl, rfl, h0, h1, h2⟩ := trodAll_three hA
  obtain ⟨rfl, rfl⟩ := trodVars_none hV
  obtain ⟨L0, ao0, cap0, rfl, hf0, hn0⟩ := arg_files (hval 0 22 v0 rfl rfl) h0 (arg_lenF hsz 0 d0 rfl rfl)
  have lt0 : ∀ x ∈ p0, x.block < W.heap.size := by obtain ⟨m, hm⟩ := h0; exact DataW.trod_lt m _ _ _ hm
  obtain ⟨ss1, i1⟩ := arg_texts (hval 1 23 v1 rfl rfl) h1 (arg_len hsz 1 d1 rfl rfl)
  obtain ⟨hn1, co1, cc1, rfl, ht1⟩ := tx_of i1
  have lt1 : ∀ x ∈ p1, x.block < W.heap.size := by obtain ⟨m, hm⟩ := h1; exact DataW.trod_lt m _ _ _ hm
  obtain ⟨a2, rfl, rfl, rfl, w2⟩ := open_int Tryz.underlying3 (hval 2 3 v2 rfl rfl) h2
  have r2 : -9223372036854775808 ≤ a2 ∧ a2 ≤ 9223372036854775807 := by simpa [Lit.wf, IntKind.min, IntKind.max, IntKind.signed, IntKind.bits] using w2
  clear hA0 hval0
  refine (makes_walk ao0 co1 cap0 cc1 L0 ss1 a2 W hf0 ht1 (env_of lies shape) hn1 r2.1 r2.2).mono fun e W' ⟨he, bel⟩ => ?_
  subst he
  exact ⟨_, rfl, _, _, _, [], _, [], hW', trodAll_mk1 (shut_bool Tryz.underlying4 _), trodAll_mk3 (Below.trod laidOut (by kernel_rfl) (of_decide_eq_true (by kernel_rfl)) h0 bel lt0) (Below.trod laidOut (by kernel_rfl) (of_decide_eq_true (by kernel_rfl)) h1 bel lt1) (shut_int Tryz.underlying3 w2), rfl, bel.frame _, fun h => by cases h⟩

theorem sandboxMakes_row : Rows.SandboxMakesSaid :=
  OpenClaim.holds_of_wide 6 Tryz.f6 rfl rfl rfl rfl rfl rfl rfl ⟨rfl, rfl, rfl, rfl, rfl⟩ rfl rfl rfl rfl rfl (by kernel_rfl) Tryz.func6 (by kernel_rfl)
    (of_decide_eq_true (by kernel_rfl)) (by unfold Func.isWrapper; first | (rw [if_pos (by decide +kernel)]; kernel_rfl) | (rw [if_neg (by decide +kernel)]; exact ⟨rfl, rfl⟩))
    (fun os started H enc _ => makes_walk_lifted os started H enc)

theorem sandboxMakes_holds : Rows.SandboxMakesCardSaid :=
  Claim7.holds_tied_plain_at .later [] Rows.sandboxMakesCard.laidKinds true Rows.sandboxMakesCard.stood.harness false
    sandboxMakes_row (fun _ h => by cases h) (by kernel_rfl) (fun _ h => by cases h) sandboxMakes_row_tie rfl ⟨rfl, rfl⟩ (by kernel_rfl) rfl
    (fun f fn hf hfn => by
      obtain rfl : f = 6 := Option.some.inj ((show Tryz.prog.funcNamed Rows.sandboxMakesRow.func = some 6 by kernel_rfl).symm.trans hf) |>.symm
      obtain rfl : fn = Tryz.f6 := (Option.some.inj (Tryz.func6.symm.trans hfn)).symm
      exact ⟨by kernel_rfl, fun j t ht => by
        rw [Tryz.params6] at ht
        have hm : t ∈ [22, 23, 3] := by simpa using Array.mem_of_getElem? ht
        have hall : ([22, 23, 3].all fun u => !Tryz.prog.wantsStandIn u) = true := by kernel_rfl
        exact (show Tryz.prog.wantsStandIn t = false by simpa using List.all_eq_true.1 hall t hm)⟩)
    (by kernel_rfl)
#print axioms sandboxMakes_holds
end Go.Proofs.YtapiedeekbfpnaaGreatDoor
