/- TreeLays holds, its listed variables tied to the program's text: for every three lists of files that can be read: what lies over what lies over is the same in whatever order one lays; what lies over differs from what it lay on in nothing but its paths; all three read behind the call as they read before; no condition of ours. -/
import Derived.Test.YtelcflmjagjbfaaGreatDoorTe8
namespace Go.Proofs.YtelcflmjagjbfaaGreatDoor
open Go.ChangeShapes Go.WideShapes Go.ChangeAt Go.RowKit Go.Shelf Go.Sort
open Go.ChangeMaps (open_string shut_string)

theorem laidOut : laidOutB Tryz.prog = true := by kernel_rfl

set_option maxHeartbeats 8000000 in
set_option maxRecDepth 100000 in
theorem treeLays_walk (ao bo co : Option Addr) (ac bc cc : Nat) (A B C : List Fl) (w : World) (ha : IsFl w ao A) (hb : IsFl w bo B) (hc : IsFl w co C) (he : Env w) :
    Calls Tryz.prog 7 #[.slice ao A.length ac, .slice bo B.length bc, .slice co C.length cc] w fun e w' => e = .returned (.bool true) ∧ Below w.heap.size w w' := by
  have HT : Hid (Calls Tryz.prog 12 #[] w fun e w' => e = .returned (.bool true) ∧ Below w.heap.size w w') := treeBegun_any w he
  have HAB : Hid (∀ W, Below w.heap.size w W → Calls Tryz.prog 14 #[.slice ao A.length ac, .slice bo B.length bc] W (FsP (ovE A B) (ovL A B) W)) := fun W hW => OverC ao bo ac bc A B W (ha.up hW) (hb.up hW) (he.up hW).1
  have HBC : Hid (∀ W, Below w.heap.size w W → Calls Tryz.prog 14 #[.slice bo B.length bc, .slice co C.length cc] W (FsP (ovE B C) (ovL B C) W)) := fun W hW => OverC bo co bc cc B C W (hb.up hW) (hc.up hW) (he.up hW).1
  by_cases h1 : ovE A B = 0
  · by_cases h2 : ovE B C = 0
    · obtain ⟨hA, hB, _, _, _⟩ := ovE_zero h1
      obtain ⟨_, hC, _, _, _⟩ := ovE_zero h2
      have hTAB := ov_tree h1
      have hTBC := ov_tree h2
      rw [h1, ovL_ok h1] at HAB
      rw [h2, ovL_ok h2] at HBC
      have HX : Hid (∀ (xa : Option Addr) (xc : Nat) (W : World), Below w.heap.size w W → IsFl W xa (ovF A B) → Calls Tryz.prog 14 #[.slice xa (ovF A B).length xc, .slice co C.length cc] W (FsP (ovE (ovF A B) C) (ovL (ovF A B) C) W)) := fun xa xc W hW h => OverC xa co xc cc _ C W h (hc.up hW) (he.up hW).1
      have HY : Hid (∀ (xa : Option Addr) (xc : Nat) (W : World), Below w.heap.size w W → IsFl W xa (ovF B C) → Calls Tryz.prog 14 #[.slice ao A.length ac, .slice xa (ovF B C).length xc] W (FsP (ovE A (ovF B C)) (ovL A (ovF B C)) W)) := fun xa xc W hW h => OverC ao xa ac xc A _ W (ha.up hW) h (he.up hW).1
      have HXY : Hid (ovE (ovF A B) C = 0 → ovE A (ovF B C) = 0 → ovL (ovF A B) C = ovL A (ovF B C) ∧ (ovL (ovF A B) C).length ≤ 60) := fun e1 e2 => by
        rw [ovL_ok e1, ovL_ok e2]
        exact ⟨ov_assoc hA hC hTAB hTBC, (ov_tree e1).1⟩
      have her : erF A (ovF A B) = 0 := by unfold erF; rw [chF_ok hA, if_pos rfl, chF_ok hTAB]
      have hdl : dfL A (ovF A B) = difF A (ovF A B) := by unfold dfL; rw [if_pos her]
      have HD : Hid (∀ (xa : Option Addr) (xc : Nat) (W : World), Below w.heap.size w W → IsFl W xa (ovF A B) → Calls Tryz.prog 17 #[.slice ao A.length ac, .slice xa (ovF A B).length xc] W fun e w' => ∃ da dc, e = .returned (.tuple #[.slice da (difF A (ovF A B)).length dc, .int .i64 0]) ∧ w'.ownsRow W.heap.size 9 1 (.slice da (difF A (ovF A B)).length dc) (difF A (ovF A B)).length ((difF A (ovF A B)).map encStr) ∧ Below W.heap.size W w') := fun xa xc W hW h => by
        have := Differs_any ao xa ac xc A (ovF A B) W (ha.up hW) h (he.up hW).1
        unfold DfP at this
        rw [hdl, her] at this
        exact this
      have HDl : Hid ((difF A (ovF A B)).length ≤ 1000000) := by
        show _ ≤ _
        rw [dif_same]
        refine Nat.le_trans (addAll_len _) ?_
        rw [List.length_append]
        have h3 := othF_len A (ovF A B)
        have h4 := othF_len (ovF A B) A
        have := hA.1
        have := hTAB.1
        omega
      have HFa : Hid (∀ (k : Nat) (hk : k < (difF A (ovF A B)).length) (W : World), Below w.heap.size w W → Calls Tryz.prog 21 #[.slice bo B.length bc, .string ⟨((difF A (ovF A B))[k]).toArray⟩] W fun e w' => ∃ j : Nat, e = .returned (.int .i64 (j : Int)) ∧ w' = W) := fun k hk W hW => by
        refine (FileAt_any bo bc B _ W (hb.up hW) (by have := hB.1; omega)).mono ?_
        rintro e w' ⟨i, rfl, hfa, rfl⟩
        rcases hfa with ⟨_, hno⟩ | ⟨j, _, rfl, _⟩
        · obtain ⟨f, hf, e⟩ := (hasP_iff _ _).1 (ov_differs h1 (List.getElem_mem hk))
          exact absurd e (hno f hf)
        · exact ⟨j, rfl, rfl⟩
      obtain ⟨a1, a2⟩ := ov_again h1
      have HAg : Hid (∀ (xa : Option Addr) (xc : Nat) (W : World), Below w.heap.size w W → IsFl W xa (ovF A B) → Calls Tryz.prog 14 #[.slice xa (ovF A B).length xc, .slice bo B.length bc] W (FsP 0 (ovF A B) W)) := fun xa xc W hW h => by
        have := OverC xa bo xc bc _ B W h (hb.up hW) (he.up hW).1
        rw [a1, ovL_ok a1, a2] at this
        exact this
      have HSm : Hid (∀ (xa ya : Option Addr) (xc yc : Nat) (W : World), IsFl W xa (ovF A B) → IsFl W ya (ovF A B) → Calls Tryz.prog 20 #[.slice xa (ovF A B).length xc, .slice ya (ovF A B).length yc] W fun e w' => e = .returned (.bool true) ∧ Hid (Below W.heap.size W w')) := fun xa ya xc yc W h1 h2 => SameC xa ya xc yc _ W hTAB.1 h1 h2
      clear ha hb hc he hA hB hC hTAB hTBC h1 h2 her hdl a1 a2
      generalize ovF A B = X at *
      generalize ovF B C = Y at *
      generalize difF A X = D at *
      go_enter Tryz.func7, Tryz.ntmps7
      go_wp2_with fail
      refine HT.out.mono ?_
      rintro e w1 ⟨rfl, hb1⟩
      have HB1 : Hid (Below w.heap.size w w1) := hb1
      clear hb1
      go_wp2_with fail
      refine (HAB.out _ HB1.out).mono ?_
      rintro e w2 ⟨xa, xc, rfl, HX2, hb2⟩
      have HB2 : Hid (Below w.heap.size w w2) := HB1.out.trans (hb2.out.mono HB1.out.size)
      clear hb2
      go_wp2_with fail
      refine (HBC.out _ HB2.out).mono ?_
      rintro e w3 ⟨ya, yc, rfl, HY3, hb3⟩
      have HB3 : Hid (Below w.heap.size w w3) := HB2.out.trans (hb3.out.mono HB2.out.size)
      have HX3 : Hid (IsFl w3 xa X) := HX2.out.up hb3.out
      clear hb3
      go_wp2_with fail
      refine (HX.out _ _ _ HB3.out HX3.out).mono ?_
      rintro e w4 ⟨pa, pc, rfl, HP4, hb4⟩
      have HB4 : Hid (Below w.heap.size w w4) := HB3.out.trans (hb4.out.mono HB3.out.size)
      have HX4 : Hid (IsFl w4 xa X) := HX3.out.up hb4.out
      have HY4 : Hid (IsFl w4 ya Y) := HY3.out.up hb4.out
      clear hb4
      go_wp2_with fail
      refine (HY.out _ _ _ HB4.out HY4.out).mono ?_
      rintro e w5 ⟨qa, qc, rfl, HQ5, hb5⟩
      have HB5 : Hid (Below w.heap.size w w5) := HB4.out.trans (hb5.out.mono HB4.out.size)
      have HX5 : Hid (IsFl w5 xa X) := HX4.out.up hb5.out
      have HP5 : Hid (IsFl w5 pa (ovL X C)) := HP4.out.up hb5.out
      clear hb5 HAB HBC HT HX HY HX2 HX3 HX4 HY3 HY4 HP4
      have fin : ∀ (W : World) (zz : World → Prop), True := fun _ _ => trivial
      clear fin
      by_cases e1 : ovE X C = 0
      · by_cases e2 : ovE A Y = 0
        · obtain ⟨h3, h4⟩ := HXY.out e1 e2
          rw [← h3] at HQ5 ⊢
          have HSx : Hid (Calls Tryz.prog 20 #[.slice pa (ovL X C).length pc, .slice qa (ovL X C).length qc] w5 fun e w' => e = .returned (.bool true) ∧ Hid (Below w5.heap.size w5 w')) := SameC pa qa pc qc _ w5 h4 HP5.out HQ5.out
          rw [e1, e2]
          clear e1 e2 h3 h4 HXY
          go_wp2_with fail
          refine HSx.out.mono ?_
          rintro e w6 ⟨rfl, hb6⟩
          have HB6 : Hid (Below w.heap.size w w6) := HB5.out.trans (hb6.out.mono HB5.out.size)
          have HX6 : Hid (IsFl w6 xa X) := HX5.out.up hb6.out
          clear hb6 HSx HP5 HQ5
          go_wp2_with fail
          refine (HD.out _ _ _ HB6.out HX6.out).mono ?_
          rintro e w7 ⟨da, dc, rfl, hd7, hb7⟩
          have HB7 : Hid (Below w.heap.size w w7) := HB6.out.trans (hb7.mono HB6.out.size)
          have HX7 : Hid (IsFl w7 xa X) := HX6.out.up hb7
          have HD7 : Hid (w7.ownsRow w6.heap.size 9 1 (.slice da D.length dc) D.length (D.map encStr)) := hd7
          have hdi : (D.length : Int) ≤ 1000000 := by have := HDl.out; omega
          clear hb7 hd7 HD
          go_wp2
          go_loopw [14] (fun i wr => ∃ k : Nat, k ≤ D.length ∧ i = .int .i64 (k : Int) ∧ wr = w7) (fun i _ => D.length - (RowKit.intOf i).toNat)
          case atStart => exact ⟨0, Nat.zero_le _, rfl, rfl⟩
          case round =>
            obtain ⟨k, hk, rfl, rfl⟩ := hrel
            by_cases hlt : k < D.length
            · have hki : (k : Int) < (D.length : Int) := by omega
              obtain ⟨k1, hk1⟩ : ∃ k1, k1 = k + 1 := ⟨_, rfl⟩
              have ek1 : (k : Int) + 1 = (k1 : Int) := by omega
              have ek2 : IntKind.i64.wrap (k1 : Int) = (k1 : Int) := by rw [IntKind.wrap_i64]; omega
              have HK1 : Hid (k1 = k + 1 ∧ k < D.length) := ⟨hk1, hlt⟩
              obtain ⟨g, dc', hv, _, _⟩ := HD7.out.form (by omega)
              cases hv
              have c0 : wr.cell? ⟨g, k, none⟩ = some (.string ⟨(D[k]).toArray⟩) := by
                refine (HD7.out.cellAt k (by omega)).trans ?_
                rw [List.getElem?_map, List.getElem?_eq_getElem hlt]
                rfl
              have HFk : Hid (Calls Tryz.prog 21 #[.slice bo B.length bc, .string ⟨(D[k]).toArray⟩] wr fun e w' => ∃ j : Nat, e = .returned (.int .i64 (j : Int)) ∧ w' = wr) := HFa.out k hlt wr HB7.out
              generalize (⟨(D[k]).toArray⟩ : ByteArray) = s at c0 HFk
              clear hk1 hk hlt
              go_wp2_with fail
              refine HFk.out.mono ?_
              rintro e w8 ⟨j, rfl, hw8⟩
              subst hw8
              have hj0 : ¬ (j : Int) < 0 := by omega
              go_wp2
              refine ⟨⟨k1, by have := HK1.out; omega, rfl, trivial⟩, ?_⟩
              have := HK1.out
              simp [RowKit.intOf]; omega
            · obtain rfl : k = D.length := by omega
              have k3 : ¬ (D.length : Int) < (D.length : Int) := by omega
              clear hk hlt
              go_wp2_with fail
              refine (HAg.out _ _ _ HB7.out HX7.out).mono ?_
              rintro e w8 ⟨za, zc, rfl, HZ8, hb8⟩
              have HB8 : Hid (Below w.heap.size w w8) := HB7.out.trans (hb8.out.mono HB7.out.size)
              have HX8 : Hid (IsFl w8 xa X) := HX7.out.up hb8.out
              clear hb8
              go_wp2_with fail
              refine (HSm.out _ _ _ _ _ HZ8.out HX8.out).mono ?_
              rintro e w9 ⟨rfl, hb9⟩
              have HB9 : Hid (Below w.heap.size w w9) := HB8.out.trans (hb9.out.mono HB8.out.size)
              clear hb9
              go_wp2
              go_ret
              exact ⟨rfl, HB9.out⟩
        · have e3 : (ovE A Y == 0) = false := by simpa using e2
          rw [e1]
          generalize ovE A Y = c2 at *
          clear e1 e2 HXY HP5 HQ5
          have HB6 : Hid (Below w.heap.size w w5) := HB5.out
          have HX6 : Hid (IsFl w5 xa X) := HX5.out
          generalize w5 = w6 at *
          go_wp2_with fail
          refine (HD.out _ _ _ HB6.out HX6.out).mono ?_
          rintro e w7 ⟨da, dc, rfl, hd7, hb7⟩
          have HB7 : Hid (Below w.heap.size w w7) := HB6.out.trans (hb7.mono HB6.out.size)
          have HX7 : Hid (IsFl w7 xa X) := HX6.out.up hb7
          have HD7 : Hid (w7.ownsRow w6.heap.size 9 1 (.slice da D.length dc) D.length (D.map encStr)) := hd7
          have hdi : (D.length : Int) ≤ 1000000 := by have := HDl.out; omega
          clear hb7 hd7 HD
          go_wp2
          go_loopw [14] (fun i wr => ∃ k : Nat, k ≤ D.length ∧ i = .int .i64 (k : Int) ∧ wr = w7) (fun i _ => D.length - (RowKit.intOf i).toNat)
          case atStart => exact ⟨0, Nat.zero_le _, rfl, rfl⟩
          case round =>
            obtain ⟨k, hk, rfl, rfl⟩ := hrel
            by_cases hlt : k < D.length
            · have hki : (k : Int) < (D.length : Int) := by omega
              obtain ⟨k1, hk1⟩ : ∃ k1, k1 = k + 1 := ⟨_, rfl⟩
              have ek1 : (k : Int) + 1 = (k1 : Int) := by omega
              have ek2 : IntKind.i64.wrap (k1 : Int) = (k1 : Int) := by rw [IntKind.wrap_i64]; omega
              have HK1 : Hid (k1 = k + 1 ∧ k < D.length) := ⟨hk1, hlt⟩
              obtain ⟨g, dc', hv, _, _⟩ := HD7.out.form (by omega)
              cases hv
              have c0 : wr.cell? ⟨g, k, none⟩ = some (.string ⟨(D[k]).toArray⟩) := by
                refine (HD7.out.cellAt k (by omega)).trans ?_
                rw [List.getElem?_map, List.getElem?_eq_getElem hlt]
                rfl
              have HFk : Hid (Calls Tryz.prog 21 #[.slice bo B.length bc, .string ⟨(D[k]).toArray⟩] wr fun e w' => ∃ j : Nat, e = .returned (.int .i64 (j : Int)) ∧ w' = wr) := HFa.out k hlt wr HB7.out
              generalize (⟨(D[k]).toArray⟩ : ByteArray) = s at c0 HFk
              clear hk1 hk hlt
              go_wp2_with fail
              refine HFk.out.mono ?_
              rintro e w8 ⟨j, rfl, hw8⟩
              subst hw8
              have hj0 : ¬ (j : Int) < 0 := by omega
              go_wp2
              refine ⟨⟨k1, by have := HK1.out; omega, rfl, trivial⟩, ?_⟩
              have := HK1.out
              simp [RowKit.intOf]; omega
            · obtain rfl : k = D.length := by omega
              have k3 : ¬ (D.length : Int) < (D.length : Int) := by omega
              clear hk hlt
              go_wp2_with fail
              refine (HAg.out _ _ _ HB7.out HX7.out).mono ?_
              rintro e w8 ⟨za, zc, rfl, HZ8, hb8⟩
              have HB8 : Hid (Below w.heap.size w w8) := HB7.out.trans (hb8.out.mono HB7.out.size)
              have HX8 : Hid (IsFl w8 xa X) := HX7.out.up hb8.out
              clear hb8
              go_wp2_with fail
              refine (HSm.out _ _ _ _ _ HZ8.out HX8.out).mono ?_
              rintro e w9 ⟨rfl, hb9⟩
              have HB9 : Hid (Below w.heap.size w w9) := HB8.out.trans (hb9.out.mono HB8.out.size)
              clear hb9
              go_wp2
              go_ret
              exact ⟨rfl, HB9.out⟩
      · have e3 : (ovE X C == 0) = false := by simpa using e1
        generalize ovE X C = c1 at *
        generalize ovE A Y = c2 at *
        clear e1 HXY HP5 HQ5
        have HB6 : Hid (Below w.heap.size w w5) := HB5.out
        have HX6 : Hid (IsFl w5 xa X) := HX5.out
        generalize w5 = w6 at *
        go_wp2_with fail
        refine (HD.out _ _ _ HB6.out HX6.out).mono ?_
        rintro e w7 ⟨da, dc, rfl, hd7, hb7⟩
        have HB7 : Hid (Below w.heap.size w w7) := HB6.out.trans (hb7.mono HB6.out.size)
        have HX7 : Hid (IsFl w7 xa X) := HX6.out.up hb7
        have HD7 : Hid (w7.ownsRow w6.heap.size 9 1 (.slice da D.length dc) D.length (D.map encStr)) := hd7
        have hdi : (D.length : Int) ≤ 1000000 := by have := HDl.out; omega
        clear hb7 hd7 HD
        go_wp2
        go_loopw [14] (fun i wr => ∃ k : Nat, k ≤ D.length ∧ i = .int .i64 (k : Int) ∧ wr = w7) (fun i _ => D.length - (RowKit.intOf i).toNat)
        case atStart => exact ⟨0, Nat.zero_le _, rfl, rfl⟩
        case round =>
          obtain ⟨k, hk, rfl, rfl⟩ := hrel
          by_cases hlt : k < D.length
          · have hki : (k : Int) < (D.length : Int) := by omega
            obtain ⟨k1, hk1⟩ : ∃ k1, k1 = k + 1 := ⟨_, rfl⟩
            have ek1 : (k : Int) + 1 = (k1 : Int) := by omega
            have ek2 : IntKind.i64.wrap (k1 : Int) = (k1 : Int) := by rw [IntKind.wrap_i64]; omega
            have HK1 : Hid (k1 = k + 1 ∧ k < D.length) := ⟨hk1, hlt⟩
            obtain ⟨g, dc', hv, _, _⟩ := HD7.out.form (by omega)
            cases hv
            have c0 : wr.cell? ⟨g, k, none⟩ = some (.string ⟨(D[k]).toArray⟩) := by
              refine (HD7.out.cellAt k (by omega)).trans ?_
              rw [List.getElem?_map, List.getElem?_eq_getElem hlt]
              rfl
            have HFk : Hid (Calls Tryz.prog 21 #[.slice bo B.length bc, .string ⟨(D[k]).toArray⟩] wr fun e w' => ∃ j : Nat, e = .returned (.int .i64 (j : Int)) ∧ w' = wr) := HFa.out k hlt wr HB7.out
            generalize (⟨(D[k]).toArray⟩ : ByteArray) = s at c0 HFk
            clear hk1 hk hlt
            go_wp2_with fail
            refine HFk.out.mono ?_
            rintro e w8 ⟨j, rfl, hw8⟩
            subst hw8
            have hj0 : ¬ (j : Int) < 0 := by omega
            go_wp2
            refine ⟨⟨k1, by have := HK1.out; omega, rfl, trivial⟩, ?_⟩
            have := HK1.out
            simp [RowKit.intOf]; omega
          · obtain rfl : k = D.length := by omega
            have k3 : ¬ (D.length : Int) < (D.length : Int) := by omega
            clear hk hlt
            go_wp2_with fail
            refine (HAg.out _ _ _ HB7.out HX7.out).mono ?_
            rintro e w8 ⟨za, zc, rfl, HZ8, hb8⟩
            have HB8 : Hid (Below w.heap.size w w8) := HB7.out.trans (hb8.out.mono HB7.out.size)
            have HX8 : Hid (IsFl w8 xa X) := HX7.out.up hb8.out
            clear hb8
            go_wp2_with fail
            refine (HSm.out _ _ _ _ _ HZ8.out HX8.out).mono ?_
            rintro e w9 ⟨rfl, hb9⟩
            have HB9 : Hid (Below w.heap.size w w9) := HB8.out.trans (hb9.out.mono HB8.out.size)
            clear hb9
            go_wp2
            go_ret
            exact ⟨rfl, HB9.out⟩
    · rw [h1] at HAB
      generalize ovE B C = c at *
      generalize ovL B C = Y at *
      generalize ovL A B = X at *
      have h3 : (c != 0) = true := by simpa using h2
      clear ha hb hc he h1 h2
      go_enter Tryz.func7, Tryz.ntmps7
      go_wp2_with fail
      refine HT.out.mono ?_
      rintro e w1 ⟨rfl, hb1⟩
      have HB1 : Hid (Below w.heap.size w w1) := hb1
      clear hb1
      go_wp2_with fail
      refine (HAB.out _ HB1.out).mono ?_
      rintro e w2 ⟨xa, xc, rfl, HX2, hb2⟩
      have HB2 : Hid (Below w.heap.size w w2) := HB1.out.trans (hb2.out.mono HB1.out.size)
      clear hb2
      go_wp2_with fail
      refine (HBC.out _ HB2.out).mono ?_
      rintro e w3 ⟨ya, yc, rfl, HY3, hb3⟩
      have HB3 : Hid (Below w.heap.size w w3) := HB2.out.trans (hb3.out.mono HB2.out.size)
      clear hb3
      go_wp2
      go_ret
      exact ⟨rfl, HB3.out⟩
  · generalize ovE A B = c at *
    generalize ovE B C = c2 at *
    generalize ovL A B = X at *
    generalize ovL B C = Y at *
    have h3 : (c != 0) = true := by simpa using h1
    clear ha hb hc he h1
    go_enter Tryz.func7, Tryz.ntmps7
    go_wp2_with fail
    refine HT.out.mono ?_
    rintro e w1 ⟨rfl, hb1⟩
    have HB1 : Hid (Below w.heap.size w w1) := hb1
    clear hb1
    go_wp2_with fail
    refine (HAB.out _ HB1.out).mono ?_
    rintro e w2 ⟨xa, xc, rfl, HX2, hb2⟩
    have HB2 : Hid (Below w.heap.size w w2) := HB1.out.trans (hb2.out.mono HB1.out.size)
    clear hb2
    go_wp2_with fail
    refine (HBC.out _ HB2.out).mono ?_
    rintro e w3 ⟨ya, yc, rfl, HY3, hb3⟩
    have HB3 : Hid (Below w.heap.size w w3) := HB2.out.trans (hb3.out.mono HB2.out.size)
    clear hb3
    go_wp2
    go_ret
    exact ⟨rfl, HB3.out⟩

set_option maxRecDepth 100000 in
theorem treeLays_lifted (os : Os) (started : os.Started) (H : Type) (enc : TypeId × Value → H) :
    ReturnsInHanded {} Tryz.checked os 7 .any (fun w args => (Rows.treeLaysSpec.pre enc Tryz.prog Tryz.f7 Rows.treeLaysRow.domain false w args ∧ laidMetH Tryz.prog Rows.treeLaysRow.laid w) ∧ sizedMet enc Tryz.prog Tryz.f7 (OpenSpec.ofChange Rows.treeLaysSpec) false w args)
      (Rows.treeLaysSpec.post enc Tryz.prog Tryz.f7 false true false false) := by
  refine returns_laid own started (by kernel_rfl) Tryz.func7
    (ChangeSpec.witness_shaped (enc := enc) (C := Tryz.checked) (os := os) (X := fun w _ => laidMetH Tryz.prog Rows.treeLaysRow.laid w) false (World.laidAll Tryz.prog os Rows.treeLaysRow.laid) #[.slice none 0 0, .slice none 0 0, .slice none 0 0] 8 (World.laidAll_os _ _ _)
      (World.shaped_of_ZipB (by kernel_rfl) (by kernel_rfl)) (by kernel_rfl) (by kernel_rfl) (by kernel_rfl)
      (by rw [MakeChecks.laidMetH_plain _ _ _ (by kernel_rfl)]; exact laidMet_laidAll _ (by kernel_rfl) (by kernel_rfl))) ?_
  intro W base args ds gs before hval0 hW hsz0 lies shape
  have hval : ∀ (j : Nat) t v, Tryz.f7.params[j]? = some t → args[j]? = some v → Value.okWide Tryz.prog W .any base t v := hval0
  have hW' := hW
  obtain ⟨p, q, hA0, hV, rfl, hfz, hnd⟩ := hW
  have hA : DataW.TrodAll enc Tryz.prog W 0 (fun _ => true) true Tryz.f7.params.toList args.toList ds p := hA0
  have hsz : (DataW.weightsEach Tryz.prog (Tryz.f7.params.toList ++ Rows.treeLaysSpec.plain.varTypes Tryz.prog) (ds ++ gs)).all (· ≤ reachBytes) = true := hsz0
  rw [Tryz.params7] at hA hval hsz
  obtain ⟨v0, v1, v2, d0, d1, d2, p0, p1, p2, rfl, rfl, rfl, h0, h1, h2⟩ := trodAll_three hA
  obtain ⟨rfl, rfl⟩ := trodVars_none hV
  have r0 : ∀ elems sp, d0 = .slice elems sp → elems.length ≤ 4611686018427387904 := fun elems sp he => by
    have h1 := sized_slice hsz (j := 0) (t := 22) rfl (by rw [he]; rfl) Tryz.underlying22
    have h2 := reachBytes_lt
    rw [bytesFl] at h1
    omega
  obtain ⟨L, ao, cap, rfl, i0, hln⟩ := arg_files (hval 0 22 v0 rfl rfl) h0 r0
  have lt0 : ∀ x ∈ p0, x.block < W.heap.size := by obtain ⟨m, hm⟩ := h0; exact DataW.trod_lt m _ _ _ hm
  have r1 : ∀ elems sp, d1 = .slice elems sp → elems.length ≤ 4611686018427387904 := fun elems sp he => by
    have h1 := sized_slice hsz (j := 1) (t := 22) rfl (by rw [he]; rfl) Tryz.underlying22
    have h2 := reachBytes_lt
    rw [bytesFl] at h1
    omega
  obtain ⟨M, bo, bcap, rfl, i1, _⟩ := arg_files (hval 1 22 v1 rfl rfl) h1 r1
  have lt1 : ∀ x ∈ p1, x.block < W.heap.size := by obtain ⟨m, hm⟩ := h1; exact DataW.trod_lt m _ _ _ hm
  have r2 : ∀ elems sp, d2 = .slice elems sp → elems.length ≤ 4611686018427387904 := fun elems sp he => by
    have h1 := sized_slice hsz (j := 2) (t := 22) rfl (by rw [he]; rfl) Tryz.underlying22
    have h2 := reachBytes_lt
    rw [bytesFl] at h1
    omega
  obtain ⟨K, co, ccap, rfl, i2, _⟩ := arg_files (hval 2 22 v2 rfl rfl) h2 r2
  have lt2 : ∀ x ∈ p2, x.block < W.heap.size := by obtain ⟨m, hm⟩ := h2; exact DataW.trod_lt m _ _ _ hm
  clear hA0 hval0
  refine (treeLays_walk ao bo co cap bcap ccap L M K W i0 i1 i2 (env_of lies shape)).mono fun e W' ⟨he, bel⟩ => ?_
  subst he
  exact ⟨_, rfl, _, _, _, [], _, [], hW', trodAll_mk1 (shut_bool Tryz.underlying4 _), trodAll_mk3 (Below.trod laidOut (by kernel_rfl) (of_decide_eq_true (by kernel_rfl)) h0 bel lt0) (Below.trod laidOut (by kernel_rfl) (of_decide_eq_true (by kernel_rfl)) h1 bel lt1) (Below.trod laidOut (by kernel_rfl) (of_decide_eq_true (by kernel_rfl)) h2 bel lt2), rfl, bel.frame _, fun h => by cases h⟩

theorem treeLays_row : Rows.TreeLaysSaid :=
  OpenClaim.holds_of_wide 7 Tryz.f7 rfl rfl rfl rfl rfl rfl rfl ⟨rfl, rfl, rfl, rfl, rfl⟩ rfl rfl rfl rfl rfl (by kernel_rfl) Tryz.func7 (by kernel_rfl)
    (of_decide_eq_true (by kernel_rfl)) (by unfold Func.isWrapper; first | (rw [if_pos (by decide +kernel)]; kernel_rfl) | (rw [if_neg (by decide +kernel)]; exact ⟨rfl, rfl⟩))
    (fun os started H enc _ => treeLays_lifted os started H enc)

theorem treeLays_holds : Rows.TreeLaysCardSaid :=
  Claim7.holds_tied_plain_at .later [] Rows.treeLaysCard.laidKinds true Rows.treeLaysCard.stood.harness true
    treeLays_row (fun _ h => by cases h) (by kernel_rfl) (fun _ h => by cases h) treeLays_row_tie rfl ⟨rfl, rfl⟩ (by kernel_rfl) rfl
    (fun f fn hf hfn => by
      obtain rfl : f = 7 := Option.some.inj ((show Tryz.prog.funcNamed Rows.treeLaysRow.func = some 7 by kernel_rfl).symm.trans hf) |>.symm
      obtain rfl : fn = Tryz.f7 := (Option.some.inj (Tryz.func7.symm.trans hfn)).symm
      exact ⟨by kernel_rfl, fun j t ht => by
        rw [Tryz.params7] at ht
        have hm : t ∈ [22, 22, 22] := by simpa using Array.mem_of_getElem? ht
        have hall : ([22, 22, 22].all fun u => !Tryz.prog.wantsStandIn u) = true := by kernel_rfl
        exact (show Tryz.prog.wantsStandIn t = false by simpa using List.all_eq_true.1 hall t hm)⟩)
    (by kernel_rfl)
#print axioms treeLays_holds
end Go.Proofs.YtelcflmjagjbfaaGreatDoor
