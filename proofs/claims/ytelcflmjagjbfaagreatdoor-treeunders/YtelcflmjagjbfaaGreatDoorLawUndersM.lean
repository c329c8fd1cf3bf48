/- TreeUnders holds, its listed variables tied to the program's text: for every list of files and every text that can be read Under answers just as the document says, errors too, and both read behind the call as they read before; no condition of ours. -/
import Derived.Test.YtelcflmjagjbfaaGreatDoorTq6
namespace Go.Proofs.YtelcflmjagjbfaaGreatDoor
open Go.ChangeShapes Go.WideShapes Go.ChangeAt Go.RowKit Go.Shelf Go.Sort
open Go.ChangeMaps (open_string shut_string)
attribute [local go_sem ↓] appS_eq

theorem laidOut : laidOutB Tryz.prog = true := by kernel_rfl

set_option maxHeartbeats 2000000 in
set_option maxRecDepth 100000 in
theorem filesAre_ok (er : Int) (xa ya : Option Addr) (xc yc : Nat) (X Y : List Fl) (w : World) (hn : X.length ≤ 4611686018427387904) (hx : IsFl w xa X) (hy : IsFl w ya Y) (h1 : er ≠ 0 → X = []) (h2 : er = 0 → X = Y) :
    Calls Tryz.prog 13 #[.slice xa X.length xc, .int .i64 er, .int .i64 er, .slice ya Y.length yc] w fun e w' => e = .returned (.bool true) ∧ Below w.heap.size w w' := by
  by_cases h0 : er = 0
  · obtain rfl := h2 h0
    subst h0
    have HS : Hid (Calls Tryz.prog 20 #[.slice xa X.length xc, .slice ya X.length yc] w (SmP X X w)) := SameFiles_any xa ya xc yc X X w hn hx hy
    clear hx hy h1 h2
    go_enter Tryz.func13, Tryz.ntmps13
    go_wp2_with fail
    refine HS.out.mono ?_
    rintro e w1 ⟨b, rfl, hb, n, rfl⟩
    rw [hb.2 rfl]
    clear hb
    go_wp2
    go_ret
    exact ⟨rfl, below_drewN (Below.refl _ _) n⟩
  · obtain rfl := h1 h0
    have HS : Hid (Calls Tryz.prog 20 #[.slice xa 0 xc, .slice none 0 0] w (SmP [] [] w)) := SameFiles_any xa none xc 0 [] [] w (by decide) (.inl rfl) (.inl rfl)
    have h0' : (er != 0) = true := by simpa using h0
    clear hx hy h1 h2 h0
    rw [show ([] : List Fl).length = 0 from rfl]
    go_enter Tryz.func13, Tryz.ntmps13
    go_wp2_with fail
    refine HS.out.mono ?_
    rintro e w1 ⟨b, rfl, hb, n, rfl⟩
    rw [hb.2 rfl]
    clear hb
    go_wp2
    go_ret
    exact ⟨rfl, below_drewN (Below.refl _ _) n⟩

set_option maxHeartbeats 8000000 in
set_option maxRecDepth 100000 in
theorem unders_walk (ao : Option Addr) (cap : Nat) (L : List Fl) (d : ByteArray) (w : World) (hl : IsFl w ao L) (hn : L.length ≤ 4611686018427387904) (he : Env w) :
    Calls Tryz.prog 3 #[.slice ao L.length cap, .string d] w fun e w' => e = .returned (.bool true) ∧ Below w.heap.size w w' := by
  have HU : Hid (Calls Tryz.prog 8 #[.slice ao L.length cap, .string d] w (RsP (unE L d) (unL L d) w)) := Under_any ao cap L d w hl he.1
  have HR : Hid (∀ W, Below w.heap.size w W → Calls Tryz.prog 9 #[.slice ao L.length cap] W fun e w' => e = .returned (.int .i64 (chF L)) ∧ Below W.heap.size W w') := fun W hW => RCheck_any ao cap L W (hl.below hW (Nat.le_refl _))
  have HP : Hid (∀ W, Calls Tryz.prog 10 #[.string d] W fun e w' => e = .returned (.bool (pathOk d)) ∧ Below W.heap.size W w') := fun W => RIsPath_any d W
  have HT : Hid (∀ W, Below w.heap.size w W → Calls Tryz.prog 12 #[] W fun e w' => e = .returned (.bool true) ∧ Below W.heap.size W w') := fun W hW => treeBegun_any W (he.up hW)
  have HXl : Hid ((unL L d).length ≤ 4611686018427387904) := by
    show _ ≤ _
    unfold unL
    split
    · exact Nat.le_trans (undF_len L d) hn
    · simp
  have HX1 : Hid (unE L d ≠ 0 → unL L d = []) := fun h => by unfold unL; rw [if_neg h]
  have hn1 : (L.length : Int) ≤ 4611686018427387904 := by omega
  by_cases h0 : chF L = 0
  · rw [h0] at HR
    have hok := okT_of h0
    by_cases hp : pathOk d = true
    · rw [hp] at HP
      have HE : Hid (unE L d = if undF L d = [] then 5 else 0) := by
        show _ = _
        unfold unE
        rw [if_neg (by simp [h0]), if_neg (by rw [hp]; decide)]
      have HI : Hid (∀ (x : ByteArray) (W : World), Calls Tryz.prog 11 #[.string d, .string x] W fun e w' => e = .returned (.bool (inB x d)) ∧ w' = W) := fun x W => RIsInside_any x d W
      have HL : Hid (IsFl w ao L) := hl
      have hn2 : (L.length : Int) ≤ 60 := by have := hok.1; omega
      have hds : d.size ≤ 100 := pathOk_size hp
      have hds2 : (d.size : Int) ≤ 100 := by omega
      clear hl he h0 hp hok hn hn1
      go_enter Tryz.func3, Tryz.ntmps3
      go_wp2_with fail
      refine HU.out.mono ?_
      rintro e w1 ⟨xa, xc, rfl, hxr, hb1⟩
      go_wp2_with fail
      refine (HR.out _ hb1).mono ?_
      rintro e w2 ⟨rfl, hb2⟩
      go_wp2_with fail
      refine (HP.out _).mono ?_
      rintro e w3 ⟨rfl, hb3⟩
      have h13 : Below w1.heap.size w1 w3 := hb2.trans (hb3.mono hb2.size)
      have HB3 : Hid (Below w.heap.size w w3) := hb1.trans (h13.mono hb1.size)
      have HX3 : Hid (w3.ownsRow w.heap.size 30 3 (.slice xa (unL L d).length xc) (unL L d).length (flCells (unL L d))) := row_heap hxr fun b hb => h13.block b (hxr.lt b hb).2
      have hsz3 : w.heap.size ≤ w3.heap.size := HB3.out.size
      clear hb1 hb2 hb3 h13 hxr HU HR HP
      go_wp2
      go_loopw [8, 9] (fun uv i wr => ∃ k : Nat, k ≤ L.length ∧ i = .int .i64 k ∧ wr.ownsRow w3.heap.size 30 3 uv (undF (L.take k) d).length (flCells (undF (L.take k) d)) ∧ Below w3.heap.size w3 wr) (fun _ i _ => L.length - (intOf i).toNat)
      case atStart => exact ⟨0, by omega, rfl, World.ownsRow_nil _ _ _ _, Below.refl _ _⟩
      case round =>
        obtain ⟨k, hk, rfl, hrow, hb⟩ := hrel
        have hsz := hb.size
        have HB : Hid (Below w3.heap.size w3 wr) := hb
        by_cases hlt : k < L.length
        · have hbw : Below w.heap.size w wr := HB3.out.trans (hb.mono hsz3)
          rcases HL.out.below hbw (Nat.le_refl _) with h | ⟨g, o, rfl, hg, hc⟩
          · exfalso; rw [h] at hlt; exact absurd hlt (by simp)
          obtain ⟨c0, c1, c2⟩ := hc k hlt
          have htk : L.take (k + 1) = L.take k ++ [L[k]] := List.take_succ_eq_append_getElem hlt
          have hul := undF_len (L.take k) d
          have hkl : (L.take k).length ≤ 60 := by rw [List.length_take]; omega
          have HRow : Hid (wr.ownsRow w3.heap.size 30 3 u8 (undF (L.take k) d).length (flCells (undF (L.take k) d))) := hrow
          have HUn : Hid (undF (L.take (k + 1)) d = if inB L[k].pa d = true then undF (L.take k) d ++ [cutP d L[k]] else undF (L.take k) d) := by
            show _ = _
            rw [htk, undF_snoc]
          have hki : (k : Int) < (L.length : Int) := by omega
          clear hc htk
          generalize L[k] = x at *
          generalize undF (L.take k) d = U at *
          have HIx : Hid (∀ W, Calls Tryz.prog 11 #[.string d, .string x.pa] W fun e w' => e = .returned (.bool (inB x.pa d)) ∧ w' = W) := HI.out x.pa
          have a0 : ∀ p, (wr.alloc p).cell? ⟨g, o + k * 3, none⟩ = some (.string x.pa) := fun p => (((Below.refl _ wr).alloc (Nat.le_refl _) p).cell (p := ⟨g, o + k * 3, none⟩) hg).trans c0
          have a1 : ∀ p, (wr.alloc p).cell? ⟨g, o + k * 3 + 1, none⟩ = some (.string x.tx) := fun p => (((Below.refl _ wr).alloc (Nat.le_refl _) p).cell (p := ⟨g, o + k * 3 + 1, none⟩) hg).trans c1
          have a2 : ∀ p, (wr.alloc p).cell? ⟨g, o + k * 3 + 2, none⟩ = some (.bool x.rn) := fun p => (((Below.refl _ wr).alloc (Nat.le_refl _) p).cell (p := ⟨g, o + k * 3 + 2, none⟩) hg).trans c2
          cases hin : inB x.pa d with
          | false =>
            rw [hin] at HIx HUn
            clear hin hrow hb hbw
            go_wp2_with fail
            refine (HIx.out _).mono ?_
            rintro e w4 ⟨rfl, rfl⟩
            go_wp2
            refine ⟨⟨k + 1, by omega, by go_num, ?_, HB.out⟩, by simp [intOf]; omega⟩
            rw [HUn.out, if_neg (by decide)]
            exact HRow.out
          | true =>
            rw [hin] at HIx HUn
            have hdl := inB_lt hin
            have hdl2 : (d.size : Int) + 1 ≤ (x.pa.size : Int) := by omega
            obtain ⟨G, C, w5, hap, hrow5, hb5⟩ := rowF_add (w := wr) HRow.out hsz (cutP d x) (by omega) 1
            have hap2 : (appS #[22, 22] 22 #[u8, .slice (some ⟨wr.heap.size, 0, none⟩) 1 1]).run Tryz.prog ((wr.alloc (.cells #[.string (x.pa.extract (d.size + 1) x.pa.size), .string x.tx, .bool x.rn] 30)).drew) = .ok (.slice (some ⟨G, 0, none⟩) (U.length + 1) C) w5 := hap
            have HR5 : Hid (w5.ownsRow w3.heap.size 30 3 (.slice (some ⟨G, 0, none⟩) (U.length + 1) C) (U ++ [cutP d x]).length (flCells (U ++ [cutP d x])) ∧ Below w3.heap.size w3 w5) := ⟨hrow5, HB.out.trans hb5⟩
            clear hin hrow hb hbw hap hrow5 hb5
            go_wp2_with fail
            refine (HIx.out _).mono ?_
            rintro e w4 ⟨rfl, rfl⟩
            go_wp2
            go_region
            go_wp2
            refine ⟨⟨k + 1, by omega, by go_num, ?_, HR5.out.2⟩, by simp [intOf]; omega⟩
            rw [HUn.out, if_pos trivial]
            exact HR5.out.1
        · obtain rfl : k = L.length := by omega
          have hki : ¬ (L.length : Int) < (L.length : Int) := by omega
          rw [List.take_length] at hrow
          obtain ⟨ua, uc, rfl⟩ := own_shape hrow
          have HRow : Hid (wr.ownsRow w3.heap.size 30 3 (.slice ua (undF L d).length uc) (undF L d).length (flCells (undF L d))) := hrow
          have HBw : Hid (Below w.heap.size w wr) := HB3.out.trans (hb.mono hsz3)
          have HXr : Hid (wr.ownsRow w.heap.size 30 3 (.slice xa (unL L d).length xc) (unL L d).length (flCells (unL L d))) := row_heap HX3.out fun b hb2 => hb.block b (HX3.out.lt b hb2).2
          have HTr : Hid (Calls Tryz.prog 12 #[] wr fun e w' => e = .returned (.bool true) ∧ Below wr.heap.size wr w') := HT.out wr HBw.out
          have hend : ∀ W, Below wr.heap.size wr W → Calls Tryz.prog 13 #[.slice xa (unL L d).length xc, .int .i64 (unE L d), .int .i64 (unE L d), .slice ua (undF L d).length uc] W fun e w' => e = .returned (.bool true) ∧ Below W.heap.size W w' := fun W hW =>
            filesAre_ok (unE L d) xa ua xc uc (unL L d) (undF L d) W HXl.out (own_files (row_heap HXr.out fun b hb2 => hW.block b (HXr.out.lt b hb2).2) rfl) (own_files (row_heap HRow.out fun b hb2 => hW.block b (HRow.out.lt b hb2).2) rfl) HX1.out (fun h => by unfold unL; rw [if_pos h])
          have HEnd : Hid (∀ W, Below wr.heap.size wr W → Calls Tryz.prog 13 #[.slice xa (unL L d).length xc, .int .i64 (unE L d), .int .i64 (unE L d), .slice ua (undF L d).length uc] W fun e w' => e = .returned (.bool true) ∧ Below W.heap.size W w') := hend
          clear hrow hb hend HT HXl HX1 HX3 HI HL
          by_cases hu : undF L d = []
          · have hul : (undF L d).length = 0 := by rw [hu]; rfl
            have hE5 := HE.out
            rw [if_pos hu] at hE5
            rw [hE5] at HEnd ⊢
            clear hu hE5 HE
            go_wp2_with fail
            refine HTr.out.mono ?_
            rintro e w5 ⟨rfl, hb5⟩
            have HB5 : Hid (Below wr.heap.size wr w5) := hb5
            clear hb5
            go_wp2_with fail
            rw [hul] at HEnd
            refine (HEnd.out _ HB5.out).mono ?_
            rintro e w6 ⟨rfl, hb6⟩
            have HB6 : Hid (Below w.heap.size w w6) := HBw.out.trans ((HB5.out.trans (hb6.mono HB5.out.size)).mono HBw.out.size)
            clear hb6
            go_wp2
            go_ret
            exact ⟨rfl, HB6.out⟩
          · have hul : ¬ ((undF L d).length : Int) = 0 := by
              intro e
              exact hu (List.length_eq_zero_iff.1 (by omega))
            have hE0 := HE.out
            rw [if_neg hu] at hE0
            rw [hE0] at HEnd ⊢
            clear hu hE0 HE
            go_wp2_with fail
            refine HTr.out.mono ?_
            rintro e w5 ⟨rfl, hb5⟩
            have HB5 : Hid (Below wr.heap.size wr w5) := hb5
            clear hb5
            go_wp2_with fail
            refine (HEnd.out _ HB5.out).mono ?_
            rintro e w6 ⟨rfl, hb6⟩
            have HB6 : Hid (Below w.heap.size w w6) := HBw.out.trans ((HB5.out.trans (hb6.mono HB5.out.size)).mono HBw.out.size)
            clear hb6
            go_wp2
            go_ret
            exact ⟨rfl, HB6.out⟩
    · have hp' : pathOk d = false := by simpa using hp
      rw [hp'] at HP
      have hE : unE L d = 1 := by unfold unE; rw [if_neg (by simp [h0]), if_pos hp']
      have hL : unL L d = [] := by unfold unL; rw [hE, if_neg (by decide)]
      rw [hE, hL] at HU
      have HF : Hid (∀ (xa : Option Addr) (xc : Nat) (W : World), Calls Tryz.prog 13 #[.slice xa 0 xc, .int .i64 1, .int .i64 1, .slice none 0 0] W fun e w' => e = .returned (.bool true) ∧ Below W.heap.size W w') := fun xa xc W => filesAre_ok 1 xa none xc 0 [] [] W (by decide) (.inl rfl) (.inl rfl) (fun _ => rfl) (fun _ => rfl)
      clear hl he h0 hp hp' hok hn hE hL HXl HX1
      go_enter Tryz.func3, Tryz.ntmps3
      go_wp2_with fail
      refine HU.out.mono ?_
      rintro e w1 ⟨xa, xc, rfl, _, hb1⟩
      go_wp2_with fail
      refine (HR.out _ hb1).mono ?_
      rintro e w2 ⟨rfl, hb2⟩
      go_wp2_with fail
      refine (HP.out _).mono ?_
      rintro e w3 ⟨rfl, hb3⟩
      have h13 : Below w1.heap.size w1 w3 := hb2.trans (hb3.mono hb2.size)
      have HB3 : Hid (Below w.heap.size w w3) := hb1.trans (h13.mono hb1.size)
      clear hb1 hb2 hb3 h13 HU HR HP
      rcases Nat.eq_zero_or_pos L.length with h | h
      · have hz : ¬ (0 : Int) < (L.length : Int) := by omega
        clear h
        go_wp2
        refine wp_loop_rounds 1 ?_
        rw [rounds_succ]
        go_wp2_with fail
        refine (HT.out _ HB3.out).mono ?_
        rintro e w5 ⟨rfl, hb5⟩
        have HB5 : Hid (Below w.heap.size w w5) := HB3.out.trans (hb5.mono HB3.out.size)
        clear hb5
        go_wp2_with fail
        refine (HF.out _ _ _).mono ?_
        rintro e w6 ⟨rfl, hb6⟩
        have HB6 : Hid (Below w.heap.size w w6) := HB5.out.trans (hb6.mono HB5.out.size)
        clear hb6
        go_wp2
        go_ret
        exact ⟨rfl, HB6.out⟩
      · have hz : (0 : Int) < (L.length : Int) := by omega
        clear h
        go_wp2
        refine wp_loop_rounds 1 ?_
        rw [rounds_succ]
        go_wp2_with fail
        refine (HT.out _ HB3.out).mono ?_
        rintro e w5 ⟨rfl, hb5⟩
        have HB5 : Hid (Below w.heap.size w w5) := HB3.out.trans (hb5.mono HB3.out.size)
        clear hb5
        go_wp2_with fail
        refine (HF.out _ _ _).mono ?_
        rintro e w6 ⟨rfl, hb6⟩
        have HB6 : Hid (Below w.heap.size w w6) := HB5.out.trans (hb6.mono HB5.out.size)
        clear hb6
        go_wp2
        go_ret
        exact ⟨rfl, HB6.out⟩
  · have hE : unE L d = chF L := by unfold unE; rw [if_pos h0]
    have hL : unL L d = [] := by unfold unL; rw [hE, if_neg h0]
    rw [hE, hL] at HU
    generalize chF L = c at *
    have HF : Hid (∀ (xa : Option Addr) (xc : Nat) (W : World), Calls Tryz.prog 13 #[.slice xa 0 xc, .int .i64 c, .int .i64 c, .slice none 0 0] W fun e w' => e = .returned (.bool true) ∧ Below W.heap.size W w') := fun xa xc W => filesAre_ok c xa none xc 0 [] [] W (by decide) (.inl rfl) (.inl rfl) (fun _ => rfl) (fun _ => rfl)
    have h0' : (c == 0) = false := by simpa using h0
    clear hl he h0 hn hE hL HXl HX1 HP
    go_enter Tryz.func3, Tryz.ntmps3
    go_wp2_with fail
    refine HU.out.mono ?_
    rintro e w1 ⟨xa, xc, rfl, _, hb1⟩
    go_wp2_with fail
    refine (HR.out _ hb1).mono ?_
    rintro e w2 ⟨rfl, hb2⟩
    have HB3 : Hid (Below w.heap.size w w2) := hb1.trans (hb2.mono hb1.size)
    clear hb1 hb2 HU HR
    rcases Nat.eq_zero_or_pos L.length with h | h
    · have hz : ¬ (0 : Int) < (L.length : Int) := by omega
      clear h
      go_wp2
      refine wp_loop_rounds 1 ?_
      rw [rounds_succ]
      go_wp2_with fail
      refine (HT.out _ HB3.out).mono ?_
      rintro e w5 ⟨rfl, hb5⟩
      have HB5 : Hid (Below w.heap.size w w5) := HB3.out.trans (hb5.mono HB3.out.size)
      clear hb5
      go_wp2_with fail
      refine (HF.out _ _ _).mono ?_
      rintro e w6 ⟨rfl, hb6⟩
      have HB6 : Hid (Below w.heap.size w w6) := HB5.out.trans (hb6.mono HB5.out.size)
      clear hb6
      go_wp2
      go_ret
      exact ⟨rfl, HB6.out⟩
    · have hz : (0 : Int) < (L.length : Int) := by omega
      clear h
      go_wp2
      refine wp_loop_rounds 1 ?_
      rw [rounds_succ]
      go_wp2_with fail
      refine (HT.out _ HB3.out).mono ?_
      rintro e w5 ⟨rfl, hb5⟩
      have HB5 : Hid (Below w.heap.size w w5) := HB3.out.trans (hb5.mono HB3.out.size)
      clear hb5
      go_wp2_with fail
      refine (HF.out _ _ _).mono ?_
      rintro e w6 ⟨rfl, hb6⟩
      have HB6 : Hid (Below w.heap.size w w6) := HB5.out.trans (hb6.mono HB5.out.size)
      clear hb6
      go_wp2
      go_ret
      exact ⟨rfl, HB6.out⟩

set_option maxRecDepth 100000 in
theorem unders_lifted (os : Os) (started : os.Started) (H : Type) (enc : TypeId × Value → H) :
    ReturnsInHanded {} Tryz.checked os 3 .any (fun w args => (Rows.treeUndersSpec.pre enc Tryz.prog Tryz.f3 Rows.treeUndersRow.domain false w args ∧ laidMetH Tryz.prog Rows.treeUndersRow.laid w) ∧ sizedMet enc Tryz.prog Tryz.f3 (OpenSpec.ofChange Rows.treeUndersSpec) false w args)
      (Rows.treeUndersSpec.post enc Tryz.prog Tryz.f3 false true false false) := by
  refine returns_laid own started (by kernel_rfl) Tryz.func3
    (ChangeSpec.witness_shaped (enc := enc) (C := Tryz.checked) (os := os) (X := fun w _ => laidMetH Tryz.prog Rows.treeUndersRow.laid w) false (World.laidAll Tryz.prog os Rows.treeUndersRow.laid) #[.slice none 0 0, .string ByteArray.empty] 8 (World.laidAll_os _ _ _)
      (World.shaped_of_ZipB (by kernel_rfl) (by kernel_rfl)) (by kernel_rfl) (by kernel_rfl) (by kernel_rfl)
      (by rw [MakeChecks.laidMetH_plain _ _ _ (by kernel_rfl)]; exact laidMet_laidAll _ (by kernel_rfl) (by kernel_rfl))) ?_
  intro W base args ds gs before hval0 hW hsz0 lies shape
  have hval : ∀ (j : Nat) t v, Tryz.f3.params[j]? = some t → args[j]? = some v → Value.okWide Tryz.prog W .any base t v := hval0
  have hW' := hW
  obtain ⟨p, q, hA0, hV, rfl, hfz, hnd⟩ := hW
  have hA : DataW.TrodAll enc Tryz.prog W 0 (fun _ => true) true Tryz.f3.params.toList args.toList ds p := hA0
  have hsz : (DataW.weightsEach Tryz.prog (Tryz.f3.params.toList ++ Rows.treeUndersSpec.plain.varTypes Tryz.prog) (ds ++ gs)).all (· ≤ reachBytes) = true := hsz0
  rw [Tryz.params3] at hA hval hsz
  obtain ⟨v0, v1, d0, d1, p0, p1, rfl, rfl, rfl, h0, h1⟩ := trodAll_two hA
  obtain ⟨rfl, rfl⟩ := trodVars_none hV
  have r0 : ∀ elems sp, d0 = .slice elems sp → elems.length ≤ 4611686018427387904 := fun elems sp he => by
    have h1 := sized_slice hsz (j := 0) (t := 22) rfl (by rw [he]; rfl) Tryz.underlying22
    have h2 := reachBytes_lt
    rw [bytesFl] at h1
    omega
  obtain ⟨L, ao, cap, rfl, i0, hln⟩ := arg_files (hval 0 22 v0 rfl rfl) h0 r0
  have lt0 : ∀ x ∈ p0, x.block < W.heap.size := by obtain ⟨m, hm⟩ := h0; exact DataW.trod_lt m _ _ _ hm
  obtain ⟨a1, rfl, rfl, rfl, w1⟩ := open_string Tryz.underlying9 (hval 1 9 v1 rfl rfl) h1
  clear hA0 hval0
  refine (unders_walk ao cap L a1 W i0 hln (env_of lies shape)).mono fun e W' ⟨he, bel⟩ => ?_
  subst he
  exact ⟨_, rfl, _, _, _, [], _, [], hW', trodAll_mk1 (shut_bool Tryz.underlying4 _), trodAll_mk2 (Below.trod laidOut (by kernel_rfl) (of_decide_eq_true (by kernel_rfl)) h0 bel lt0) (shut_string Tryz.underlying9 w1), rfl, bel.frame _, fun h => by cases h⟩

theorem treeUnders_row : Rows.TreeUndersSaid :=
  OpenClaim.holds_of_wide 3 Tryz.f3 rfl rfl rfl rfl rfl rfl rfl ⟨rfl, rfl, rfl, rfl, rfl⟩ rfl rfl rfl rfl rfl (by kernel_rfl) Tryz.func3 (by kernel_rfl)
    (of_decide_eq_true (by kernel_rfl)) (by unfold Func.isWrapper; first | (rw [if_pos (by decide +kernel)]; kernel_rfl) | (rw [if_neg (by decide +kernel)]; exact ⟨rfl, rfl⟩))
    (fun os started H enc _ => unders_lifted os started H enc)

theorem treeUnders_holds : Rows.TreeUndersCardSaid :=
  Claim7.holds_tied_plain_at .later [] Rows.treeUndersCard.laidKinds true Rows.treeUndersCard.stood.harness true
    treeUnders_row (fun _ h => by cases h) (by kernel_rfl) (fun _ h => by cases h) treeUnders_row_tie rfl ⟨rfl, rfl⟩ (by kernel_rfl) rfl
    (fun f fn hf hfn => by
      obtain rfl : f = 3 := Option.some.inj ((show Tryz.prog.funcNamed Rows.treeUndersRow.func = some 3 by kernel_rfl).symm.trans hf) |>.symm
      obtain rfl : fn = Tryz.f3 := (Option.some.inj (Tryz.func3.symm.trans hfn)).symm
      exact ⟨by kernel_rfl, fun j t ht => by
        rw [Tryz.params3] at ht
        have hm : t ∈ [22, 9] := by simpa using Array.mem_of_getElem? ht
        have hall : ([22, 9].all fun u => !Tryz.prog.wantsStandIn u) = true := by kernel_rfl
        exact (show Tryz.prog.wantsStandIn t = false by simpa using List.all_eq_true.1 hall t hm)⟩)
    (by kernel_rfl)
#print axioms treeUnders_holds
end Go.Proofs.YtelcflmjagjbfaaGreatDoor
