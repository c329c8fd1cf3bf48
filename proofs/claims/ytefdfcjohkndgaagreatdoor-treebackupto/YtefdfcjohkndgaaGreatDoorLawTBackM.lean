/- TreeBack holds in its second form, its listed variables tied to the program's text: for every list of files and every list of texts that hold together at most 1048576 values and letters: a tree is flattened as it was, of its blobs and whatever others there are, unless two of the texts that are unlike have one digest; both lists read behind the call as they read before. -/
import Derived.Test.YtefdfcjohkndgaaGreatDoorTc11
namespace Go.Proofs.YtefdfcjohkndgaaGreatDoor
open Go.ChangeShapes Go.WideShapes Go.ChangeAt Go.RowKit Go.Shelf Go.Sort
open Go.ChangeMaps (open_string shut_string)
attribute [local go_sem ↓] appS_eq

theorem laidOut : laidOutB Tryz.prog = true := by kernel_rfl
theorem blobs_bx {L : List Fl} {w : World} {B : Nat} {v : Value} (h : w.ownsRow B 9 1 v (blF L).length ((blF L).map encStr)) : w.ownsRow B 9 1 v (bxF L).length (scs (bxF L)) := by
  rw [bxF_len, bxF_scs]
  exact h
theorem bx_pos (L : List Fl) : 0 < (bxF L).length := List.length_pos_of_mem ((bxF_mem L _).2 (own_text smD 100 L))

set_option maxHeartbeats 8000000 in
set_option maxRecDepth 100000 in
theorem tback_walk (ao mo : Option Addr) (cap mc : Nat) (L : List Fl) (ms : List ByteArray) (w : World) (hl : IsFl w ao L) (hmt : Tx w (.slice mo ms.length mc) ms) (hmn : mo = none → ms = []) (hml : ms.length ≤ 2000000) (hmz : ∀ s ∈ ms, s.size ≤ 2000000) (he : Env w) :
    Calls Tryz.prog 3 #[.slice ao L.length cap, .slice mo ms.length mc] w fun e w' => e = .returned (.bool true) ∧ Below w.heap.size w w' := by
  have HT : Hid (Calls Tryz.prog 7 #[] w fun e w' => e = .returned (.bool true) ∧ Below w.heap.size w w') := treeBegun_any w he
  have HR : Hid (∀ W, Below w.heap.size w W → Calls Tryz.prog 8 #[.slice ao L.length cap] W fun e w' => e = .returned (.tuple #[.string (if chF L = 0 then smD (pkT1 L).1 else ⟨#[]⟩), .int .i64 (chF L)]) ∧ Below W.heap.size W w') := fun W hW => Root_any ao cap L W (hl.below hW (Nat.le_refl _)) (he.up hW)
  by_cases h0 : chF L = 0
  · have hok := okT_of h0
    rw [if_pos h0, h0] at HR
    have HBl : Hid (∀ W, Below w.heap.size w W → Calls Tryz.prog 9 #[.slice ao L.length cap] W fun e w' => ∃ ba bc, e = .returned (.tuple #[.slice ba (bxF L).length bc, .int .i64 0]) ∧ w'.ownsRow W.heap.size 9 1 (.slice ba (bxF L).length bc) (bxF L).length (scs (bxF L)) ∧ Below W.heap.size W w') := fun W hW => by
      refine (Blobs_any ao cap L W (hl.below hW (Nat.le_refl _)) (he.up hW)).mono ?_
      rintro e w' ⟨v, rfl, h1, _, h2⟩
      have h3 := blobs_bx (h1 h0)
      obtain ⟨a, c, rfl⟩ := own_shape h3
      exact ⟨a, c, by rw [h0], h3, h2⟩
    have hbl := blF_len hok
    rw [← bxF_len] at hbl
    have HAp : Hid (∀ (W : World) (B : Nat) (ba : Option Addr) (bc : Nat), Below w.heap.size w W → W.ownsRow B 9 1 (.slice ba (bxF L).length bc) (bxF L).length (scs (bxF L)) → ∃ g1 c1 w1 g2 c2 w2, (appS #[23, 23] 23 #[.slice (some ⟨W.heap.size, 0, none⟩) 0 0, .slice mo ms.length mc]).run Tryz.prog (W.alloc (.cells #[] 9)) = .ok (.slice (some ⟨g1, 0, none⟩) ms.length c1) w1 ∧
      (appS #[23, 23] 23 #[.slice (some ⟨g1, 0, none⟩) ms.length c1, .slice ba (bxF L).length bc]).run Tryz.prog w1 = .ok (.slice (some ⟨g2, 0, none⟩) (ms ++ bxF L).length c2) w2 ∧
      Hid (w2.ownsRow W.heap.size 9 1 (.slice (some ⟨g2, 0, none⟩) (ms ++ bxF L).length c2) (ms ++ bxF L).length (scs (ms ++ bxF L)) ∧ Below W.heap.size W w2)) := fun W B ba bc hW hb => by
      obtain ⟨g1, c1, w1, g2, c2, w2, a1, a2, a3, a4⟩ := appTwo (hmt.up hW) hmn hb (bx_pos L) (by omega) (by omega)
      exact ⟨g1, c1, w1, g2, c2, w2, a1, a2, a3, a4⟩
    have HCl : Hid (∀ (W : World) (B : Nat) (ba : Option Addr) (bc : Nat) (ty : TypeId), Below w.heap.size w W → W.ownsRow B 9 1 (.slice ba (bxF L).length bc) (bxF L).length (scs (bxF L)) → Calls Tryz.prog 11 #[.slice (some ⟨W.heap.size, 0, none⟩) 2 2] (W.alloc (.cells #[.slice ba (bxF L).length bc, .slice mo ms.length mc] ty)) fun e w' => ∃ b, e = .returned (.bool b) ∧ Hid ((b = false → InjL (bxF L ++ ms)) ∧ Below W.heap.size W w')) := fun W B ba bc ty hW hb => by
      have hb2 : W.ownsRow B 9 1 (.slice ba (bxF L).length bc) (blF L).length ((blF L).map encStr) := by
        rw [← bxF_len, ← bxF_scs]
        exact hb
      refine (cl_more hok hb2 (hmt.up hW) (by omega) (fun s hs => by have := hmz s hs; omega) ty).mono ?_
      rintro e w' ⟨b, h1, h2, h3⟩
      exact ⟨b, h1, h2, h3⟩
    by_cases hal : (ms ++ bxF L).length ≤ 2000 ∧ ∀ b ∈ ms ++ bxF L, b.size ≤ 100000
    · by_cases hinj : ∀ t ∈ (pkT1 L).2, ∀ b ∈ ms ++ bxF L, smD b = smD t → b = t
      · have HFl : Hid (∀ (W : World) (g2 c2 : Nat), Below w.heap.size w W → IsTxs W (some ⟨g2, 0, none⟩) (ms ++ bxF L) → Calls Tryz.prog 10 #[.string (smD (pkT1 L).1), .slice (some ⟨g2, 0, none⟩) (ms ++ bxF L).length c2] W fun e w' => ∃ fa fc, e = .returned (.tuple #[.slice fa L.length fc, .int .i64 0]) ∧ Hid (IsFl w' fa L ∧ Below W.heap.size W w')) := fun W g2 c2 hW ht => by
          refine (Flat_ok L _ c2 (ms ++ bxF L) W hok hal.1 ht hal.2 (he.up hW) (fun t h => List.mem_append_right _ ((bxF_mem L t).2 h)) hinj).mono ?_
          rintro e w' ⟨v, rfl, h1, h2⟩
          obtain ⟨a, c, rfl⟩ := own_shape h1
          exact ⟨a, c, rfl, own_files h1 rfl, h2⟩
        have HSm : Hid (∀ (W : World) (fa : Option Addr) (fc : Nat), Below w.heap.size w W → IsFl W fa L → Calls Tryz.prog 12 #[.slice ao L.length cap, .slice fa L.length fc] W fun e w' => e = .returned (.bool true) ∧ Hid (Below W.heap.size W w')) := fun W fa fc hW hf => by
          refine (SameFiles_any ao fa cap fc L L W (by have := hok.1; omega) (hl.below hW (Nat.le_refl _)) hf).mono ?_
          rintro e w' ⟨b, rfl, hb, n, rfl⟩
          rw [hb.2 rfl]
          exact ⟨rfl, below_drewN (Below.refl _ _) n⟩
        clear hl he h0 hok hmt hmn hml hmz hbl hal hinj
        generalize smD (pkT1 L).1 = rt at *
        generalize ms ++ bxF L = al at HAp HFl
        generalize bxF L = bx at *
        go_enter Tryz.func3, Tryz.ntmps3
        go_wp2_with fail
        refine HT.out.mono ?_
        rintro e w1 ⟨rfl, hb1⟩
        have HB1 : Hid (Below w.heap.size w w1) := hb1
        clear hb1
        go_wp2_with fail
        refine (HR.out _ HB1.out).mono ?_
        rintro e w2 ⟨rfl, hb2⟩
        have HB2 : Hid (Below w.heap.size w w2) := HB1.out.trans (hb2.mono HB1.out.size)
        clear hb2
        go_wp2_with fail
        refine (HBl.out _ HB2.out).mono ?_
        rintro e w3 ⟨ba, bc, rfl, hbx3, hb3⟩
        have HB3 : Hid (Below w.heap.size w w3) := HB2.out.trans (hb3.mono HB2.out.size)
        have HBx3 : Hid (w3.ownsRow w2.heap.size 9 1 (.slice ba bx.length bc) bx.length (scs bx)) := hbx3
        clear hb3 hbx3 HT HR HBl
        obtain ⟨g1, c1, wa, g2, c2, w4, hap1, hap2, HA4⟩ := HAp.out w3 _ ba bc HB3.out HBx3.out
        have HB4 : Hid (Below w.heap.size w w4) := HB3.out.trans (HA4.out.2.mono HB3.out.size)
        have HBx4 : Hid (w4.ownsRow w2.heap.size 9 1 (.slice ba bx.length bc) bx.length (scs bx)) := row_heap HBx3.out fun b hb => HA4.out.2.block b (HBx3.out.lt b hb).2
        go_wp2_with fail
        clear hap1 hap2
        refine (HFl.out _ _ _ HB4.out (isTxs_own HA4.out.1)).mono ?_
        rintro e w5 ⟨fa, fc, rfl, HF5⟩
        have HB5 : Hid (Below w.heap.size w w5) := HB4.out.trans (HF5.out.2.mono HB4.out.size)
        have HB5b : Hid (w5.ownsRow w2.heap.size 9 1 (.slice ba bx.length bc) bx.length (scs bx)) := row_heap HBx4.out fun b hb => HF5.out.2.block b (HBx4.out.lt b hb).2
        clear HFl HAp
        go_wp2_with fail
        refine (HCl.out _ _ _ _ _ HB5.out HB5b.out).mono ?_
        rintro e w6 ⟨b, rfl, HC6⟩
        have HB6 : Hid (Below w.heap.size w w6) := HB5.out.trans (HC6.out.2.mono HB5.out.size)
        have HF6 : Hid (IsFl w6 fa L) := HF5.out.1.below HC6.out.2 (Nat.le_refl _)
        clear HC6 HCl
        cases b with
        | true =>
          go_wp2
          go_ret
          exact ⟨rfl, HB6.out⟩
        | false =>
          go_wp2_with fail
          refine (HSm.out _ _ _ HB6.out HF6.out).mono ?_
          rintro e w7 ⟨rfl, hb7⟩
          have HB7 : Hid (Below w.heap.size w w7) := HB6.out.trans (hb7.out.mono HB6.out.size)
          clear hb7
          go_wp2
          go_ret
          exact ⟨rfl, HB7.out⟩
      · have HNI : Hid (InjL (bxF L ++ ms) → False) := fun hi => hinj fun t ht b hb e => by
          have m1 : t ∈ bxF L ++ ms := List.mem_append_left _ ((bxF_mem L t).2 ht)
          have m2 : b ∈ bxF L ++ ms := by
            rcases List.mem_append.1 hb with h | h
            · exact List.mem_append_right _ h
            · exact List.mem_append_left _ h
          exact hi b t m2 m1 e
        have HFl : Hid (∀ (W : World) (g2 c2 : Nat), Below w.heap.size w W → IsTxs W (some ⟨g2, 0, none⟩) (ms ++ bxF L) → Calls Tryz.prog 10 #[.string (smD (pkT1 L).1), .slice (some ⟨g2, 0, none⟩) (ms ++ bxF L).length c2] W fun e w' => ∃ v er, e = .returned (.tuple #[v, .int .i64 er]) ∧ Hid (Below W.heap.size W w')) := fun W g2 c2 hW ht => by
          refine (Flat_tot (pkT1 L).1 _ c2 (ms ++ bxF L) W hal.1 ht hal.2 (he.up hW)).mono ?_
          rintro e w' ⟨v, er, h1, h2⟩
          exact ⟨v, er, h1, h2⟩
        clear hl he h0 hok hmt hmn hml hmz hbl hal hinj
        generalize smD (pkT1 L).1 = rt at *
        generalize ms ++ bxF L = al at HAp HFl
        generalize bxF L = bx at *
        go_enter Tryz.func3, Tryz.ntmps3
        go_wp2_with fail
        refine HT.out.mono ?_
        rintro e w1 ⟨rfl, hb1⟩
        have HB1 : Hid (Below w.heap.size w w1) := hb1
        clear hb1
        go_wp2_with fail
        refine (HR.out _ HB1.out).mono ?_
        rintro e w2 ⟨rfl, hb2⟩
        have HB2 : Hid (Below w.heap.size w w2) := HB1.out.trans (hb2.mono HB1.out.size)
        clear hb2
        go_wp2_with fail
        refine (HBl.out _ HB2.out).mono ?_
        rintro e w3 ⟨ba, bc, rfl, hbx3, hb3⟩
        have HB3 : Hid (Below w.heap.size w w3) := HB2.out.trans (hb3.mono HB2.out.size)
        have HBx3 : Hid (w3.ownsRow w2.heap.size 9 1 (.slice ba bx.length bc) bx.length (scs bx)) := hbx3
        clear hb3 hbx3 HT HR HBl
        obtain ⟨g1, c1, wa, g2, c2, w4, hap1, hap2, HA4⟩ := HAp.out w3 _ ba bc HB3.out HBx3.out
        have HB4 : Hid (Below w.heap.size w w4) := HB3.out.trans (HA4.out.2.mono HB3.out.size)
        have HBx4 : Hid (w4.ownsRow w2.heap.size 9 1 (.slice ba bx.length bc) bx.length (scs bx)) := row_heap HBx3.out fun b hb => HA4.out.2.block b (HBx3.out.lt b hb).2
        go_wp2_with fail
        clear hap1 hap2
        refine (HFl.out _ _ _ HB4.out (isTxs_own HA4.out.1)).mono ?_
        rintro e w5 ⟨fvv, er, rfl, HF5⟩
        have HB5 : Hid (Below w.heap.size w w5) := HB4.out.trans (HF5.out.mono HB4.out.size)
        have HB5b : Hid (w5.ownsRow w2.heap.size 9 1 (.slice ba bx.length bc) bx.length (scs bx)) := row_heap HBx4.out fun b hb => HF5.out.block b (HBx4.out.lt b hb).2
        clear HFl HAp HF5
        go_wp2_with fail
        refine (HCl.out _ _ _ _ _ HB5.out HB5b.out).mono ?_
        rintro e w6 ⟨b, rfl, HC6⟩
        have HB6 : Hid (Below w.heap.size w w6) := HB5.out.trans (HC6.out.2.mono HB5.out.size)
        cases b with
        | true =>
          go_wp2
          go_ret
          exact ⟨rfl, HB6.out⟩
        | false => exact (HNI.out (HC6.out.1 rfl)).elim
    · have HFl : Hid (∀ (W : World) (g2 c2 : Nat), Below w.heap.size w W → IsTxs W (some ⟨g2, 0, none⟩) (ms ++ bxF L) → Calls Tryz.prog 10 #[.string (smD (pkT1 L).1), .slice (some ⟨g2, 0, none⟩) (ms ++ bxF L).length c2] W fun e w' => e = .returned (.tuple #[.slice none 0 0, .int .i64 2]) ∧ Hid (Below W.heap.size W w')) := fun W g2 c2 hW ht => by
        refine (Flat_many _ _ c2 (ms ++ bxF L) W (by rw [List.length_append]; omega) ht hal).mono ?_
        rintro e w' ⟨h1, h2⟩
        exact ⟨h1, h2⟩
      have HCk : Hid (∀ (W : World) (g2 c2 : Nat), IsTxs W (some ⟨g2, 0, none⟩) (ms ++ bxF L) → Calls Tryz.prog 13 #[.slice (some ⟨g2, 0, none⟩) (ms ++ bxF L).length c2, .int .i64 2000] W fun e w' => e = .returned (.int .i64 2) ∧ w' = W) := fun W g2 c2 ht => by
        refine (cl_any 2000 _ (ms ++ bxF L) W ⟨by rw [List.length_append]; omega, _, c2, rfl, ?_⟩).2 hal
        rcases ht with h | ⟨g, o, e, _, hc⟩
        · exact .inl h
        · exact .inr ⟨g, o, e, hc⟩
      clear hl he h0 hok hmt hmn hml hmz hbl hal
      generalize smD (pkT1 L).1 = rt at *
      generalize ms ++ bxF L = al at HAp HFl HCk
      generalize bxF L = bx at *
      go_enter Tryz.func3, Tryz.ntmps3
      go_wp2_with fail
      refine HT.out.mono ?_
      rintro e w1 ⟨rfl, hb1⟩
      have HB1 : Hid (Below w.heap.size w w1) := hb1
      clear hb1
      go_wp2_with fail
      refine (HR.out _ HB1.out).mono ?_
      rintro e w2 ⟨rfl, hb2⟩
      have HB2 : Hid (Below w.heap.size w w2) := HB1.out.trans (hb2.mono HB1.out.size)
      clear hb2
      go_wp2_with fail
      refine (HBl.out _ HB2.out).mono ?_
      rintro e w3 ⟨ba, bc, rfl, hbx3, hb3⟩
      have HB3 : Hid (Below w.heap.size w w3) := HB2.out.trans (hb3.mono HB2.out.size)
      have HBx3 : Hid (w3.ownsRow w2.heap.size 9 1 (.slice ba bx.length bc) bx.length (scs bx)) := hbx3
      clear hb3 hbx3 HT HR HBl
      obtain ⟨g1, c1, wa, g2, c2, w4, hap1, hap2, HA4⟩ := HAp.out w3 _ ba bc HB3.out HBx3.out
      have HB4 : Hid (Below w.heap.size w w4) := HB3.out.trans (HA4.out.2.mono HB3.out.size)
      have HBx4 : Hid (w4.ownsRow w2.heap.size 9 1 (.slice ba bx.length bc) bx.length (scs bx)) := row_heap HBx3.out fun b hb => HA4.out.2.block b (HBx3.out.lt b hb).2
      go_wp2_with fail
      clear hap1 hap2
      refine (HFl.out _ _ _ HB4.out (isTxs_own HA4.out.1)).mono ?_
      rintro e w5 ⟨rfl, HF5⟩
      have HB5 : Hid (Below w.heap.size w w5) := HB4.out.trans (HF5.out.mono HB4.out.size)
      have HB5b : Hid (w5.ownsRow w2.heap.size 9 1 (.slice ba bx.length bc) bx.length (scs bx)) := row_heap HBx4.out fun b hb => HF5.out.block b (HBx4.out.lt b hb).2
      clear HFl HF5
      go_wp2_with fail
      refine (HCl.out _ _ _ _ _ HB5.out HB5b.out).mono ?_
      rintro e w6 ⟨b, rfl, HC6⟩
      have HB6 : Hid (Below w.heap.size w w6) := HB5.out.trans (HC6.out.2.mono HB5.out.size)
      have HB6b : Hid (w6.ownsRow w2.heap.size 9 1 (.slice ba bx.length bc) bx.length (scs bx)) := row_heap HB5b.out fun b hb => HC6.out.2.block b (HB5b.out.lt b hb).2
      clear HC6 HCl
      cases b with
      | true =>
        go_wp2
        go_ret
        exact ⟨rfl, HB6.out⟩
      | false =>
        obtain ⟨g3, c3, w7, g4, c4, w8, hap3, hap4, HA8⟩ := HAp.out w6 _ ba bc HB6.out HB6b.out
        have HB8 : Hid (Below w.heap.size w w8) := HB6.out.trans (HA8.out.2.mono HB6.out.size)
        clear HAp
        go_wp2_with fail
        refine (HCk.out _ _ _ (isTxs_own HA8.out.1)).mono ?_
        rintro e w9 ⟨rfl, hw9⟩
        subst hw9
        go_wp2
        go_ret
        exact ⟨rfl, HB8.out⟩
  · rw [if_neg h0] at HR
    generalize chF L = c at *
    have h1 : (c != 0) = true := by simpa using h0
    clear h0 hl he hmt
    go_enter Tryz.func3, Tryz.ntmps3
    go_wp2_with fail
    refine HT.out.mono ?_
    rintro e w1 ⟨rfl, hb1⟩
    have HB1 : Hid (Below w.heap.size w w1) := hb1
    clear hb1
    go_wp2_with fail
    refine (HR.out _ HB1.out).mono ?_
    rintro e w2 ⟨rfl, hb2⟩
    have HB2 : Hid (Below w.heap.size w w2) := HB1.out.trans (hb2.mono HB1.out.size)
    clear hb2
    go_wp2
    go_ret
    exact ⟨rfl, HB2.out⟩

set_option maxRecDepth 100000 in
theorem tback_lifted (os : Os) (started : os.Started) (H : Type) (enc : TypeId × Value → H) (F : Stop.Interp) :
    ReturnsInHanded {} Tryz.checked os 3 .any ((Rows.OpenSpec.upto Rows.treeBackSpec).preRow enc Tryz.prog Tryz.f3 Rows.treeBackUptoRow.domain false Rows.treeBackUptoRow.laid) (((Rows.OpenSpec.upto Rows.treeBackSpec).at F).post enc Tryz.prog Tryz.f3 false true false false) := by
  refine returnsInHanded_of_row (C := Tryz.checked) (s := Rows.OpenSpec.upto Rows.treeBackSpec) own started (by kernel_rfl) Tryz.func3
    (witness_up (enc := enc) (C := Tryz.checked) (os := os) (World.laidAll Tryz.prog os Rows.treeBackUptoRow.laid) #[.slice none 0 0, .slice none 0 0] (World.laidAll_os _ _ _)
      (World.shaped_of_ZipB (by kernel_rfl) (by kernel_rfl)) (by kernel_rfl)
      (OpenSpec.preRow_of_cond 8 (x := ([.nil, .nil], [], [])) (by kernel_rfl) (by kernel_rfl) (fun k hk => by cases hk; kernel_rfl) (by kernel_rfl)
        (by rw [MakeChecks.laidMetH_plain _ _ _ (by kernel_rfl)]; exact laidMet_laidAll _ (by kernel_rfl) (by kernel_rfl)))) ?_
  intro W base args ds gs before hval0 hW _ hcond hsz0 lies shape _
  have hval : ∀ (j : Nat) t v, Tryz.f3.params[j]? = some t → args[j]? = some v → Value.okWide Tryz.prog W .any base t v := hval0
  have hk := hcond _ rfl
  have hW' := hW
  obtain ⟨p, q, hA0, hV, rfl, hfz, hnd⟩ := hW
  have hA : DataW.TrodAll enc Tryz.prog W 0 (fun _ => true) true Tryz.f3.params.toList args.toList ds p := hA0
  have hsz : (DataW.weightsEach Tryz.prog (Tryz.f3.params.toList ++ Rows.treeBackSpec.plain.varTypes Tryz.prog) (ds ++ gs)).all (· ≤ reachBytes) = true := hsz0
  rw [Tryz.params3] at hA hval hsz
  obtain ⟨v0, v1, d0, d1, p0, p1, rfl, rfl, rfl, h0, h1⟩ := trodAll_two hA
  obtain ⟨rfl, rfl⟩ := trodVars_none hV
  have h2 := of_decide_eq_true hk
  simp only [List.append_nil, Rows.uptoBulkAll] at h2
  have r0 : ∀ elems sp, d0 = .slice elems sp → elems.length ≤ 4611686018427387904 := fun elems sp he => by
    have h1 := sized_slice hsz (j := 0) (t := 22) rfl (by rw [he]; rfl) Tryz.underlying22
    have h2 := reachBytes_lt
    rw [bytesFl] at h1
    omega
  obtain ⟨L, ao, cap, rfl, i0, hln⟩ := arg_files (hval 0 22 v0 rfl rfl) h0 r0
  have lt0 : ∀ x ∈ p0, x.block < W.heap.size := by obtain ⟨m, hm⟩ := h0; exact DataW.trod_lt m _ _ _ hm
  obtain ⟨ms, hmt, ⟨mo, mc, rfl, hmn⟩, htot⟩ := arg_texts_up (hval 1 23 v1 rfl rfl) h1 (by omega)
  have lt1 : ∀ x ∈ p1, x.block < W.heap.size := by obtain ⟨m, hm⟩ := h1; exact DataW.trod_lt m _ _ _ hm
  have hml := total_len ms
  clear hA0 hval0
  refine (tback_walk ao mo cap mc L ms W i0 hmt hmn (by omega) (fun s hs => by have := total_mem hs; omega) (env_of lies shape)).mono fun e W' ⟨he, bel⟩ => ?_
  subst he
  exact ⟨_, rfl, _, _, _, [], _, [], hW', trodAll_mk1 (shut_bool Tryz.underlying4 _), trodAll_mk2 (Below.trod laidOut (by kernel_rfl) (of_decide_eq_true (by kernel_rfl)) h0 bel lt0) (Below.trod laidOut (by kernel_rfl) (of_decide_eq_true (by kernel_rfl)) h1 bel lt1), rfl, bel.frame _, fun h => by cases h⟩

theorem treeBackUpto_row : Rows.TreeBackUptoSaid :=
  OpenClaim.holds_of_cond 3 Tryz.f3 rfl rfl rfl rfl rfl rfl rfl ⟨rfl, rfl, rfl, rfl, rfl⟩ rfl rfl rfl rfl rfl (by kernel_rfl) Tryz.func3 (by kernel_rfl)
    (of_decide_eq_true (by kernel_rfl)) (by unfold Func.isWrapper; first | (rw [if_pos (by decide +kernel)]; kernel_rfl) | (rw [if_neg (by decide +kernel)]; exact ⟨rfl, rfl⟩))
    (fun os started H enc _ F => by rw [OpenClaim.pre_eq_preRow]; exact tback_lifted os started H enc F)

theorem treeBackUpto_holds : Rows.TreeBackUptoCardSaid :=
  Claim7.holds_tied_plain_at .later [] Rows.treeBackUptoCard.laidKinds true Rows.treeBackUptoCard.stood.harness false
    treeBackUpto_row (fun _ h => by cases h) (by kernel_rfl) (fun _ h => by cases h) treeBackUpto_row_tie rfl ⟨rfl, rfl⟩ (by kernel_rfl) rfl
    (fun f fn hf hfn => by
      obtain rfl : f = 3 := Option.some.inj ((show Tryz.prog.funcNamed Rows.treeBackUptoRow.func = some 3 by kernel_rfl).symm.trans hf) |>.symm
      obtain rfl : fn = Tryz.f3 := (Option.some.inj (Tryz.func3.symm.trans hfn)).symm
      exact ⟨by kernel_rfl, fun j t ht => by
        rw [Tryz.params3] at ht
        have hm : t ∈ [22, 23] := by simpa using Array.mem_of_getElem? ht
        have hall : ([22, 23].all fun u => !Tryz.prog.wantsStandIn u) = true := by kernel_rfl
        exact (show Tryz.prog.wantsStandIn t = false by simpa using List.all_eq_true.1 hall t hm)⟩)
    (by kernel_rfl)
#print axioms treeBackUpto_holds
end Go.Proofs.YtefdfcjohkndgaaGreatDoor
