/- The document's Shown: the texts that are summed when a proof is looked at. -/
import Derived.Test.YtagelkaenbdlaaaDoorGdH
import Derived.Test.YtagelkaenbdlaaaDoorShR
namespace Go.Proofs.YtagelkaenbdlaaaDoor
open Go.RowKit

theorem ownRow_lit1 (w : World) (x : ByteArray) : (w.alloc (.cells #[.string x] 9)).ownsRow w.heap.size 9 1 (.slice (some ⟨w.heap.size, 0, none⟩) 1 1) 1 (scs [x]) := World.ownsRow_lit w #[.string x] 1 (Nat.le_refl _) (by unfold maxLen; omega) rfl

set_option maxHeartbeats 4000000 in
set_option maxRecDepth 100000 in
theorem Shown_any (t : ByteArray) (i n : Nat) (v : Value) (ps : List ByteArray) (w : World) (hi : i < n) (hn : n ≤ 2000) (ht : t.size ≤ 140737488351232) (h : Tx w v ps) (hd : ∀ p ∈ ps, digOk p = true) :
    Calls Tryd.prog 25 #[.string t, .int .i64 i, .int .i64 n, v] w fun e w' => ∃ u, e = .returned u ∧ w'.ownsRow w.heap.size 9 1 u (shownT t i n ps).length (scs (shownT t i n ps)) ∧ Below w.heap.size w w' := by
  obtain ⟨i0, hi0, hz0, hz1, hz2⟩ := info_p infS
  have HS : Hid (Calls Tryd.prog 53 #[.int .i64 i, .int .i64 n] w fun e w' => ∃ v, e = .returned v ∧ w'.ownsRow w.heap.size 4 1 v (sidesL i n).length (bos (sidesL i n)) ∧ Below w.heap.size w w') := Sides_any i n w hn (by omega) hi
  have HLF : Hid (∀ W, Calls Tryd.prog 43 #[.string t] W fun e w' => e = .returned (.string (leafB t)) ∧ Below W.heap.size W w') := fun W => LeafOf_long t W ht
  have hlen := sidesL_len _ i n (Nat.le_refl _) (by omega)
  have hll : (ps.length : Int) ≤ 4611686018427387904 := by have := h.1; omega
  obtain ⟨y, hy⟩ : ∃ y : ByteArray, y = leafT t := ⟨_, rfl⟩
  have k1 := catS ⟨#[0]⟩ t y (by rw [hy]; rfl) (by have : (⟨#[0]⟩ : ByteArray).size = 1 := rfl; omega)
  have hsh : shownT t i n ps = y :: upT (leafB t) (sidesL i n).reverse ps := by rw [hy]; rfl
  rw [hsh]
  have HD : Hid (∀ p ∈ ps, digOk p = true) := hd
  have HLD : Hid (digOk (leafB t) = true) := leafB_dig t
  generalize leafB t = lf at HLF HLD
  generalize sidesL i n = L at HS hlen
  have hLl : L.length ≤ 2000 := by omega
  have hcv : ∀ W : World, (convert 55 9 (.slice (some ⟨W.heap.size, 0, none⟩) 1 1)).run Tryd.prog (W.alloc (.cells #[.int .u8 0] 5)) = .ok (.string ⟨#[0]⟩) (W.alloc (.cells #[.int .u8 0] 5)) := fun W =>
    run_convert_bytes_back (W.alloc (.cells #[.int .u8 0] 5)) 55 9 5 ⟨W.heap.size, 0, none⟩ 1 [0] Tryd.underlying55 Tryd.underlying5 Tryd.underlying9 fun j hj => by
      rw [add0]
      match j, hj with
      | 0, _ => exact al_at W _ _ _ 0 _ rfl rfl
  have HX : Hid (Tx w v ps) := h
  obtain ⟨a, cap, hv⟩ := h.shape
  subst hv
  clear hd hsh hlen hy hi hn ht h
  go_enter Tryd.func25, Tryd.ntmps25
  go_wp2_with fail
  refine HS.out.mono ?_
  rintro e w1 ⟨v1, rfl, hown1, hb1⟩
  have hv1 : ∃ a1 c1, v1 = .slice a1 L.length c1 ∧ ∀ j (hj : j < L.length), ∃ g1, a1 = some ⟨g1, 0, none⟩ ∧ g1 < w1.heap.size ∧ w1.cell? ⟨g1, j, none⟩ = some (.bool L[j]) := by
    by_cases hL0 : L.length = 0
    · rcases hown1.2 with ⟨rfl, h⟩ | ⟨g1, c1, cur, rfl, _⟩
      · exact ⟨_, _, by rw [h], fun j hj => by omega⟩
      · exact ⟨_, _, rfl, fun j hj => by omega⟩
    · obtain ⟨g1, c1, hv1, hg1a, hg1b⟩ := hown1.form (by omega)
      subst hv1
      exact ⟨_, _, rfl, fun j hj => ⟨g1, rfl, hg1b, bos_cell hown1 rfl j hj⟩⟩
  obtain ⟨a1, c1, rfl, hcells⟩ := hv1
  have B1 : Hid (Below w.heap.size w w1 ∧ ∀ j (hj : j < L.length), ∃ g1, a1 = some ⟨g1, 0, none⟩ ∧ g1 < w1.heap.size ∧ w1.cell? ⟨g1, j, none⟩ = some (.bool L[j])) := ⟨hb1, hcells⟩
  clear hown1 hb1 hcells
  have hcv1 := hcv w1
  clear hcv
  go_wp2_with fail
  refine (HLF.out _).mono ?_
  rintro e w2 ⟨rfl, hb2⟩
  have HO2 : Hid (w2.ownsRow w1.heap.size 9 1 (.slice (some ⟨w1.heap.size + 1, 0, none⟩) 1 1) 1 (scs [y])) := by
    have h0 := ownRow_lit1 (w1.alloc (.cells #[.int .u8 0] 5)) y
    rw [World.size_alloc] at h0
    exact own_below (own_down h0 (by omega)) hb2
  have B2 : Hid (Below w1.heap.size w1 w2) := bl_tr (bl_al (bl_al (Below.refl _ _) _) _) hb2
  clear hb2 hcv1 k1
  go_wp2
  go_loopw [10, 11, 12, 13] (fun out a j _ wr => ∃ (k : Nat) (x : ByteArray), k ≤ ps.length ∧ k ≤ L.length ∧ a = .string x ∧ j = .int .i64 k ∧ Hid (x = foldU lf (L.reverse.take k) (ps.take k) ∧ digOk x = true ∧ (upT lf (L.reverse.take k) (ps.take k)).length = k ∧ wr.ownsRow w1.heap.size 9 1 out (k + 1) (scs (y :: upT lf (L.reverse.take k) (ps.take k))) ∧ Below w1.heap.size w1 wr)) (fun _ _ j _ _ => ps.length - (intOf j).toNat)
  case atStart => exact ⟨0, lf, by omega, by omega, rfl, rfl, ⟨rfl, HLD.out, rfl, HO2.out, B2.out⟩⟩
  case round =>
    obtain ⟨k, x, hk, hkL, rfl, rfl, HX2⟩ := hrel
    clear HO2 B2 HLF HS
    by_cases hlt : k < ps.length ∧ k < L.length
    · obtain ⟨hlt1, hlt2⟩ := hlt
      have hki : (k : Int) < (ps.length : Int) := by omega
      have hkl : (k : Int) < (L.length : Int) := by omega
      obtain ⟨g1, ha1, hg1, hc1⟩ := B1.out.2 (L.length - 1 - k) (by omega)
      subst ha1
      have cs : wr.cell? ⟨g1, L.length - 1 - k, none⟩ = some (.bool (L.reverse[k]'(by rw [List.length_reverse]; exact hlt2))) := by
        rw [rev_at L k hlt2]
        exact ((HX2.out.2.2.2.2.cell (p := ⟨g1, L.length - 1 - k, none⟩) hg1)).trans hc1
      rcases HX.out.2 with ⟨rfl, _⟩ | ⟨h0, g, o, cap', hv', hc, hrow⟩
      · simp at hlt1
      · injection hv' with e1 e2 e3
        subst e1
        subst e3
        have HG : Hid (Below w.heap.size w wr → ∀ Y, Below wr.heap.size wr Y → Y.cell? ⟨g, o + k, none⟩ = some (.string ps[k])) := fun hb Y hY => (hrow.up (bl_tr hb hY) (World.block_lt_of_cell? w ⟨g, o + 0, none⟩ (hrow 0 h0))) k hlt1
        have cp0 := HG.out (bl_tr B1.out.1 HX2.out.2.2.2.2) _ (Below.refl _ _)
        have HN : Hid (foldU lf (L.reverse.take (k + 1)) (ps.take (k + 1)) = stepB x (L.reverse[k]'(by rw [List.length_reverse]; exact hlt2)) ps[k]) := by
          show _ = _
          rw [foldU_take L.reverse ps lf k (by rw [List.length_reverse]; exact hlt2) hlt1, ← HX2.out.1]
        have HN2 : Hid (upT lf (L.reverse.take (k + 1)) (ps.take (k + 1)) = upT lf (L.reverse.take k) (ps.take k) ++ [stepT x (L.reverse[k]'(by rw [List.length_reverse]; exact hlt2)) ps[k]]) := by
          show _ = _
          rw [upT_take L.reverse ps lf k (by rw [List.length_reverse]; exact hlt2) hlt1, ← HX2.out.1]
        have HPp : Hid (digOk ps[k] = true) := HD.out _ (List.getElem_mem hlt1)
        have HG2 : Hid (∀ Y, Below wr.heap.size wr Y → Y.cell? ⟨g, o + k, none⟩ = some (.string ps[k])) := HG.out (bl_tr B1.out.1 HX2.out.2.2.2.2)
        have HG3 : Hid (∀ Y, Below wr.heap.size wr Y → g1 < wr.heap.size → Y.cell? ⟨g1, L.length - 1 - k, none⟩ = some (.bool (L.reverse[k]'(by rw [List.length_reverse]; exact hlt2)))) := fun Y hY hg => (hY.cell (p := ⟨g1, L.length - 1 - k, none⟩) hg).trans cs
        have HGw : Hid (g1 < wr.heap.size) := by have h8 := HX2.out.2.2.2.2.size; exact Nat.lt_of_lt_of_le hg1 h8
        generalize (L.reverse[k]'(by rw [List.length_reverse]; exact hlt2)) = sd at cs HN HN2 HG3
        generalize ps[k] = p at cp0 HN HN2 HPp HG2 HG
        have t1 : ((L.length : Int) - 1 - (k : Int)).toNat = L.length - 1 - k := by omega
        have t2 : (0 : Int) ≤ (L.length : Int) - 1 - (k : Int) := by omega
        have HPA1 : Hid (∀ Y : World, Calls Tryd.prog 55 #[.string x, .string p] Y fun e w' => e = .returned (.string (stepT x false p)) ∧ Below Y.heap.size Y w') := fun Y => pairText_any x p Y HX2.out.2.1 HPp.out
        have HPA2 : Hid (∀ Y : World, Calls Tryd.prog 55 #[.string p, .string x] Y fun e w' => e = .returned (.string (stepT x true p)) ∧ Below Y.heap.size Y w') := fun Y => pairText_any p x Y HPp.out HX2.out.2.1
        have HSM : Hid (∀ (sd : Bool) (Y : World), Calls Tryd.prog 11 #[.string (stepT x sd p)] Y fun e w' => e = .returned (.string (stepB x sd p)) ∧ Below Y.heap.size Y w') := fun sd Y => by
          rw [stepB_sm]
          refine Sum_sm _ Y ?_
          have e65 : ∀ a b : ByteArray, digOk a = true → digOk b = true → (ptB a b).size = 65 := fun a b ha hb => by
            unfold ptB
            rw [d_size (s := ⟨(1 :: ((rawB a).data.toList ++ (rawB b).data.toList)).toArray⟩) (l := 1 :: ((rawB a).data.toList ++ (rawB b).data.toList)) rfl, List.length_cons, List.length_append, s_len, s_len, rawB_size, rawB_size, dig_size ha, dig_size hb]
          cases sd
          · show (ptB x p).size ≤ _
            rw [e65 x p HX2.out.2.1 HPp.out]; decide
          · show (ptB p x).size ≤ _
            rw [e65 p x HPp.out HX2.out.2.1]; decide
        have HSD : Hid (digOk (stepB x sd p) = true) := stepB_dig _ _ _
        clear HG cs hrow hc1 hg1
        go_wp2_with fail
        refine (HPA1.out _).mono ?_
        rintro e w3 ⟨rfl, hb3⟩
        have B3 : Hid (Below wr.heap.size wr w3) := hb3
        have cs3 := HG3.out w3 hb3 HGw.out
        have cp3 := HG2.out w3 hb3
        clear hb3
        cases sd with
        | true =>
          have HSM1 : Hid (∀ (Y : World), Calls Tryd.prog 11 #[.string (stepT x true p)] Y fun e w' => e = .returned (.string (stepB x true p)) ∧ Below Y.heap.size Y w') := HSM.out true
          generalize stepT x true p = z at HPA2 HN2 HSM1
          generalize stepB x true p = z2 at HN HSM1 HSD
          generalize stepT x false p = zz at *
          go_wp2_with fail
          refine (HPA2.out _).mono ?_
          rintro e w4 ⟨rfl, hb4⟩
          have B4 : Hid (Below wr.heap.size wr w4) := bl_tr B3.out hb4
          clear hb4
          have O4 : Hid (w4.ownsRow w1.heap.size 9 1 u10 (k + 1) (scs (y :: upT lf (L.reverse.take k) (ps.take k)))) := own_below HX2.out.2.2.2.1 B4.out
          clear cs3 cp3
          go_wp2_with (at_builtin; refine wpList_append_own _ rfl _ _ 25 rfl w1.heap.size 9 i0 (.string ⟨#[]⟩) 1 16 Tryd.underlying25 hi0 hz0 hz1 hz2 rfl (by decide) _ _ _ rfl (O4.out.alloc _) ⟨_, 0, none⟩ 1 1 [.string z] rfl rfl ?c1 ?c2 ?c3 ?c4 ?c5 ?_)
          case c1 => exact new_one w4 z
          case c2 => intro u hu; simp at hu; subst hu; rfl
          case c3 => unfold maxLen; omega
          case c4 => omega
          case c5 => rw [World.size_alloc]; have h1 := HX2.out.2.2.2.2.size; have h2 := B4.out.size; omega
          intro v' w5 hown5 hg5 _
          have HV5 : Hid (w5.ownsRow w1.heap.size 9 1 v' (k + 1 + 1) (scs (y :: upT lf (L.reverse.take (k + 1)) (ps.take (k + 1)))) ∧ Below w1.heap.size w1 w5) :=
            ⟨by rw [HN2.out, ← List.cons_append, scs_snoc]; exact hown5, (bl_al (bl_tr HX2.out.2.2.2.2 B4.out) _).grown hg5 (bl_al (bl_tr HX2.out.2.2.2.2 B4.out) _).size (fun j hj => (HX2.out.2.2.2.1.lt j hj).1)⟩
          clear hown5 hg5
          go_wp2_with fail
          refine (HSM1.out _).mono ?_
          rintro e w6 ⟨rfl, hb6⟩
          have HV6 : Hid (w6.ownsRow w1.heap.size 9 1 v' (k + 1 + 1) (scs (y :: upT lf (L.reverse.take (k + 1)) (ps.take (k + 1)))) ∧ Below w1.heap.size w1 w6) := ⟨own_below HV5.out.1 hb6, bl_tr HV5.out.2 hb6⟩
          clear hb6
          go_wp2
          refine ⟨⟨k + 1, z2, by omega, by omega, rfl, by go_num, ⟨HN.out.symm, HSD.out, ?_, HV6.out.1, HV6.out.2⟩⟩, by simp [intOf]; omega⟩
          rw [HN2.out, List.length_append, HX2.out.2.2.1]
          rfl
        | false =>
          have HSM1 : Hid (∀ (Y : World), Calls Tryd.prog 11 #[.string (stepT x false p)] Y fun e w' => e = .returned (.string (stepB x false p)) ∧ Below Y.heap.size Y w') := HSM.out false
          generalize stepB x false p = z2 at HN HSM1 HSD
          generalize stepT x false p = z at *
          obtain ⟨w4, hw4⟩ : ∃ w4 : World, w4 = w3 := ⟨_, rfl⟩
          subst hw4
          have B4 : Hid (Below wr.heap.size wr w4) := B3.out
          have O4 : Hid (w4.ownsRow w1.heap.size 9 1 u10 (k + 1) (scs (y :: upT lf (L.reverse.take k) (ps.take k)))) := own_below HX2.out.2.2.2.1 B4.out
          go_wp2_with (at_builtin; refine wpList_append_own _ rfl _ _ 25 rfl w1.heap.size 9 i0 (.string ⟨#[]⟩) 1 16 Tryd.underlying25 hi0 hz0 hz1 hz2 rfl (by decide) _ _ _ rfl (O4.out.alloc _) ⟨_, 0, none⟩ 1 1 [.string z] rfl rfl ?c1 ?c2 ?c3 ?c4 ?c5 ?_)
          case c1 => exact new_one w4 z
          case c2 => intro u hu; simp at hu; subst hu; rfl
          case c3 => unfold maxLen; omega
          case c4 => omega
          case c5 => rw [World.size_alloc]; have h1 := HX2.out.2.2.2.2.size; have h2 := B4.out.size; omega
          intro v' w5 hown5 hg5 _
          have HV5 : Hid (w5.ownsRow w1.heap.size 9 1 v' (k + 1 + 1) (scs (y :: upT lf (L.reverse.take (k + 1)) (ps.take (k + 1)))) ∧ Below w1.heap.size w1 w5) :=
            ⟨by rw [HN2.out, ← List.cons_append, scs_snoc]; exact hown5, (bl_al (bl_tr HX2.out.2.2.2.2 B4.out) _).grown hg5 (bl_al (bl_tr HX2.out.2.2.2.2 B4.out) _).size (fun j hj => (HX2.out.2.2.2.1.lt j hj).1)⟩
          clear hown5 hg5
          go_wp2_with fail
          refine (HSM1.out _).mono ?_
          rintro e w6 ⟨rfl, hb6⟩
          have HV6 : Hid (w6.ownsRow w1.heap.size 9 1 v' (k + 1 + 1) (scs (y :: upT lf (L.reverse.take (k + 1)) (ps.take (k + 1)))) ∧ Below w1.heap.size w1 w6) := ⟨own_below HV5.out.1 hb6, bl_tr HV5.out.2 hb6⟩
          clear hb6
          go_wp2
          refine ⟨⟨k + 1, z2, by omega, by omega, rfl, by go_num, ⟨HN.out.symm, HSD.out, ?_, HV6.out.1, HV6.out.2⟩⟩, by simp [intOf]; omega⟩
          rw [HN2.out, List.length_append, HX2.out.2.2.1]
          rfl
    · have HE : Hid (upT lf (L.reverse.take k) (ps.take k) = upT lf L.reverse ps) := upT_all L.reverse ps lf k (by rw [List.length_reverse]; exact hlt)
      have HL2 : Hid ((upT lf L.reverse ps).length + 1 = k + 1) := by show _ = _; rw [← HE.out, HX2.out.2.2.1]
      by_cases hlt1 : k < ps.length
      · have hki : (k : Int) < (ps.length : Int) := by omega
        have hkl : (L.length : Int) ≤ (k : Int) := by omega
        clear hlt
        go_wp2
        go_ret
        exact ⟨_, rfl, by rw [HL2.out, ← HE.out]; exact own_down HX2.out.2.2.2.1 B1.out.1.size, bl_tr B1.out.1 HX2.out.2.2.2.2⟩
      · have hki : (ps.length : Int) ≤ (k : Int) := by omega
        clear hlt
        go_wp2
        go_ret
        exact ⟨_, rfl, by rw [HL2.out, ← HE.out]; exact own_down HX2.out.2.2.2.1 B1.out.1.size, bl_tr B1.out.1 HX2.out.2.2.2.2⟩
end Go.Proofs.YtagelkaenbdlaaaDoor
