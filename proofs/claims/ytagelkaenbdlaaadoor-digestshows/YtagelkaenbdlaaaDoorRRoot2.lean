/- The document's own RootOf. -/
import Derived.Test.YtagelkaenbdlaaaDoorRRoot
namespace Go.Proofs.YtagelkaenbdlaaaDoor
open Go.RowKit

theorem own_below {w w' : World} {base : Nat} {e : TypeId} {size : Nat} {v : Value} {n : Nat} {xs : List Value} (h : w.ownsRow base e size v n xs) (hb : Below w.heap.size w w') : w'.ownsRow base e size v n xs := by
  refine ⟨h.1, ?_⟩
  rcases h.2 with hn | ⟨g, cap, cur, rfl, hg, hgg, rest⟩
  · exact .inl hn
  · exact .inr ⟨g, cap, cur, rfl, hg, (hb.block g (Array.getElem?_eq_some_iff.1 hgg).1).trans hgg, rest⟩
theorem new_one (W : World) (x : ByteArray) : ∀ (j : Nat) (u : Value), [Value.string x][j]? = some u → (W.alloc (.cells #[.string x] 9)).cell? ((⟨W.heap.size, 0, none⟩ : Addr).add j) = some u := by
  intro j u hj
  match j, hj with
  | 0, hj =>
    simp at hj
    subst hj
    exact al_at W _ _ _ 0 _ rfl rfl
theorem scs_snoc (l : List ByteArray) (x : ByteArray) : scs (l ++ [x]) = scs l ++ [.string x] := by simp [scs]
theorem tree_single (xs : List ByteArray) (h : xs.length = 1) : tree xs = xs[0]'(by omega) := by
  match xs, h with
  | [x], _ => exact tree_one x
theorem own_down {w : World} {B B' : Nat} {e : TypeId} {size : Nat} {v : Value} {n : Nat} {xs : List Value} (h : w.ownsRow B e size v n xs) (hB : B' ≤ B) : w.ownsRow B' e size v n xs := by
  refine ⟨h.1, ?_⟩
  rcases h.2 with h1 | ⟨g, cap, cur, hv, hb, hr⟩
  · exact Or.inl h1
  · exact Or.inr ⟨g, cap, cur, hv, Nat.le_trans hB hb, hr⟩

set_option maxHeartbeats 4000000 in
set_option maxRecDepth 100000 in
theorem RootOf_any (v : Value) (ss : List ByteArray) (w : World) (h : Tx w v ss) (hok : okD ss) :
    Calls Tryd.prog 14 #[v] w fun e w' => e = .returned (.string (rootB ss)) ∧ Below w.heap.size w w' := by
  rcases h.2 with ⟨rfl, a, cap, rfl⟩ | ⟨h0, g, o, cap, rfl, hc, hrow⟩
  · have HS : Hid (∀ W : World, Calls Tryd.prog 11 #[.string ⟨#[]⟩] W fun e w' => e = .returned (.string (rootB [])) ∧ Below W.heap.size W w') := fun W => by
      show Calls _ _ _ _ fun e w' => e = .returned (.string (sumB ⟨#[]⟩ sq8 cuL)) ∧ _
      rw [sum_plain]
      exact Sum_doc _ W (by decide)
    generalize rootB [] = y at HS
    clear h hok
    go_enter Tryd.func14, Tryd.ntmps14
    go_wp2_with fail
    refine (HS.out _).mono ?_
    rintro e w1 ⟨rfl, hb1⟩
    have B1 : Hid (Below _ _ w1) := hb1
    clear hb1
    go_wp2
    go_ret
    exact ⟨rfl, B1.out⟩
  · obtain ⟨i0, hi, hz0, hz1, hz2⟩ := info_p infS
    have HR : Hid (Row w g o ss ∧ g < w.heap.size) := ⟨hrow, World.block_lt_of_cell? w ⟨g, o + 0, none⟩ (hrow 0 h0)⟩
    have HOK : Hid (okD ss) := hok
    have hli : (ss.length : Int) ≤ 2000 := by have := hok.1; omega
    have hl0 : (0 : Int) < (ss.length : Int) := by omega
    have HT : Hid (rootB ss = tree (ss.map leafB)) := rootB_tree _ ss rfl h0
    have HLD : Hid (∀ x ∈ ss.map leafB, digOk x = true) := fun x hx => by
      obtain ⟨s, _, rfl⟩ := List.mem_map.1 hx
      exact sm_dig _
    rw [HT.out]
    obtain ⟨lv, hlv⟩ : ∃ lv, lv = ss.map leafB := ⟨_, rfl⟩
    rw [← hlv] at HLD
    rw [← hlv]
    have HLV : Hid (lv = ss.map leafB ∧ lv.length = ss.length) := ⟨hlv, by rw [hlv]; exact List.length_map _⟩
    have hne : ((ss.length : Int) == 0) = false := beq_eq_false_iff_ne.2 (by omega)
    clear h hok hrow HT hlv
    go_enter Tryd.func14, Tryd.ntmps14
    go_wp2
    go_loopw [3, 4] (fun nv i wr => ∃ k : Nat, k ≤ ss.length ∧ i = .int .i64 k ∧ wr.ownsRow w.heap.size 9 1 nv k (scs (lv.take k)) ∧ Below w.heap.size w wr) (fun _ i _ => ss.length - (intOf i).toNat)
    case atStart => exact ⟨0, by omega, rfl, World.ownsRow_nil _ _ _ _, Below.refl _ _⟩
    case round =>
      obtain ⟨k, hk, rfl, hown, hbl⟩ := hrel
      have HV : Hid (wr.ownsRow w.heap.size 9 1 u3 k (scs (lv.take k)) ∧ Below w.heap.size w wr) := ⟨hown, hbl⟩
      clear hown hbl
      by_cases hlt : k < ss.length
      · have hki : (k : Int) < (ss.length : Int) := by omega
        have c0 := (HR.out.1.up HV.out.2 HR.out.2) k hlt
        have HLF : Hid (∀ W : World, Calls Tryd.prog 43 #[.string ss[k]] W fun e w' => e = .returned (.string (leafB ss[k])) ∧ Below W.heap.size W w') := fun W => LeafOf_any _ W (HOK.out.2 _ (List.getElem_mem hlt))
        have HN : Hid (lv.take (k + 1) = lv.take k ++ [leafB ss[k]]) := by
          show _ = _
          rw [HLV.out.1, ← List.map_take, ← List.map_take, List.take_succ_eq_append_getElem hlt, List.map_append]
          rfl
        have hk2 : k ≤ 2000 := by have := HOK.out.1; omega
        generalize leafB ss[k] = lf at HLF HN
        generalize ss[k] = x at c0 HLF
        go_wp2_with fail
        refine (HLF.out _).mono ?_
        rintro e w1 ⟨rfl, hb1⟩
        have HV1 : Hid (w1.ownsRow w.heap.size 9 1 u3 k (scs (lv.take k)) ∧ Below w.heap.size w w1) := ⟨own_below HV.out.1 hb1, bl_tr HV.out.2 hb1⟩
        clear hb1 c0
        go_wp2_with (at_builtin; refine wpList_append_own _ rfl _ _ 25 rfl w.heap.size 9 i0 (.string ⟨#[]⟩) 1 16 Tryd.underlying25 hi hz0 hz1 hz2 rfl (by decide) _ _ _ rfl (HV1.out.1.alloc _) ⟨_, 0, none⟩ 1 1 [.string lf] rfl rfl ?c1 ?c2 ?c3 ?c4 ?c5 ?_)
        case c1 => exact new_one w1 lf
        case c2 => intro u hu; simp at hu; subst hu; rfl
        case c3 => unfold maxLen; omega
        case c4 => omega
        case c5 => rw [World.size_alloc]; have := HV1.out.2.size; omega
        intro v' w4 hown4 hg4 _
        have HV4 : Hid (w4.ownsRow w.heap.size 9 1 v' (k + 1) (scs (lv.take (k + 1))) ∧ Below w.heap.size w w4) := ⟨by rw [HN.out, scs_snoc]; exact hown4, (HV1.out.2.alloc HV1.out.2.size _).grown hg4 (by rw [World.size_alloc]; have := HV1.out.2.size; omega) (fun j hj => (HV1.out.1.lt j hj).1)⟩
        clear hown4 hg4
        go_wp2
        refine ⟨⟨k + 1, by omega, by go_num, HV4.out⟩, by simp [intOf]; omega⟩
      · obtain rfl : k = ss.length := by omega
        rw [← HLV.out.2, List.take_length, HLV.out.2] at HV
        have hss : ss.length ≤ 2000 := HOK.out.1
        clear HR hlt
        go_wp2
        go_loopw [3] (fun nv wr => ∃ (xs : List ByteArray) (n : Nat), xs.length = n ∧ 0 < n ∧ n ≤ 2000 ∧ tree xs = tree lv ∧ (∀ x ∈ xs, digOk x = true) ∧ wr.ownsRow w.heap.size 9 1 nv n (scs xs) ∧ Below w.heap.size w wr) (fun nv _ => lenV nv)
        case atStart => exact ⟨lv, _, HLV.out.2, by omega, by omega, rfl, HLD.out, HV.out⟩
        case round =>
          clear HV
          obtain ⟨xs, n, hn, hn0, hn2, htr, hdg, hown, hbl⟩ := hrel
          obtain ⟨g1, cap1, hug, hgb, hgs⟩ := hown.form hn0
          subst hug
          obtain ⟨W, hWW⟩ : ∃ W : World, W = wr := ⟨_, rfl⟩
          subst hWW
          have HGS : Hid (g1 < W.heap.size) := hgs
          have HV : Hid (tree xs = tree lv ∧ (∀ x ∈ xs, digOk x = true) ∧ xs.length = n ∧ Row _ g1 0 xs ∧ Below w.heap.size w _) := ⟨htr, hdg, hn, row_of_own hown hn, hbl⟩
          clear htr hdg hn hown hbl
          have hni : (n : Int) ≤ 2000 := by omega
          by_cases h1 : n = 1
          · subst h1
            have c0 := HV.out.2.2.2.1 0 (by rw [HV.out.2.2.1]; decide)
            have HTX : Hid (tree lv = xs[0]'(by rw [HV.out.2.2.1]; decide)) := HV.out.1.symm.trans (tree_single xs HV.out.2.2.1)
            generalize xs[0]'(by rw [HV.out.2.2.1]; decide) = x at c0 HTX
            go_wp2
            go_ret
            exact ⟨by rw [HTX.out]; rfl, HV.out.2.2.2.2⟩
          · have h1i : (1 : Int) < (n : Int) := by omega
            have HWS : Hid (w.heap.size ≤ W.heap.size) := HV.out.2.2.2.2.size
            clear hgb hgs
            go_wp2
            go_loopw [5, 6] (fun xv i wy => ∃ k : Nat, 2 * k ≤ n + 1 ∧ i = .int .i64 (2 * (k : Int)) ∧ wy.ownsRow W.heap.size 9 1 xv k (scs (level (xs.take (2 * k)))) ∧ Below W.heap.size W wy) (fun _ i _ => n + 2 - (intOf i).toNat)
            case atStart => exact ⟨0, by omega, rfl, World.ownsRow_nil _ _ _ _, Below.refl _ _⟩
            case round =>
              obtain ⟨k, hk, rfl, hown, hbl⟩ := hrel
              have HY : Hid (World.ownsRow _ W.heap.size 9 1 _ k (scs (level (xs.take (2 * k)))) ∧ Below W.heap.size W _) := ⟨hown, hbl⟩
              clear hown hbl
              have hki : (k : Int) ≤ 2000 := by omega
              by_cases hlt : 2 * k < n
              · have d0 : 2 * (k : Int) < (n : Int) := by omega
                by_cases hlt2 : 2 * k + 1 < n
                · have d1 : 2 * (k : Int) + 1 < (n : Int) := by omega
                  have c0 := fun (Y : World) (hY : Below W.heap.size W Y) => (HV.out.2.2.2.1.up hY HGS.out) (2 * k) (by rw [HV.out.2.2.1]; exact hlt)
                  have c1 := fun (Y : World) (hY : Below W.heap.size W Y) => (HV.out.2.2.2.1.up hY HGS.out) (2 * k + 1) (by rw [HV.out.2.2.1]; exact hlt2)
                  simp only [Nat.zero_add] at c0 c1
                  have HN : Hid (level (xs.take (2 * (k + 1))) = level (xs.take (2 * k)) ++ [pairB (xs[2 * k]'(by rw [HV.out.2.2.1]; exact hlt)) (xs[2 * k + 1]'(by rw [HV.out.2.2.1]; exact hlt2))]) := level_take xs k (by rw [HV.out.2.2.1]; exact hlt2)
                  have HP : Hid (∀ Y : World, Calls Tryd.prog 27 #[.string (xs[2 * k]'(by rw [HV.out.2.2.1]; exact hlt)), .string (xs[2 * k + 1]'(by rw [HV.out.2.2.1]; exact hlt2))] Y fun e w' => e = .returned (.string (pairB (xs[2 * k]'(by rw [HV.out.2.2.1]; exact hlt)) (xs[2 * k + 1]'(by rw [HV.out.2.2.1]; exact hlt2)))) ∧ Below Y.heap.size Y w') := fun Y => PairOf_any _ _ Y (HV.out.2.1 _ (List.getElem_mem _)) (HV.out.2.1 _ (List.getElem_mem _))
                  generalize pairB (xs[2 * k]'(by rw [HV.out.2.2.1]; exact hlt)) (xs[2 * k + 1]'(by rw [HV.out.2.2.1]; exact hlt2)) = pr at HN HP
                  generalize xs[2 * k]'(by rw [HV.out.2.2.1]; exact hlt) = x0 at c0 HP
                  generalize xs[2 * k + 1]'(by rw [HV.out.2.2.1]; exact hlt2) = x1 at c1 HP
                  have HS : Hid (∀ Y : World, Below W.heap.size W Y → Y.cell? ⟨g1, 2 * k, none⟩ = some (.string x0) ∧ Y.cell? ⟨g1, 2 * k + 1, none⟩ = some (.string x1)) := fun Y hY => ⟨c0 Y hY, c1 Y hY⟩
                  have t0 : (2 * (k : Int)).toNat = 2 * k := by omega
                  have t1 : (2 * (k : Int) + 1).toNat = 2 * k + 1 := by omega
                  have b0 : (0 : Int) ≤ 2 * (k : Int) := by omega
                  have b1 : (0 : Int) ≤ 2 * (k : Int) + 1 := by omega
                  have q1 : k + 1 ≤ maxLen := by unfold maxLen; omega
                  have q2 : (k + 1) * 16 ≤ 140737488355328 := by omega
                  have hone : ∀ u ∈ [Value.string pr], u.oneCell' = true := by intro u hu; simp at hu; subst hu; rfl
                  have j1 : IntKind.i64.wrap (2 * (k : Int) + 1) = 2 * (k : Int) + 1 := wr1 k (by omega)
                  clear c0 c1
                  go_wp2
                  go_region_held3 (fun w' => w'.cell? ⟨g1, 2 * k, none⟩ = some (.string x0) ∧ w'.cell? ⟨g1, 2 * k + 1, none⟩ = some (.string x1))
                    (first | (exact HS.out _ HY.out.2.drew) | (exact HS.out _ (bl_tr HY.out.2.drew hb1)) | (exact HS.out _ (bl_al (bl_tr HY.out.2.drew hb1) _)) | (exact HS.out _ ((bl_al (bl_tr HY.out.2.drew hb1) _).grown hgrow (bl_al (bl_tr HY.out.2.drew hb1) _).size (fun j hj => (HY.out.1.lt j hj).1))) | fail)
                    (first
                      | (go_at_call 27; refine (HP.out _).mono ?_; rintro e w1 ⟨rfl, hb1⟩)
                      | ((refine step_append_lies (w1.alloc (.cells #[.string pr] 9)) (by rfl) (Operand.tmp 39) (Operand.tmp 50) 25 (by rfl) W.heap.size 9 i0 (.string ⟨#[]⟩) 1 16 Tryd.underlying25 hi hz0 hz1 hz2 rfl (by decide) u5 k (scs (level (xs.take (2 * k)))) (by rfl) ((own_below (w := wr.drew) HY.out.1 hb1).alloc _) ⟨w1.heap.size, 0, none⟩ 1 1 [.string pr] (by rfl) rfl (new_one w1 pr) hone (by decide) q1 q2 (bl_al (bl_tr HY.out.2.drew hb1) _).size (w1.heap.size + 1) (by rw [World.size_alloc]) ?_; intro g5 cap5 w5 hown5 hgrow hat hltg))
                      | fail)
                  all_goals
                    have HV5 : Hid (w5.ownsRow W.heap.size 9 1 (.slice (some ⟨g5, 0, none⟩) (k + 1) cap5) (k + 1) (scs (level (xs.take (2 * (k + 1))))) ∧ Below W.heap.size W w5) := ⟨by rw [HN.out, scs_snoc]; exact hown5, (bl_al (bl_tr HY.out.2.drew hb1) _).grown hgrow (bl_al (bl_tr HY.out.2.drew hb1) _).size (fun j hj => (HY.out.1.lt j hj).1)⟩
                    clear hown5 hgrow hat hltg j1
                    go_wp2
                    refine ⟨⟨k + 1, by omega, by go_num, HV5.out⟩, by simp [intOf]; omega⟩
                · have d1 : (n : Int) ≤ 2 * (k : Int) + 1 := by omega
                  have c0 := (HV.out.2.2.2.1.up HY.out.2 HGS.out) (2 * k) (by rw [HV.out.2.2.1]; exact hlt)
                  rw [Nat.zero_add] at c0
                  have HN : Hid (level (xs.take (2 * (k + 1))) = level (xs.take (2 * k)) ++ [xs[2 * k]'(by rw [HV.out.2.2.1]; exact hlt)]) := by
                    show _ = _
                    rw [List.take_of_length_le (by rw [HV.out.2.2.1]; omega)]
                    exact level_last xs k (by rw [HV.out.2.2.1]; omega)
                  generalize xs[2 * k]'(by rw [HV.out.2.2.1]; exact hlt) = x at c0 HN
                  have t0 : (2 * (k : Int)).toNat = 2 * k := by omega
                  have b0 : (0 : Int) ≤ 2 * (k : Int) := by omega
                  go_wp2_with (at_builtin; refine wpList_append_own _ rfl _ _ 25 rfl W.heap.size 9 i0 (.string ⟨#[]⟩) 1 16 Tryd.underlying25 hi hz0 hz1 hz2 rfl (by decide) _ _ _ rfl (HY.out.1.alloc _) ⟨_, 0, none⟩ 1 1 [.string x] rfl rfl ?c1 ?c2 ?c3 ?c4 ?c5 ?_)
                  case c1 => exact new_one _ x
                  case c2 => intro u hu; simp at hu; subst hu; rfl
                  case c3 => unfold maxLen; omega
                  case c4 => omega
                  case c5 => rw [World.size_alloc]; have := HY.out.2.size; omega
                  intro v' w4 hown4 hg4 _
                  have HV4 : Hid (w4.ownsRow W.heap.size 9 1 v' (k + 1) (scs (level (xs.take (2 * (k + 1))))) ∧ Below W.heap.size W w4) := ⟨by rw [HN.out, scs_snoc]; exact hown4, (HY.out.2.alloc HY.out.2.size _).grown hg4 (by rw [World.size_alloc]; have := HY.out.2.size; omega) (fun j hj => (HY.out.1.lt j hj).1)⟩
                  clear hown4 hg4
                  go_wp2
                  refine ⟨⟨k + 1, by omega, by go_num, HV4.out⟩, by simp [intOf]; omega⟩
              · have d0 : (n : Int) ≤ 2 * (k : Int) := by omega
                have HLX : Hid (level (xs.take (2 * k)) = level xs ∧ (level xs).length = k) := by
                  have h3 := HV.out.2.2.1
                  refine ⟨by rw [List.take_of_length_le (by omega)], ?_⟩
                  rw [level_len _ xs (Nat.le_refl _)]
                  omega
                rw [HLX.out.1] at HY
                obtain ⟨g2, cap2, hug2, -, -⟩ := HY.out.1.form (by omega)
                subst hug2
                go_wp2
                refine ⟨⟨level xs, k, HLX.out.2, by omega, by omega, ?_, level_dig _ xs (Nat.le_refl _) HV.out.2.1, own_down HY.out.1 HWS.out, bl_tr HV.out.2.2.2.2 HY.out.2⟩, ?_⟩
                · rw [← HV.out.1]
                  exact (tree_level _ xs rfl (by rw [HV.out.2.2.1]; omega)).symm
                · simp only [lenV]
                  omega
end Go.Proofs.YtagelkaenbdlaaaDoor
