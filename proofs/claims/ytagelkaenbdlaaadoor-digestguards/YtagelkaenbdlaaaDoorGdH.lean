/- The document's HasText, pairText; a leaf of any text. -/
import Derived.Test.YtagelkaenbdlaaaDoorGdP
import Derived.Test.YtagelkaenbdlaaaDoorDgSm
import Derived.Lib.MinMax
namespace Go.Proofs.YtagelkaenbdlaaaDoor
open Go.RowKit

theorem pt_both (a b : ByteArray) (ha : a.size = 64) (hb : b.size = 64) : ptB a b = ⟨(1 :: rawN (bothB a b) 64).toArray⟩ := by
  unfold ptB rawB
  rw [ha, hb, show 64 = 32 + 32 from rfl, raw_right a b ha 32]

set_option maxHeartbeats 1000000 in
theorem LeafOf_long (s : ByteArray) (w : World) (hs : s.size ≤ 140737488351232) :
    Calls Tryd.prog 43 #[.string s] w fun e w' => e = .returned (.string (leafB s)) ∧ Below w.heap.size w w' := by
  obtain ⟨y, hy⟩ : ∃ y : ByteArray, y = ⟨(0 :: s.data.toList).toArray⟩ := ⟨_, rfl⟩
  have hyz : y.size = s.size + 1 := by rw [hy, d_size (s := ⟨(0 :: s.data.toList).toArray⟩) (l := 0 :: s.data.toList) rfl, List.length_cons, s_len]
  have k1 := catS ⟨#[0]⟩ s y (by rw [hy]; rfl) (by have : (⟨#[0]⟩ : ByteArray).size = 1 := rfl; omega)
  have HSU : Hid (∀ W : World, Calls Tryd.prog 11 #[.string y] W fun e w' => e = .returned (.string (leafB s)) ∧ Below W.heap.size W w') := fun W => by
    unfold leafB sm
    rw [sum_plain, ← hy]
    exact Sum_doc y W (by omega)
  generalize leafB s = r at HSU
  have hcv : (convert 55 9 (.slice (some ⟨w.heap.size, 0, none⟩) 1 1)).run Tryd.prog (w.alloc (.cells #[.int .u8 0] 5)) = .ok (.string ⟨#[0]⟩) (w.alloc (.cells #[.int .u8 0] 5)) :=
    run_convert_bytes_back (w.alloc (.cells #[.int .u8 0] 5)) 55 9 5 ⟨w.heap.size, 0, none⟩ 1 [0] Tryd.underlying55 Tryd.underlying5 Tryd.underlying9 fun j hj => by
      rw [add0]
      match j, hj with
      | 0, _ => exact al_at w _ _ _ 0 _ rfl rfl
  clear hs hy hyz
  go_enter Tryd.func43, Tryd.ntmps43
  go_wp2_with fail
  refine (HSU.out _).mono ?_
  rintro e w2 ⟨rfl, hb2⟩
  have B2 : Hid (Below w.heap.size w w2) := bl_tr (bl_al (Below.refl _ _) _) hb2
  clear hb2
  go_wp2
  go_ret
  exact ⟨rfl, B2.out⟩
theorem Sum_sm (s : ByteArray) (w : World) (hs : s.size ≤ 140737488351300) :
    Calls Tryd.prog 11 #[.string s] w fun e w' => e = .returned (.string (sm s)) ∧ Below w.heap.size w w' := by
  unfold sm
  rw [sum_plain]
  exact Sum_doc s w hs

set_option maxHeartbeats 2000000 in
theorem HasText_any (v : Value) (xs : List ByteArray) (s : ByteArray) (w : World) (h : Tx w v xs) (b : Bool) (hb : b = true ↔ s ∈ xs) :
    Calls Tryd.prog 54 #[v, .string s] w fun e w' => e = .returned (.bool b) ∧ w' = w := by
  have hn1 : (xs.length : Int) ≤ 4611686018427387904 := by have := h.1; omega
  have HB : Hid (b = true ↔ s ∈ xs) := hb
  rcases h.2 with ⟨rfl, a, cap, rfl⟩ | ⟨h0, g, o, cap, rfl, hc, hrow⟩
  · have hbf : b = false := by
      cases b with
      | false => rfl
      | true => exact absurd (hb.1 rfl) (by simp)
    subst hbf
    clear h hb HB
    go_enter Tryd.func54, Tryd.ntmps54
    go_wp2
    refine wp_loop_rounds 1 ?_
    rw [rounds_succ]
    go_wp2
    go_ret
    exact ⟨rfl, rfl⟩
  · have HC : Hid (Row w g o xs) := hrow
    clear h hrow hb
    go_enter Tryd.func54, Tryd.ntmps54
    go_wp2
    go_loop [5] (fun i => ∃ k : Nat, k ≤ xs.length ∧ i = .int .i64 k ∧ Hid (s ∉ xs.take k)) (fun i => xs.length - (intOf i).toNat)
    case atStart => exact ⟨0, Nat.zero_le _, rfl, by show _ ∉ _; simp⟩
    case round =>
      obtain ⟨k, hk, rfl, HK⟩ := hrel
      by_cases hlt : k < xs.length
      · have c1 := HC.out k hlt
        by_cases he : xs[k] = s
        · have hq : (xs[k].toList == s.toList) = true := by rw [he]; simp
          have hbt : b = true := HB.out.2 (by rw [← he]; exact List.getElem_mem hlt)
          subst hbt
          clear he HB
          generalize xs[k] = x at c1 hq
          go_wp2
          go_ret
          exact ⟨rfl, rfl⟩
        · have hq : (xs[k].toList == s.toList) = false := by
            rw [beq_eq_false_iff_ne]
            exact fun h => he (b_ext h)
          have HN : Hid (s ∉ xs.take (k + 1)) := by
            show _ ∉ _
            rw [List.take_succ_eq_append_getElem hlt, List.mem_append]
            rintro (h | h)
            · exact HK.out h
            · simp at h; exact he h.symm
          clear he
          generalize xs[k] = x at c1 hq
          go_wp2
          refine ⟨⟨k + 1, by omega, by go_num, HN⟩, by simp [intOf]; omega⟩
      · obtain rfl : k = xs.length := by omega
        have hbf : b = false := by
          cases b with
          | false => rfl
          | true =>
            have := HK.out
            rw [List.take_length] at this
            exact absurd (HB.out.1 rfl) this
        subst hbf
        clear HB
        go_wp2
        go_ret
        exact ⟨rfl, rfl⟩

set_option maxHeartbeats 4000000 in
set_option maxRecDepth 100000 in
theorem pairText_any (a b : ByteArray) (w : World) (ha : digOk a = true) (hb : digOk b = true) :
    Calls Tryd.prog 55 #[.string a, .string b] w fun e w' => e = .returned (.string (ptB a b)) ∧ Below w.heap.size w w' := by
  obtain ⟨i0, hi, hz0, hz1, hz2⟩ := info_p infB
  have hsa := dig_size ha
  have hsb := dig_size hb
  obtain ⟨s, hs⟩ : ∃ s, s = bothB a b := ⟨_, rfl⟩
  have hcat : ∀ W : World, (Op.stringOp .add a b).run Tryd.prog W = .ok (.string s) W := catS a b s (by rw [hs]; rfl) (by omega)
  have hss : s.size = 128 := by rw [hs]; exact both_size a b hsa hsb
  have HDG : Hid (∀ k, k < 128 → digB (((s.data.toList.getD k 0).toNat : Nat) : Int) = true) := fun k hk => by
    rw [hs, both_get a b hsa]
    split
    · exact dig_at ha k (by assumption)
    · exact dig_at hb (k - 64) (by omega)
  have HPB : Hid (ptB a b = ⟨(1 :: rawN s 64).toArray⟩) := by rw [hs]; exact pt_both a b hsa hsb
  have HSZ : Hid (s.size = 128) := hss
  have hs2 : (s.size : Int) = 128 := by omega
  rw [HPB.out]
  clear ha hb hs hsa hsb hss HPB
  have HO0 : Hid ((w.alloc (.cells #[.int .u8 1] 5)).ownsRow w.heap.size 5 1 (.slice (some ⟨w.heap.size, 0, none⟩) 1 1) 1 [.int .u8 1]) := World.ownsRow_lit w #[.int .u8 1] 1 (Nat.le_refl _) (by unfold maxLen; omega) rfl
  go_enter Tryd.func55, Tryd.ntmps55
  go_wp2
  go_loopw [5, 7] (fun v i wr => ∃ k : Nat, k ≤ 64 ∧ i = .int .i64 (2 * (k : Int)) ∧ wr.ownsRow w.heap.size 5 1 v (k + 1) (bcs (1 :: rawN s k)) ∧ Below w.heap.size w wr) (fun _ i _ => 129 - (intOf i).toNat)
  case atStart => exact ⟨0, by omega, rfl, HO0.out, (Below.refl _ _).alloc (Nat.le_refl _) _⟩
  case round =>
    clear HO0 hcat
    obtain ⟨k, hk, rfl, hok, hb⟩ := hrel
    have HO : Hid (wr.ownsRow w.heap.size 5 1 u5 (k + 1) (bcs (1 :: rawN s k))) := hok
    have HB : Hid (Below w.heap.size w wr) := hb
    clear hok hb
    by_cases hlt : k < 64
    · have hsz := HSZ.out
      have k1 : 2 * k < s.size := by omega
      have k2 : 2 * k + 1 < s.size := by omega
      have g1 := dig_worth _ (HDG.out (2 * k) (by omega))
      have g2 := dig_worth _ (HDG.out (2 * k + 1) (by omega))
      rw [getD_at s _ k1] at g1
      rw [getD_at s _ k2] at g2
      have HN : Hid (rawN s (k + 1) = rawN s k ++ [UInt8.ofNat (two s[2 * k].toNat s[2 * k + 1].toNat)]) := by
        show _ = _
        rw [show rawN s (k + 1) = rawN s k ++ [UInt8.ofNat (two (s.data.toList.getD (2 * k) 0).toNat (s.data.toList.getD (2 * k + 1) 0).toNat)] from rfl, getD_at s _ k1, getD_at s _ k2]
      have HW1 : Hid (∀ w, Calls Tryd.prog 52 #[.int .u8 (s[2 * k].toNat : Nat)] w fun e w' => e = .returned (.int .i64 (wth s[2 * k].toNat : Nat)) ∧ w' = w) := fun w => by rw [← g1.1]; exact hexOf_any _ w s[2 * k].toNat_lt
      have HW2 : Hid (∀ w, Calls Tryd.prog 52 #[.int .u8 (s[2 * k + 1].toNat : Nat)] w fun e w' => e = .returned (.int .i64 (wth s[2 * k + 1].toNat : Nat)) ∧ w' = w) := fun w => by rw [← g2.1]; exact hexOf_any _ w s[2 * k + 1].toNat_lt
      have htw := two_dig s[2 * k].toNat s[2 * k + 1].toNat g1.2 g2.2
      have l1 := g1.2
      have l2 := g2.2
      generalize two s[2 * k].toNat s[2 * k + 1].toNat = tw at HN htw
      generalize wth s[2 * k].toNat = x1 at HW1 l1 htw g1
      generalize wth s[2 * k + 1].toNat = x2 at HW2 l2 htw g2
      obtain ⟨y1, hy1⟩ : ∃ y1, y1 = 16 * x1 := ⟨_, rfl⟩
      have m1 : 16 * (x1 : Int) = (y1 : Int) := by omega
      have m2 : (y1 : Int) + (x2 : Int) = (tw : Int) := by omega
      have htl : tw < 256 := by omega
      have mx1 : max (0 : Int) (x1 : Int) = (x1 : Int) := by omega
      have mx2 : max (0 : Int) (x2 : Int) = (x2 : Int) := by omega
      have HT : Hid (tw < 256) := htl
      obtain ⟨c1, hc1⟩ : ∃ c1 : Int, (s[2 * k].toNat : Int) = c1 := ⟨_, rfl⟩
      obtain ⟨c2, hc2⟩ : ∃ c2 : Int, (s[2 * k + 1].toNat : Int) = c2 := ⟨_, rfl⟩
      rw [hc1] at HW1
      rw [hc2] at HW2
      have b0 : (0 : Int) ≤ 2 * (k : Int) := by omega
      have b1 : (0 : Int) ≤ 2 * (k : Int) + 1 := by omega
      have d0 : 2 * (k : Int) < s.size := by omega
      have d1 : 2 * (k : Int) + 1 < s.size := by omega
      have t0 : (2 * (k : Int)).toNat = 2 * k := by omega
      have t1 : (2 * (k : Int) + 1).toNat = 2 * k + 1 := by omega
      have hki : (k : Int) ≤ 500000 := by omega
      have q1 : k + 1 + 1 ≤ maxLen := by unfold maxLen; omega
      have q2 : (k + 1 + 1) * 1 ≤ 140737488355328 := by omega
      have q3 : w.heap.size ≤ ((wr.alloc (.cells #[.int .u8 (tw : Int)] 5)).drew).heap.size := by show w.heap.size ≤ (wr.alloc (.cells #[.int .u8 (tw : Int)] 5)).heap.size; rw [World.size_alloc]; have := HB.out.size; omega
      have q4 : ((wr.alloc (.cells #[.int .u8 (tw : Int)] 5)).drew).heap.size = wr.heap.size + 1 := by show (wr.alloc (.cells #[.int .u8 (tw : Int)] 5)).heap.size = _; rw [World.size_alloc]
      have HOW : Hid (((wr.alloc (.cells #[.int .u8 (tw : Int)] 5)).drew).ownsRow w.heap.size 5 1 u5 (k + 1) (bcs (1 :: rawN s k))) := HO.out.alloc _
      have HNW : Hid (∀ (j : Nat) (u : Value), [Value.int .u8 (tw : Int)][j]? = some u → ((wr.alloc (.cells #[.int .u8 (tw : Int)] 5)).drew).cell? ((⟨wr.heap.size, 0, none⟩ : Addr).add j) = some u) := by
        intro j u hj
        match j, hj with
        | 0, hj =>
          simp at hj
          subst hj
          exact al_at wr _ _ _ 0 _ rfl rfl
      have hone : ∀ u ∈ [Value.int .u8 (tw : Int)], u.oneCell' = true := by intro u hu; simp at hu; subst hu; rfl
      have j1 : IntKind.i64.wrap (2 * (k : Int) + 1) = 2 * (k : Int) + 1 := wr1 k (by omega)
      have j2 := wr62 y1 (by omega)
      have j3 := wr62 tw (by omega)
      have j4 : IntKind.u8.wrap (tw : Int) = (tw : Int) := by rw [IntKind.wrap_u8]; clear j1 j2 j3; omega
      clear hsz l1 l2 htl hs2 hy1 htw g1 g2
      go_wp2
      go_region_held3 (fun w' => Below w.heap.size w w')
        (first | assumption | (exact HB.out.drew) | (exact (HB.out.alloc HB.out.size _).drew) | (exact ((HB.out.alloc HB.out.size _).drew).grown hgrow q3 (fun j hj => (HO.out.lt j hj).1)))
        (first
          | (go_at_call_of 52 (Value.int IntKind.u8 c1); refine (HW1.out _).mono ?_; rintro e w' ⟨rfl, rfl⟩)
          | (go_at_call_of 52 (Value.int IntKind.u8 c2); refine (HW2.out _).mono ?_; rintro e w' ⟨rfl, rfl⟩)
          | ((refine step_append_lies ((wr.alloc (.cells #[.int .u8 (tw : Int)] 5)).drew) (by rfl) (Operand.tmp 19) (Operand.tmp 34) 55 (by rfl) w.heap.size 5 i0 (.int .u8 0) 1 1 Tryd.underlying55 hi hz0 hz1 hz2 rfl (by decide) u5 (k + 1) (bcs (1 :: rawN s k)) (by rfl) HOW.out ⟨wr.heap.size, 0, none⟩ 1 1 [.int .u8 (tw : Int)] (by rfl) rfl HNW.out hone (by decide) q1 q2 q3 (wr.heap.size + 1) q4 ?_; intro g cap w1 hown1 hgrow hat hltg))
          | fail)
      all_goals
        have hrow : ∀ j, Value.ownBlock u5 = some j → w.heap.size ≤ j := fun j hj => (HO.out.lt j hj).1
        have HB5 : Hid (Below w.heap.size w w1) := ((HB.out.alloc HB.out.size _).drew).grown hgrow q3 hrow
        have HO5 : Hid (w1.ownsRow w.heap.size 5 1 (.slice (some ⟨g, 0, none⟩) (k + 1 + 1) cap) (k + 1 + 1) (bcs (1 :: rawN s (k + 1)))) := by
          have e : bcs (1 :: rawN s (k + 1)) = bcs (1 :: rawN s k) ++ [.int .u8 (tw : Int)] := by
            rw [HN.out]
            have e2 : (UInt8.ofNat tw).toNat = tw := by have := HT.out; simp [UInt8.toNat_ofNat']; omega
            simp [bcs, e2]
          rw [e]
          exact hown1
        clear hown1 hgrow hat hltg hrow j1 j2 j3 j4
        go_wp2
        exact ⟨⟨k + 1, by omega, by go_num, HO5.out, HB5.out⟩, by simp [intOf]; omega⟩
    · obtain rfl : k = 64 := by omega
      obtain ⟨g, cap, hug, -, -⟩ := HO.out.form (by omega)
      subst hug
      have hcv : (convert 55 9 (.slice (some ⟨g, 0, none⟩) (64 + 1) cap)).run Tryd.prog wr = .ok (.string ⟨(1 :: rawN s 64).toArray⟩) wr := by
        rw [show 64 + 1 = (1 :: rawN s 64).length from by rw [List.length_cons, rawN_len]]
        refine run_convert_bytes_back wr 55 9 5 ⟨g, 0, none⟩ cap (1 :: rawN s 64) Tryd.underlying55 Tryd.underlying5 Tryd.underlying9 fun j hj => ?_
        rw [add0]
        have hj' : j < 65 := by rw [List.length_cons, rawN_len] at hj; exact hj
        refine (HO.out.cellAt j (by omega)).trans ?_
        rw [bcs_get _ j hj, List.getD_eq_getElem?_getD, List.getElem?_eq_getElem hj]
        rfl
      obtain ⟨by1, hby⟩ : ∃ by1 : ByteArray, by1 = ⟨(1 :: rawN s 64).toArray⟩ := ⟨_, rfl⟩
      have HBY : Hid (by1 = ⟨(1 :: rawN s 64).toArray⟩) := hby
      rw [← hby] at hcv
      clear hby
      go_wp2
      go_ret
      exact ⟨by rw [← HBY.out]; rfl, HB.out⟩
end Go.Proofs.YtagelkaenbdlaaaDoor
