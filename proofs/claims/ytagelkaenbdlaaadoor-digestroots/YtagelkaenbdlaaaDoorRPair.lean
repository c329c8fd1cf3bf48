/- The document's own PairOf, of two digests. -/
import Derived.Test.YtagelkaenbdlaaaDoorRSumS
import Derived.Test.YtagelkaenbdlaaaDoorRoot
namespace Go.Proofs.YtagelkaenbdlaaaDoor
open Go.RowKit

/-- A digit of a digest: what it is worth. -/
theorem dig_worth (c : Nat) (h : digB (c : Int) = true) : hexI (c : Int) = ((wth c : Nat) : Int) ∧ wth c < 16 := by
  unfold digB at h
  unfold hexI wth
  simp at h
  rcases h with h | h
  · rw [if_pos (by omega), if_pos (by omega)]
    omega
  · rw [if_neg (by omega), if_pos (by omega), if_neg (by omega)]
    omega
theorem two_dig (a b : Nat) (ha : wth a < 16) (hb : wth b < 16) : two a b = 16 * wth a + wth b := by
  unfold two
  rw [Nat.mod_eq_of_lt (by omega), Nat.mul_comm, show 16 * wth a = 2 ^ 4 * wth a from rfl, ← Nat.two_pow_add_eq_or_of_lt hb]
theorem dig_at {s : ByteArray} (h : digOk s = true) (k : Nat) (hk : k < 64) : digB (((s.data.toList.getD k 0).toNat : Nat) : Int) = true := by
  unfold digOk at h
  rw [Bool.and_eq_true, decide_eq_true_eq] at h
  have hk' : k < s.data.toList.length := by rw [s_len]; omega
  rw [Lib.toList_data] at h
  have := List.all_eq_true.1 h.2 s.data.toList[k] (List.getElem_mem hk')
  rw [List.getD_eq_getElem?_getD, List.getElem?_eq_getElem hk']
  exact this
/-- Two texts, one behind the other. -/
def bothB (a b : ByteArray) : ByteArray := ⟨(a.data.toList ++ b.data.toList).toArray⟩
theorem both_get (a b : ByteArray) (ha : a.size = 64) (k : Nat) : (bothB a b).data.toList.getD k 0 = if k < 64 then a.data.toList.getD k 0 else b.data.toList.getD (k - 64) 0 := by
  have hl : a.data.toList.length = 64 := by rw [s_len]; exact ha
  show (a.data.toList ++ b.data.toList).getD k 0 = _
  rw [List.getD_eq_getElem?_getD, List.getElem?_append, hl]
  split
  · rw [List.getD_eq_getElem?_getD]
  · rw [List.getD_eq_getElem?_getD]
theorem raw_left (a b : ByteArray) (ha : a.size = 64) (k : Nat) (hk : k ≤ 32) : rawN (bothB a b) k = rawN a k := by
  induction k with
  | zero => rfl
  | succ k ih =>
    show rawN (bothB a b) k ++ _ = rawN a k ++ _
    rw [ih (by omega), both_get a b ha, both_get a b ha, if_pos (by omega), if_pos (by omega)]
theorem raw_right (a b : ByteArray) (ha : a.size = 64) (k : Nat) : rawN (bothB a b) (32 + k) = rawN a 32 ++ rawN b k := by
  induction k with
  | zero => rw [Nat.add_zero, raw_left a b ha 32 (Nat.le_refl _)]; simp [rawN]
  | succ k ih =>
    show rawN (bothB a b) (32 + k) ++ [UInt8.ofNat (two ((bothB a b).data.toList.getD (2 * (32 + k)) 0).toNat ((bothB a b).data.toList.getD (2 * (32 + k) + 1) 0).toNat)] = _
    rw [ih, both_get a b ha, both_get a b ha, if_neg (by omega), if_neg (by omega), show 2 * (32 + k) - 64 = 2 * k from by omega, show 2 * (32 + k) + 1 - 64 = 2 * k + 1 from by omega, List.append_assoc]
    rfl
theorem both_size (a b : ByteArray) (ha : a.size = 64) (hb : b.size = 64) : (bothB a b).size = 128 := by
  rw [d_size (s := bothB a b) (l := a.data.toList ++ b.data.toList) rfl, List.length_append, s_len, s_len, ha, hb]
theorem pair_both (a b : ByteArray) (ha : a.size = 64) (hb : b.size = 64) : pairB a b = sm ⟨(1 :: rawN (bothB a b) 64).toArray⟩ := by
  unfold pairB rawB
  rw [ha, hb, show 64 = 32 + 32 from rfl, raw_right a b ha 32]

set_option maxHeartbeats 4000000 in
set_option maxRecDepth 100000 in
theorem PairOf_any (a b : ByteArray) (w : World) (ha : digOk a = true) (hb : digOk b = true) :
    Calls Tryd.prog 27 #[.string a, .string b] w fun e w' => e = .returned (.string (pairB a b)) ∧ Below w.heap.size w w' := by
  obtain ⟨i0, hi, hz0, hz1, hz2⟩ := info_p infB
  have hsa := dig_size ha
  have hsb := dig_size hb
  obtain ⟨s, hs⟩ : ∃ s, s = bothB a b := ⟨_, rfl⟩
  have hcat : ∀ W : World, (Op.stringOp .add a b).run Tryd.prog W = .ok (.string s) W := catS a b s (by rw [hs]; rfl) (by omega)
  have hss : s.size = 128 := by rw [hs]; exact both_size a b hsa hsb
  have HDG : Hid (∀ k, k < 128 → digB (((s.data.toList.getD k 0).toNat : Nat) : Int) = true) := fun k hk => by
    rw [hs, both_get a b hsa]
    split
    · exact dig_at ha k (by assumption)
    · exact dig_at hb (k - 64) (by omega)
  have HPB : Hid (pairB a b = sm ⟨(1 :: rawN s 64).toArray⟩) := by rw [hs]; exact pair_both a b hsa hsb
  have HSU : Hid (∀ W : World, Calls Tryd.prog 11 #[.string ⟨(1 :: rawN s 64).toArray⟩] W fun e w' => e = .returned (.string (pairB a b)) ∧ Below W.heap.size W w') := fun W => by
    rw [HPB.out]
    unfold sm
    rw [sum_plain]
    exact Sum_doc _ W (by rw [d_size (s := ⟨(1 :: rawN s 64).toArray⟩) (l := 1 :: rawN s 64) rfl, List.length_cons, rawN_len]; decide)
  have HSZ : Hid (s.size = 128) := hss
  have hs2 : (s.size : Int) = 128 := by omega
  generalize pairB a b = pr at HSU
  clear ha hb hs hsa hsb hss HPB
  have HO0 : Hid ((w.alloc (.cells #[.int .u8 1] 5)).ownsRow w.heap.size 5 1 (.slice (some ⟨w.heap.size, 0, none⟩) 1 1) 1 [.int .u8 1]) := World.ownsRow_lit w #[.int .u8 1] 1 (Nat.le_refl _) (by unfold maxLen; omega) rfl
  go_enter Tryd.func27, Tryd.ntmps27
  go_wp2
  go_loopw [5, 7] (fun v i wr => ∃ k : Nat, k ≤ 64 ∧ i = .int .i64 (2 * (k : Int)) ∧ wr.ownsRow w.heap.size 5 1 v (k + 1) (bcs (1 :: rawN s k)) ∧ Below w.heap.size w wr) (fun _ i _ => 129 - (intOf i).toNat)
  case atStart => exact ⟨0, by omega, rfl, HO0.out, (Below.refl _ _).alloc (Nat.le_refl _) _⟩
  case round =>
    clear HO0 hcat
    obtain ⟨k, hk, rfl, hok, hb⟩ := hrel
    have HO : Hid (wr.ownsRow w.heap.size 5 1 u5 (k + 1) (bcs (1 :: rawN s k))) := hok
    have HB : Hid (Below w.heap.size w wr) := hb
    clear hok hb
    by_cases hlt : k < 64
    · have hsz := HSZ.out
      have k1 : 2 * k < s.size := by omega
      have k2 : 2 * k + 1 < s.size := by omega
      have g1 := dig_worth _ (HDG.out (2 * k) (by omega))
      have g2 := dig_worth _ (HDG.out (2 * k + 1) (by omega))
      rw [getD_at s _ k1] at g1
      rw [getD_at s _ k2] at g2
      have HN : Hid (rawN s (k + 1) = rawN s k ++ [UInt8.ofNat (two s[2 * k].toNat s[2 * k + 1].toNat)]) := by
        show _ = _
        rw [show rawN s (k + 1) = rawN s k ++ [UInt8.ofNat (two (s.data.toList.getD (2 * k) 0).toNat (s.data.toList.getD (2 * k + 1) 0).toNat)] from rfl, getD_at s _ k1, getD_at s _ k2]
      have HW1 : Hid (∀ w, Calls Tryd.prog 52 #[.int .u8 (s[2 * k].toNat : Nat)] w fun e w' => e = .returned (.int .i64 (wth s[2 * k].toNat : Nat)) ∧ w' = w) := fun w => by rw [← g1.1]; exact hexOf_any _ w s[2 * k].toNat_lt
      have HW2 : Hid (∀ w, Calls Tryd.prog 52 #[.int .u8 (s[2 * k + 1].toNat : Nat)] w fun e w' => e = .returned (.int .i64 (wth s[2 * k + 1].toNat : Nat)) ∧ w' = w) := fun w => by rw [← g2.1]; exact hexOf_any _ w s[2 * k + 1].toNat_lt
      have htw := two_dig s[2 * k].toNat s[2 * k + 1].toNat g1.2 g2.2
      have l1 := g1.2
      have l2 := g2.2
      generalize two s[2 * k].toNat s[2 * k + 1].toNat = tw at HN htw
      generalize wth s[2 * k].toNat = x1 at HW1 l1 htw g1
      generalize wth s[2 * k + 1].toNat = x2 at HW2 l2 htw g2
      obtain ⟨y1, hy1⟩ : ∃ y1, y1 = 16 * x1 := ⟨_, rfl⟩
      have m1 : 16 * (x1 : Int) = (y1 : Int) := by omega
      have m2 : (y1 : Int) + (x2 : Int) = (tw : Int) := by omega
      have htl : tw < 256 := by omega
      have HT : Hid (tw < 256) := htl
      obtain ⟨c1, hc1⟩ : ∃ c1 : Int, (s[2 * k].toNat : Int) = c1 := ⟨_, rfl⟩
      obtain ⟨c2, hc2⟩ : ∃ c2 : Int, (s[2 * k + 1].toNat : Int) = c2 := ⟨_, rfl⟩
      rw [hc1] at HW1
      rw [hc2] at HW2
      have b0 : (0 : Int) ≤ 2 * (k : Int) := by omega
      have b1 : (0 : Int) ≤ 2 * (k : Int) + 1 := by omega
      have d0 : 2 * (k : Int) < s.size := by omega
      have d1 : 2 * (k : Int) + 1 < s.size := by omega
      have t0 : (2 * (k : Int)).toNat = 2 * k := by omega
      have t1 : (2 * (k : Int) + 1).toNat = 2 * k + 1 := by omega
      have hki : (k : Int) ≤ 500000 := by omega
      have q1 : k + 1 + 1 ≤ maxLen := by unfold maxLen; omega
      have q2 : (k + 1 + 1) * 1 ≤ 140737488355328 := by omega
      have q3 : w.heap.size ≤ ((wr.alloc (.cells #[.int .u8 (tw : Int)] 5)).drew).heap.size := by show w.heap.size ≤ (wr.alloc (.cells #[.int .u8 (tw : Int)] 5)).heap.size; rw [World.size_alloc]; have := HB.out.size; omega
      have q4 : ((wr.alloc (.cells #[.int .u8 (tw : Int)] 5)).drew).heap.size = wr.heap.size + 1 := by show (wr.alloc (.cells #[.int .u8 (tw : Int)] 5)).heap.size = _; rw [World.size_alloc]
      have HOW : Hid (((wr.alloc (.cells #[.int .u8 (tw : Int)] 5)).drew).ownsRow w.heap.size 5 1 u5 (k + 1) (bcs (1 :: rawN s k))) := HO.out.alloc _
      have HNW : Hid (∀ (j : Nat) (u : Value), [Value.int .u8 (tw : Int)][j]? = some u → ((wr.alloc (.cells #[.int .u8 (tw : Int)] 5)).drew).cell? ((⟨wr.heap.size, 0, none⟩ : Addr).add j) = some u) := by
        intro j u hj
        match j, hj with
        | 0, hj =>
          simp at hj
          subst hj
          exact al_at wr _ _ _ 0 _ rfl rfl
      have hone : ∀ u ∈ [Value.int .u8 (tw : Int)], u.oneCell' = true := by intro u hu; simp at hu; subst hu; rfl
      have j1 : IntKind.i64.wrap (2 * (k : Int) + 1) = 2 * (k : Int) + 1 := wr1 k (by omega)
      have j2 := wr62 y1 (by omega)
      have j3 := wr62 tw (by omega)
      have j4 : IntKind.u8.wrap (tw : Int) = (tw : Int) := by rw [IntKind.wrap_u8]; clear j1 j2 j3; omega
      clear hsz l1 l2 htl hs2 hy1 htw g1 g2
      go_wp2
      go_region_held3 (fun w' => Below w.heap.size w w')
        (first | assumption | (exact HB.out.drew) | (exact (HB.out.alloc HB.out.size _).drew) | (exact ((HB.out.alloc HB.out.size _).drew).grown hgrow q3 (fun j hj => (HO.out.lt j hj).1)))
        (first
          | (go_at_call_of 52 (Value.int IntKind.u8 c1); refine (HW1.out _).mono ?_; rintro e w' ⟨rfl, rfl⟩)
          | (go_at_call_of 52 (Value.int IntKind.u8 c2); refine (HW2.out _).mono ?_; rintro e w' ⟨rfl, rfl⟩)
          | ((refine step_append_lies ((wr.alloc (.cells #[.int .u8 (tw : Int)] 5)).drew) (by rfl) (Operand.tmp 18) (Operand.tmp 31) 55 (by rfl) w.heap.size 5 i0 (.int .u8 0) 1 1 Tryd.underlying55 hi hz0 hz1 hz2 rfl (by decide) u5 (k + 1) (bcs (1 :: rawN s k)) (by rfl) HOW.out ⟨wr.heap.size, 0, none⟩ 1 1 [.int .u8 (tw : Int)] (by rfl) rfl HNW.out hone (by decide) q1 q2 q3 (wr.heap.size + 1) q4 ?_; intro g cap w1 hown1 hgrow hat hltg))
          | fail)
      all_goals
        have hrow : ∀ j, Value.ownBlock u5 = some j → w.heap.size ≤ j := fun j hj => (HO.out.lt j hj).1
        have HB5 : Hid (Below w.heap.size w w1) := ((HB.out.alloc HB.out.size _).drew).grown hgrow q3 hrow
        have HO5 : Hid (w1.ownsRow w.heap.size 5 1 (.slice (some ⟨g, 0, none⟩) (k + 1 + 1) cap) (k + 1 + 1) (bcs (1 :: rawN s (k + 1)))) := by
          have e : bcs (1 :: rawN s (k + 1)) = bcs (1 :: rawN s k) ++ [.int .u8 (tw : Int)] := by
            rw [HN.out]
            have e2 : (UInt8.ofNat tw).toNat = tw := by have := HT.out; simp [UInt8.toNat_ofNat']; omega
            simp [bcs, e2]
          rw [e]
          exact hown1
        clear hown1 hgrow hat hltg hrow j1 j2 j3 j4
        go_wp2
        exact ⟨⟨k + 1, by omega, by go_num, HO5.out, HB5.out⟩, by simp [intOf]; omega⟩
    · obtain rfl : k = 64 := by omega
      obtain ⟨g, cap, hug, -, -⟩ := HO.out.form (by omega)
      subst hug
      have hcv : (convert 55 9 (.slice (some ⟨g, 0, none⟩) (64 + 1) cap)).run Tryd.prog wr = .ok (.string ⟨(1 :: rawN s 64).toArray⟩) wr := by
        rw [show 64 + 1 = (1 :: rawN s 64).length from by rw [List.length_cons, rawN_len]]
        refine run_convert_bytes_back wr 55 9 5 ⟨g, 0, none⟩ cap (1 :: rawN s 64) Tryd.underlying55 Tryd.underlying5 Tryd.underlying9 fun j hj => ?_
        rw [add0]
        have hj' : j < 65 := by rw [List.length_cons, rawN_len] at hj; exact hj
        refine (HO.out.cellAt j (by omega)).trans ?_
        rw [bcs_get _ j hj, List.getD_eq_getElem?_getD, List.getElem?_eq_getElem hj]
        rfl
      generalize (⟨(1 :: rawN s 64).toArray⟩ : ByteArray) = by1 at hcv HSU
      go_wp2_with fail
      refine (HSU.out _).mono ?_
      rintro e w2 ⟨rfl, hb2⟩
      have B2 : Hid (Below w.heap.size w w2) := bl_tr HB.out hb2
      clear hb2
      go_wp2
      go_ret
      exact ⟨rfl, B2.out⟩
end Go.Proofs.YtagelkaenbdlaaaDoor
