/- What the document's own CheckResult and PackResult answer. -/
import Derived.Test.YtligalcphlfmcadPackR
import Derived.Test.YtligalcphlfmcadRefTexts
import Derived.Deep.RegionHeld3
namespace Go.Proofs.Ytligalcphlfmcad
open Go.RowKit Go.Shelf

theorem isNumber_noN (n : Int) (w : World) : Calls Try.prog 22 #[.int .i64 n] w fun e w' => e = .returned (.bool (!noN n)) ∧ w' = w := by
  refine (isNumber_any n w).mono ?_
  rintro e w' ⟨rfl, rfl⟩
  refine ⟨?_, rfl⟩
  rw [show (decide (0 ≤ n) && decide (n ≤ 9007199254740991)) = !noN n from ?_]
  unfold noN
  rw [Bool.eq_iff_iff]
  simp

set_option maxHeartbeats 1000000 in
theorem cr_any (c d : Int) (s : ByteArray) (w : World) (hs : s.size ≤ maxLen) :
    Calls Try.prog 9 #[Rv c s d] w fun e w' => e = .returned (.int .i64 (reC c s d)) ∧ Below w.heap.size w w' := by
  have hb0 : Below w.heap.size w (w.alloc (.cells #[.int .i64 c, .string s, .int .i64 d] 23)) := (Below.refl _ _).alloc (Nat.le_refl _) _
  have HB0 : Hid _ := hb0
  clear hb0
  by_cases h1 : noN c = true
  · have HR : Hid (reC c s d = 3) := by show _ = _; simp [reC, h1]
    go_enter Try.func9, Try.ntmps9
    go_wp2_with fail
    refine (isNumber_noN c _).mono ?_
    rintro e w1 ⟨rfl, rfl⟩
    rw [h1]
    go_wp2
    go_ret
    exact ⟨by rw [HR.out]; rfl, HB0.out⟩
  have h1' : noN c = false := by simpa using h1
  clear h1
  by_cases h2 : noN d = true
  · have HR : Hid (reC c s d = 3) := by show _ = _; simp [reC, h1', h2]
    go_enter Try.func9, Try.ntmps9
    go_wp2_with fail
    refine (isNumber_noN c _).mono ?_
    rintro e w1 ⟨rfl, rfl⟩
    rw [h1']
    go_wp2_with fail
    refine (isNumber_noN d _).mono ?_
    rintro e w1 ⟨rfl, rfl⟩
    rw [h2]
    go_wp2
    go_ret
    exact ⟨by rw [HR.out]; rfl, HB0.out⟩
  have h2' : noN d = false := by simpa using h2
  clear h2
  by_cases h3 : digOk s = true
  · have HR : Hid (reC c s d = 0) := by show _ = _; simp [reC, h1', h2', h3]
    go_enter Try.func9, Try.ntmps9
    go_wp2_with fail
    refine (isNumber_noN c _).mono ?_
    rintro e w1 ⟨rfl, rfl⟩
    rw [h1']
    go_wp2_with fail
    refine (isNumber_noN d _).mono ?_
    rintro e w1 ⟨rfl, rfl⟩
    rw [h2']
    go_wp2_with fail
    refine (RIsDigest_any s _ hs).mono ?_
    rintro e w1 ⟨rfl, rfl⟩
    rw [h3]
    go_wp2
    go_ret
    exact ⟨by rw [HR.out]; rfl, HB0.out⟩
  have h3' : digOk s = false := by simpa using h3
  clear h3
  have HR : Hid (reC c s d = 1) := by show _ = _; simp [reC, h1', h2', h3']
  go_enter Try.func9, Try.ntmps9
  go_wp2_with fail
  refine (isNumber_noN c _).mono ?_
  rintro e w1 ⟨rfl, rfl⟩
  rw [h1']
  go_wp2_with fail
  refine (isNumber_noN d _).mono ?_
  rintro e w1 ⟨rfl, rfl⟩
  rw [h2']
  go_wp2_with fail
  refine (RIsDigest_any s _ hs).mono ?_
  rintro e w1 ⟨rfl, rfl⟩
  rw [h3']
  go_wp2
  go_ret
  exact ⟨by rw [HR.out]; rfl, HB0.out⟩

set_option maxHeartbeats 2000000 in
set_option maxRecDepth 100000 in
theorem packresult_any (c d : Nat) (s : ByteArray) (w : World) (hc : c ≤ 9007199254740991) (hd : d ≤ 9007199254740991) (hs : s.size ≤ 100000) :
    Calls Try.prog 10 #[Rv c s d] w fun e w' => e = .returned (.string ⟨(pkR c s d).toArray⟩) ∧ Below w.heap.size w w' := by
  have h1 := pk_len8 c hc
  have h2 := pk_len8 d hd
  have h3 := pk_len8 s.size (by omega)
  have h4 : (pkT s).length = (pk s.size).length + s.size := by unfold pkT; rw [List.length_append, size_of (s := s) rfl]
  have hadd1 : ∀ W : World, (Op.stringOp .add ⟨(pk c).toArray⟩ ⟨(pkT s).toArray⟩).run Try.prog W = .ok (.string ⟨(pk c ++ pkT s).toArray⟩) W := addll _ _ (by omega)
  have hadd2 : ∀ W : World, (Op.stringOp .add ⟨(pk c ++ pkT s).toArray⟩ ⟨(pk d).toArray⟩).run Try.prog W = .ok (.string ⟨(pk c ++ pkT s ++ pk d).toArray⟩) W := addll _ _ (by rw [List.length_append]; omega)
  have hs1 : s.size ≤ 9007199254740991 := by omega
  clear h1 h2 h3 h4
  go_enter Try.func10, Try.ntmps10
  go_wp2_with fail
  go_region_held3 (fun w' => w'.cell? ⟨w.heap.size, 0, none⟩ = some (.int .i64 c) ∧ w'.cell? ⟨w.heap.size, 1, none⟩ = some (.string s) ∧ w'.cell? ⟨w.heap.size, 2, none⟩ = some (.int .i64 d) ∧ w.heap.size < w'.heap.size)
    (first | (simp [go_sem]; done) | (go_split_ands; refine ⟨?_, ?_, ?_, ?_⟩ <;> first | (exact Nat.lt_of_lt_of_le (by assumption) hb3.size) | (rw [hb3.cell (p := ⟨w.heap.size, _, none⟩) (by assumption)]; assumption) | (exact Nat.lt_of_lt_of_le (by assumption) hb2.size) | (rw [hb2.cell (p := ⟨w.heap.size, _, none⟩) (by assumption)]; assumption) | (exact Nat.lt_of_lt_of_le (by assumption) hb1.size) | (rw [hb1.cell (p := ⟨w.heap.size, _, none⟩) (by assumption)]; assumption)))
    (first
      | (go_at_call_of 24 (Value.int IntKind.i64 (c : Int)); refine (packn_any c c _ (Nat.le_refl _) hc).mono ?_; rintro e w1 ⟨rfl, hb1⟩)
      | (go_at_call 25; refine (packtext_any s _ hs1).mono ?_; rintro e w2 ⟨rfl, hb2⟩)
      | (go_at_call_of 24 (Value.int IntKind.i64 (d : Int)); refine (packn_any d d _ (Nat.le_refl _) hd).mono ?_; rintro e w3 ⟨rfl, hb3⟩))
  go_wp2
  go_ret
  refine ⟨rfl, ?_⟩
  have b0 : Below w.heap.size w (w.alloc (.cells #[.int .i64 c, .string s, .int .i64 d] 23)).drew := ((Below.refl _ _).alloc (Nat.le_refl _) _).drew
  have b1 := b0.trans (hb1.mono b0.size)
  have b2 := b1.trans (hb2.mono b1.size)
  exact b2.trans (hb3.mono b2.size)
end Go.Proofs.Ytligalcphlfmcad
