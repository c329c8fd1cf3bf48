/- The program's Shows, whole. -/
import Derived.Test.YtagelkaenbdlaaaDoorShX
import Derived.Test.YtagelkaenbdlaaaDoorDgNone
namespace Go.Proofs.YtagelkaenbdlaaaDoor
open Go.RowKit

set_option maxHeartbeats 1000000 in
theorem Shows_form (r t : ByteArray) (i n : Int) (v : Value) (ps : List ByteArray) (w : World) (h : Tx w v ps) (hf : (digOk r && allD ps) = false) :
    Calls Tryd.prog 19 #[.string r, .string t, .int .i64 i, .int .i64 n, v] w fun e w' => e = .returned (.tuple #[.bool false, .int .i64 1]) ∧ w' = w := by
  have HI : Hid (Calls Tryd.prog 28 #[.string r] w fun e w' => e = .returned (.bool (digOk r)) ∧ w' = w) := Is_any r w
  have HN : Hid (Calls Tryd.prog 47 #[v, .func (.func 48) #[] #[]] w fun e w' => e = .returned (.bool (!allD ps)) ∧ w' = w) := h.cn
  obtain ⟨a, cap, rfl⟩ := h.shape
  generalize ps.length = m at *
  clear h
  cases hr : digOk r with
  | false =>
    rw [hr] at HI
    clear hf hr
    go_enter Tryd.func19, Tryd.ntmps19
    go_wp2_with fail
    refine HI.out.mono ?_
    rintro e w' ⟨rfl, rfl⟩
    go_wp2
    go_ret2
    exact ⟨rfl, rfl⟩
  | true =>
    have hp : allD ps = false := by rw [hr, Bool.true_and] at hf; exact hf
    rw [hr] at HI
    rw [hp] at HN
    clear hf hr hp
    go_enter Tryd.func19, Tryd.ntmps19
    go_wp2_with fail
    refine HI.out.mono ?_
    rintro e w' ⟨rfl, rfl⟩
    go_wp2_with fail
    refine HN.out.mono ?_
    rintro e w' ⟨rfl, rfl⟩
    go_wp2
    go_ret2
    exact ⟨rfl, rfl⟩

theorem dTooLong_lo (t : ByteArray) (w : World) (h : t.size ≤ 100000) : Calls Tryd.prog 49 #[.string t] w fun e w' => e = .returned (.bool false) ∧ w' = w := by
  have := disTooLong_any t w
  rwa [show decide (100000 < t.size) = false from by simp; omega] at this
theorem dTooLong_hi (t : ByteArray) (w : World) (h : 100000 < t.size) : Calls Tryd.prog 49 #[.string t] w fun e w' => e = .returned (.bool true) ∧ w' = w := by
  have := disTooLong_any t w
  rwa [show decide (100000 < t.size) = true from by simpa using h] at this

set_option maxHeartbeats 1000000 in
theorem Shows_many (r t : ByteArray) (i n : Int) (v : Value) (ps : List ByteArray) (w : World) (h : Tx w v ps) (hr : digOk r = true) (hp : allD ps = true) (hm : ¬ (t.size ≤ 100000 ∧ 1 ≤ n ∧ n ≤ 2000)) :
    Calls Tryd.prog 19 #[.string r, .string t, .int .i64 i, .int .i64 n, v] w fun e w' => e = .returned (.tuple #[.bool false, .int .i64 2]) ∧ w' = w := by
  have HI : Hid (Calls Tryd.prog 28 #[.string r] w fun e w' => e = .returned (.bool true) ∧ w' = w) := by rw [← hr]; exact Is_any r w
  have HN : Hid (Calls Tryd.prog 47 #[v, .func (.func 48) #[] #[]] w fun e w' => e = .returned (.bool false) ∧ w' = w) := by
    have := h.cn
    rwa [hp] at this
  obtain ⟨a, cap, rfl⟩ := h.shape
  generalize ps.length = m at *
  clear h hr hp
  by_cases ht : t.size ≤ 100000
  · have HT : Hid (Calls Tryd.prog 49 #[.string t] w fun e w' => e = .returned (.bool false) ∧ w' = w) := dTooLong_lo t w ht
    by_cases h1 : n < 1
    · clear hm ht
      go_enter Tryd.func19, Tryd.ntmps19
      go_wp2_with fail
      refine HI.out.mono ?_
      rintro e w' ⟨rfl, rfl⟩
      go_wp2_with fail
      refine HN.out.mono ?_
      rintro e w' ⟨rfl, rfl⟩
      go_wp2_with fail
      refine HT.out.mono ?_
      rintro e w' ⟨rfl, rfl⟩
      go_wp2
      go_ret2
      exact ⟨rfl, rfl⟩
    · have h2 : 1 ≤ n := by omega
      have h3 : 2000 < n := by omega
      clear hm ht h1
      go_enter Tryd.func19, Tryd.ntmps19
      go_wp2_with fail
      refine HI.out.mono ?_
      rintro e w' ⟨rfl, rfl⟩
      go_wp2_with fail
      refine HN.out.mono ?_
      rintro e w' ⟨rfl, rfl⟩
      go_wp2_with fail
      refine HT.out.mono ?_
      rintro e w' ⟨rfl, rfl⟩
      go_wp2
      go_ret2
      exact ⟨rfl, rfl⟩
  · have HT : Hid (Calls Tryd.prog 49 #[.string t] w fun e w' => e = .returned (.bool true) ∧ w' = w) := dTooLong_hi t w (by omega)
    clear hm ht
    go_enter Tryd.func19, Tryd.ntmps19
    go_wp2_with fail
    refine HI.out.mono ?_
    rintro e w' ⟨rfl, rfl⟩
    go_wp2_with fail
    refine HN.out.mono ?_
    rintro e w' ⟨rfl, rfl⟩
    go_wp2_with fail
    refine HT.out.mono ?_
    rintro e w' ⟨rfl, rfl⟩
    go_wp2
    go_ret2
    exact ⟨rfl, rfl⟩

set_option maxHeartbeats 1000000 in
theorem Shows_range (r t : ByteArray) (i n : Int) (v : Value) (ps : List ByteArray) (w : World) (h : Tx w v ps) (hr : digOk r = true) (hp : allD ps = true) (ht : t.size ≤ 100000) (hn1 : 1 ≤ n) (hn2 : n ≤ 2000) (hi : ¬ (0 ≤ i ∧ i < n)) :
    Calls Tryd.prog 19 #[.string r, .string t, .int .i64 i, .int .i64 n, v] w fun e w' => e = .returned (.tuple #[.bool false, .int .i64 3]) ∧ w' = w := by
  have HI : Hid (Calls Tryd.prog 28 #[.string r] w fun e w' => e = .returned (.bool true) ∧ w' = w) := by rw [← hr]; exact Is_any r w
  have HN : Hid (Calls Tryd.prog 47 #[v, .func (.func 48) #[] #[]] w fun e w' => e = .returned (.bool false) ∧ w' = w) := by
    have := h.cn
    rwa [hp] at this
  have HT : Hid (Calls Tryd.prog 49 #[.string t] w fun e w' => e = .returned (.bool false) ∧ w' = w) := dTooLong_lo t w ht
  obtain ⟨a, cap, rfl⟩ := h.shape
  generalize ps.length = m at *
  clear h hr hp ht
  by_cases h1 : i < 0
  · clear hi
    go_enter Tryd.func19, Tryd.ntmps19
    go_wp2_with fail
    refine HI.out.mono ?_
    rintro e w' ⟨rfl, rfl⟩
    go_wp2_with fail
    refine HN.out.mono ?_
    rintro e w' ⟨rfl, rfl⟩
    go_wp2_with fail
    refine HT.out.mono ?_
    rintro e w' ⟨rfl, rfl⟩
    go_wp2
    go_ret2
    exact ⟨rfl, rfl⟩
  · have h2 : 0 ≤ i := by omega
    have h3 : n ≤ i := by omega
    clear hi h1
    go_enter Tryd.func19, Tryd.ntmps19
    go_wp2_with fail
    refine HI.out.mono ?_
    rintro e w' ⟨rfl, rfl⟩
    go_wp2_with fail
    refine HN.out.mono ?_
    rintro e w' ⟨rfl, rfl⟩
    go_wp2_with fail
    refine HT.out.mono ?_
    rintro e w' ⟨rfl, rfl⟩
    go_wp2
    go_ret2
    exact ⟨rfl, rfl⟩

/-- Does a proof show a text? -/
def showsB (r t : ByteArray) (i n : Nat) (ps : List ByteArray) : Bool := decide (ps.length = (sidesL i n).length) && ((shownB t i n ps).toList == r.toList)

set_option maxHeartbeats 1000000 in
theorem Shows_yes (r t : ByteArray) (i n : Nat) (v : Value) (ps : List ByteArray) (w : World) (h : Tx w v ps) (hr : digOk r = true) (hp : allD ps = true) (ht : t.size ≤ 100000) (hn2 : n ≤ 2000) (hi : i < n) (hm : Roots w) :
    Calls Tryd.prog 19 #[.string r, .string t, .int .i64 i, .int .i64 n, v] w fun e w' => e = .returned (.tuple #[.bool (showsB r t i n ps), .int .i64 0]) ∧ Below w.heap.size w w' := by
  have HI : Hid (Calls Tryd.prog 28 #[.string r] w fun e w' => e = .returned (.bool true) ∧ w' = w) := by rw [← hr]; exact Is_any r w
  have HN : Hid (Calls Tryd.prog 47 #[v, .func (.func 48) #[] #[]] w fun e w' => e = .returned (.bool false) ∧ w' = w) := by
    have := h.cn
    rwa [hp] at this
  have HT : Hid (Calls Tryd.prog 49 #[.string t] w fun e w' => e = .returned (.bool false) ∧ w' = w) := dTooLong_lo t w ht
  have HZ : Hid (Calls Tryd.prog 50 #[.int .i64 i, .int .i64 n] w fun e w' => e = .returned (.int .i64 (sidesL i n).length) ∧ w' = w) := proofSize_any i n w hn2 (by omega) hi
  have hll : (ps.length : Int) ≤ 4611686018427387904 := by have := h.1; omega
  have hi1 : (i : Int) < (n : Int) := by omega
  have hn3 : (n : Int) ≤ 2000 := by omega
  have hn4 : (1 : Int) ≤ (n : Int) := by omega
  by_cases hl : ps.length = (sidesL i n).length
  · have HS : Hid (Calls Tryd.prog 51 #[.string t, .int .i64 i, .int .i64 n, v] w fun e w' => e = .returned (.string (shownB t i n ps)) ∧ Below w.heap.size w w') := shownRoot_any _ t i n v ps w (Nat.le_refl _) hi hn2 ht h (List.all_eq_true.1 hp) hl hm
    have e1 : showsB r t i n ps = ((shownB t i n ps).toList == r.toList) := by unfold showsB; rw [show decide (ps.length = (sidesL i n).length) = true from by simp [hl], Bool.true_and]
    rw [e1]
    obtain ⟨a, cap, rfl⟩ := h.shape
    rw [← hl] at HZ
    generalize shownB t i n ps = y at HS
    generalize ps.length = m at *
    clear h hr hp ht hm hl e1
    go_enter Tryd.func19, Tryd.ntmps19
    go_wp2_with fail
    refine HI.out.mono ?_
    rintro e w' ⟨rfl, rfl⟩
    go_wp2_with fail
    refine HN.out.mono ?_
    rintro e w' ⟨rfl, rfl⟩
    go_wp2_with fail
    refine HT.out.mono ?_
    rintro e w' ⟨rfl, rfl⟩
    go_wp2_with fail
    refine HZ.out.mono ?_
    rintro e w' ⟨rfl, rfl⟩
    go_wp2_with fail
    refine HS.out.mono ?_
    rintro e w1 ⟨rfl, hb1⟩
    have B1 : Hid (Below _ _ w1) := hb1
    clear hb1
    go_wp2
    go_ret2
    exact ⟨rfl, B1.out⟩
  · have e1 : showsB r t i n ps = false := by unfold showsB; rw [show decide (ps.length = (sidesL i n).length) = false from by simp [hl], Bool.false_and]
    rw [e1]
    obtain ⟨a, cap, rfl⟩ := h.shape
    have hne : ((ps.length : Int) != ((sidesL i n).length : Int)) = true := by rw [bne_iff_ne]; omega
    generalize (sidesL i n).length = q at *
    generalize ps.length = m at *
    clear h hr hp ht hm hl e1
    go_enter Tryd.func19, Tryd.ntmps19
    go_wp2_with fail
    refine HI.out.mono ?_
    rintro e w' ⟨rfl, rfl⟩
    go_wp2_with fail
    refine HN.out.mono ?_
    rintro e w' ⟨rfl, rfl⟩
    go_wp2_with fail
    refine HT.out.mono ?_
    rintro e w' ⟨rfl, rfl⟩
    go_wp2_with fail
    refine HZ.out.mono ?_
    rintro e w' ⟨rfl, rfl⟩
    go_wp2
    go_ret2
    exact ⟨rfl, Below.refl _ _⟩
end Go.Proofs.YtagelkaenbdlaaaDoor
