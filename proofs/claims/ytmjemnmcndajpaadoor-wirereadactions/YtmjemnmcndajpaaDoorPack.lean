/- What wire's packer does with a number, and Number. -/
import Derived.Test.YtmjemnmcndajpaaDoorBld
import Derived.Test.YtmjemnmcndajpaaDoorPlain
namespace Go.Proofs.YtmjemnmcndajpaaDoor
open Go.RowKit

set_option maxHeartbeats 1000000 in
set_option maxRecDepth 100000 in
theorem number_any (B b n : Nat) (bs : List Value) (w : World) (h : PkIs B b bs w) (hn : n ≤ 9007199254740991) (hlen : bs.length + (pk n).length ≤ 140737488355328) (hBw : B ≤ w.heap.size) :
    Calls Tryd.prog 38 #[.pointer (some ⟨b, 0, none⟩), .int .i64 n] w fun e w' => e = .returned (.tuple #[]) ∧ (PkIs B b (bs ++ Lib.byteCells (pk n)) w' ∧ Kp B b w w') := by
  go_enter Tryd.func38, Tryd.ntmps38
  go_wp2
  go_loopw [1] (fun v wr => ∃ (m : Nat) (d : List UInt8), v = .int .i64 m ∧ m ≤ n ∧ pk n = d ++ pk m ∧ PkIs B b (bs ++ Lib.byteCells d) wr ∧ Kp B b w wr) (fun v _ => (intOf v).toNat)
  case atStart => exact ⟨n, [], rfl, Nat.le_refl _, rfl, by simpa [Lib.byteCells] using h, Kp.refl _ _ _⟩
  case round =>
    obtain ⟨m, d, rfl, hm, hd, hp, hb⟩ := hrel
    have HD : Hid (pk n = d ++ pk m) := hd
    have hle : bs.length + d.length + (pk m).length ≤ 140737488355328 := by rw [hd] at hlen; simp at hlen; omega
    have hpos := pk_pos m
    have hsz := hb.size
    have hmm : (m : Int) ≤ 9007199254740991 := by omega
    clear hd
    have hk1 : bs.length + (Lib.byteCells d).length + 1 ≤ 140737488355328 := by simp [Lib.byteCells]; omega
    have hk2 : B ≤ wr.heap.size := by omega
    clear hle hpos hlen hn h
    by_cases hlt : 128 ≤ m
    · go_wp2_with (go_at_call 59; refine (wb_any B b _ _ _ hp (by simpa using hk1) hk2).mono ?_; rintro e w1 ⟨rfl, h1, hb1⟩)
      refine ⟨⟨m / 128, d ++ [UInt8.ofNat (m % 128 + 128)], by go_num, by omega, ?_, ?_, hb.trans hb1⟩, by simp [intOf]; omega⟩
      · rw [HD.out, pk_more m hlt]; simp
      · rw [byteCells_snoc _ _ (by omega), ← List.append_assoc]
        exact Or.inr (by simpa using h1)
    · go_wp2_with (go_at_call 59; refine (wb_any B b _ _ _ hp (by simpa using hk1) hk2).mono ?_; rintro e w1 ⟨rfl, h1, hb1⟩)
      go_end0
      refine ⟨rfl, ?_, hb.trans hb1⟩
      rw [HD.out, pk_small m (by omega), byteCells_snoc _ _ (by omega), ← List.append_assoc]
      exact Or.inr h1

set_option maxHeartbeats 1000000 in
set_option maxRecDepth 100000 in
theorem packed_int (n : Nat) (w : World) (hn : n ≤ 9007199254740991) :
    Calls Tryd.prog 37 #[.int .i64 n, .func (.func 38) #[] #[]] w fun e w' => e = .returned (.string ⟨(pk n).toArray⟩) ∧ Below w.heap.size w w' := by
  have hl := pk_len8 n hn
  have hpos := pk_pos n
  go_enter Tryd.func37, Tryd.ntmps37
  go_wp2_with fail
  refine (number_any w.heap.size w.heap.size n [] _ (Lib.fresh_isBuilder _ _ w) hn (by simp; omega) (by simp)).mono ?_
  rintro e w1 ⟨rfl, h1, hb1⟩
  go_wp2_with fail
  refine (st_any w.heap.size w.heap.size (pk n) w1 (by simpa using h1) (by intro h; rw [h] at hpos; simp at hpos)).mono ?_
  rintro e w2 ⟨rfl, hb2⟩
  go_wp2
  go_ret
  exact ⟨rfl, (((Below.refl _ _).alloc (Nat.le_refl _) _).trans hb1.bel).trans hb2⟩

set_option maxHeartbeats 1000000 in
theorem isNoNumber_any (n : Int) (w : World) : Calls Tryd.prog 36 #[.int .i64 n] w fun e w' => e = .returned (.bool (decide (n < 0) || decide (9007199254740991 < n))) ∧ w' = w := by
  by_cases h : n < 0
  · go_enter Tryd.func36, Tryd.ntmps36
    go_wp2
    go_ret
    exact ⟨by simp [h], rfl⟩
  · go_enter Tryd.func36, Tryd.ntmps36
    go_wp2
    go_ret
    exact ⟨by simp [Int.not_lt.2 h], rfl⟩

set_option maxHeartbeats 1000000 in
set_option maxRecDepth 100000 in
theorem Number_yes (n : Nat) (w : World) (hn : n ≤ 9007199254740991) :
    Calls Tryd.prog 16 #[.int .i64 n] w fun e w' => e = .returned (.tuple #[.string ⟨(pk n).toArray⟩, .int .i64 0]) ∧ Below w.heap.size w w' := by
  have hb : (decide ((n : Int) < 0) || decide (9007199254740991 < (n : Int))) = false := by simp; omega
  go_enter Tryd.func16, Tryd.ntmps16
  go_wp2_with (go_at_call 36; refine (isNoNumber_any _ _).mono ?_; rintro e w' ⟨rfl, rfl⟩; rw [hb])
  refine (packed_int n _ hn).mono ?_
  rintro e w1 ⟨rfl, hb1⟩
  go_wp2
  go_ret2
  exact ⟨rfl, hb1⟩

set_option maxHeartbeats 1000000 in
set_option maxRecDepth 100000 in
theorem Number_no (n : Int) (w : World) (hn : n < 0 ∨ 9007199254740991 < n) :
    Calls Tryd.prog 16 #[.int .i64 n] w fun e w' => e = .returned (.tuple #[.string ⟨#[]⟩, .int .i64 3]) ∧ w' = w := by
  have hb : (decide (n < 0) || decide (9007199254740991 < n)) = true := by simpa using hn
  clear hn
  go_enter Tryd.func16, Tryd.ntmps16
  go_wp2_with (go_at_call 36; refine (isNoNumber_any _ _).mono ?_; rintro e w' ⟨rfl, rfl⟩; rw [hb])
  go_ret2
  exact ⟨rfl, rfl⟩
end Go.Proofs.YtmjemnmcndajpaaDoor
