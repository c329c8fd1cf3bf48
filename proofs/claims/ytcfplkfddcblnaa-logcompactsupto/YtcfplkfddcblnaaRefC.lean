/- The document's own check of a text (CheckOf). -/
import Derived.Test.YtcfplkfddcblnaaRefX
namespace Go.Proofs.Ytcfplkfddcblnaa
open Go.RowKit

theorem two_cells (w : World) (a b : Nat) : ∀ j (hj : j < [a, b].length), (w.alloc (.cells #[.int .i64 a, .int .i64 b] 3)).cell? ⟨w.heap.size, j, none⟩ = some (.int .i64 ([a, b][j] : Int)) := fun j hj => by
  match j, hj with
  | 0, _ => simp [go_sem]
  | 1, _ => simp [go_sem]
theorem take_next (s : ByteArray) (k : Nat) (h : k < s.size) : s.data.toList.take (k + 1) = s.data.toList.take k ++ [s[k]] := by
  rw [List.take_succ_eq_append_getElem (by simpa using h)]; rfl

set_option maxHeartbeats 1000000 in
theorem Xor_two (a b : Nat) (w : World) (ha : a < 2 ^ 32) (hb : b < 2 ^ 32) :
    Calls Try.prog 34 #[.slice (some ⟨w.heap.size, 0, none⟩) 2 2] (w.alloc (.cells #[.int .i64 a, .int .i64 b] 3)) fun e w' => e = .returned (.int .i64 ((a ^^^ b : Nat) : Int)) ∧ w' = w.alloc (.cells #[.int .i64 a, .int .i64 b] 3) := by
  have := Xor_any w.heap.size 2 [a, b] (w.alloc (.cells #[.int .i64 a, .int .i64 b] 3)) (by simp) (by simp [ha, hb]) (two_cells w a b)
  simpa [xors] using this

set_option maxHeartbeats 4000000 in
set_option maxRecDepth 100000 in
theorem CheckOf_any (s : ByteArray) (w : World) (hs : s.size ≤ 281474976710656) :
    Calls Try.prog 22 #[.string s] w fun e w' => e = .returned (.int .i64 (crc s.data.toList : Nat)) ∧ Below w.heap.size w w' := by
  go_enter Try.func22, Try.ntmps22
  go_wp2
  go_loopw [3, 4] (fun v i wr => ∃ k : Nat, k ≤ s.size ∧ v = .int .i64 (crcS 4294967295 (s.data.toList.take k) : Nat) ∧ i = .int .i64 k ∧ Below w.heap.size w wr) (fun _ i _ => s.size - (intOf i).toNat)
  case atStart => exact ⟨0, Nat.zero_le _, rfl, rfl, Below.refl _ _⟩
  case round =>
    obtain ⟨k, hk, rfl, rfl, hb⟩ := hrel
    have HB : Hid (Below w.heap.size w wr) := hb
    clear hb
    have hl := crcS_lt (s.data.toList.take k) 4294967295 (by decide)
    by_cases hlt : k < s.size
    · have HC : Hid (crcS 4294967295 (s.data.toList.take (k + 1)) = shN 8 (crcS 4294967295 (s.data.toList.take k) ^^^ s[k].toNat)) := by show _ = _; rw [take_next s k hlt, crcS_snoc]; rfl
      generalize crcS 4294967295 (s.data.toList.take k) = y at hl HC
      have HX : Hid (∀ w1 : World, Calls Try.prog 34 #[.slice (some ⟨w1.heap.size, 0, none⟩) 2 2] (w1.alloc (.cells #[.int .i64 y, .int .i64 (s[k].toNat : Nat)] 3)) fun e w' => e = .returned (.int .i64 ((y ^^^ s[k].toNat : Nat) : Int)) ∧ w' = w1.alloc (.cells #[.int .i64 y, .int .i64 (s[k].toNat : Nat)] 3)) := fun w1 => Xor_two y s[k].toNat w1 hl (byte_lt _)
      have HXL : Hid (y ^^^ s[k].toNat < 2 ^ 32) := Nat.xor_lt_two_pow hl (byte_lt _)
      generalize y ^^^ s[k].toNat = x at HX HXL HC
      have hwb : wrap64 (s[k].toNat : Int) = (s[k].toNat : Int) := by have := s[k].toNat_lt; unfold wrap64; omega
      clear hl
      go_wp2_with (go_at_call 34; refine (HX.out wr).mono ?_; rintro e w1 ⟨rfl, rfl⟩)
      have B1 : Hid (Below w.heap.size w (wr.alloc (.cells #[.int .i64 y, .int .i64 (s[k].toNat : Nat)] 3))) := HB.out.alloc HB.out.size _
      generalize wr.alloc (.cells #[.int .i64 y, .int .i64 (s[k].toNat : Nat)] 3) = w1 at B1
      clear HB HX
      go_loopw [3, 5] (fun v i wr => ∃ j : Nat, j ≤ 8 ∧ v = .int .i64 (shN j x : Nat) ∧ i = .int .i64 j ∧ Below w.heap.size w wr) (fun _ i _ => 8 - (intOf i).toNat)
      case atStart => exact ⟨0, by omega, rfl, rfl, B1.out⟩
      case round =>
        clear B1
        obtain ⟨j, hj, rfl, rfl, hb⟩ := hrel
        have HB : Hid (Below w.heap.size w _) := hb
        clear hb
        have hl := shN_lt j x HXL.out
        have HS : Hid (shN (j + 1) x = sh1 (shN j x)) := rfl
        by_cases hj8 : j < 8
        · have i2 : (j : Int) < 8 := by omega
          generalize shN j x = z at hl HS
          obtain ⟨h, hh⟩ : ∃ h, h = z / 2 := ⟨_, rfl⟩
          have q2 : (z : Int) / 2 = (h : Int) := by omega
          have hwh : wrap64 (h : Int) = (h : Int) := by unfold wrap64; omega
          rcases Nat.mod_two_eq_zero_or_one z with hm | hm
          · have hmi : (z : Int) % 2 = 0 := by omega
            have HV : Hid (sh1 z = h) := by show _ = _; unfold sh1; rw [if_neg (by omega), hh]
            clear hl hm hh
            go_wp2
            refine ⟨⟨j + 1, by omega, ?_, by go_num, HB.out⟩, by simp [intOf]; omega⟩
            rw [HS.out, HV.out, hwh]
          · have hmi : (z : Int) % 2 = 1 := by omega
            have HV : Hid (sh1 z = h ^^^ 3988292384) := by show _ = _; unfold sh1; rw [if_pos hm, hh]
            have HX : Hid (∀ w1 : World, Calls Try.prog 34 #[.slice (some ⟨w1.heap.size, 0, none⟩) 2 2] (w1.alloc (.cells #[.int .i64 h, .int .i64 3988292384] 3)) fun e w' => e = .returned (.int .i64 ((h ^^^ 3988292384 : Nat) : Int)) ∧ w' = w1.alloc (.cells #[.int .i64 h, .int .i64 3988292384] 3)) := fun w1 => Xor_two h 3988292384 w1 (by omega) (by decide)
            generalize h ^^^ 3988292384 = r at HV HX
            clear hl hm hh
            go_wp2_with (go_at_call 34; refine (HX.out _).mono ?_; rintro e w2 ⟨rfl, rfl⟩)
            refine ⟨⟨j + 1, by omega, ?_, by go_num, HB.out.alloc HB.out.size _⟩, by simp [intOf]; omega⟩
            rw [HS.out, HV.out]
        · have HK : Hid (j = 8) := by show _ = _; omega
          have i3 : (8 : Int) ≤ (j : Int) := by omega
          have HZ : Hid (shN j x = shN 8 x) := by show _ = _; rw [HK.out]
          generalize shN j x = z at HZ
          clear hl HS
          go_wp2
          refine ⟨⟨k + 1, by omega, ?_, by go_num, HB.out⟩, by simp [intOf]; omega⟩
          rw [HC.out, HZ.out]
    · have HK : Hid (crc s.data.toList = 4294967295 - crcS 4294967295 (s.data.toList.take k)) := by
        show _ = _
        rw [List.take_of_length_le (by rw [Array.length_toList]; exact Nat.le_of_not_lt hlt)]
        rfl
      generalize crcS 4294967295 (s.data.toList.take k) = y at hl HK
      have hsub : (4294967295 : Int) - (y : Int) = ((4294967295 - y : Nat) : Int) := by omega
      generalize 4294967295 - y = z at HK hsub
      have hzl : (z : Int) ≤ 4294967295 := by omega
      go_wp2
      go_ret
      exact ⟨by rw [HK.out]; rfl, HB.out⟩
end Go.Proofs.Ytcfplkfddcblnaa
