/- What the log's checkBytes and entry answer; CutPrefix of a mark. -/
import Derived.Test.YtcfplkfddcblnaaCrc
import Derived.Test.YtcfplkfddcblnaaLogP
import Derived.Test.YtcfplkfddcblnaaReadNo
import Derived.Laws.BytesString
namespace Go.Proofs.Ytcfplkfddcblnaa
open Go.RowKit Go.Shelf

theorem conv4 (w : World) (a b c d : Nat) (ha : a < 256) (hb : b < 256) (hc : c < 256) (hd : d < 256) :
    (convert 41 9 (.slice (some ⟨w.heap.size, 0, none⟩) 4 4)).run Try.prog (w.alloc (.cells #[.int .u8 a, .int .u8 b, .int .u8 c, .int .u8 d] 5)) = .ok (.string ⟨#[UInt8.ofNat a, UInt8.ofNat b, UInt8.ofNat c, UInt8.ofNat d]⟩) (w.alloc (.cells #[.int .u8 a, .int .u8 b, .int .u8 c, .int .u8 d] 5)) := by
  have e : ∀ n : Nat, n < 256 → (UInt8.ofNat n).toNat = n := fun n h => by simp [UInt8.toNat_ofNat']; omega
  refine run_convert_bytes_back _ 41 9 5 ⟨w.heap.size, 0, none⟩ 4 [UInt8.ofNat a, UInt8.ofNat b, UInt8.ofNat c, UInt8.ofNat d] Try.underlying41 Try.underlying5 Try.underlying9 fun j hj => ?_
  match j, hj with
  | 0, _ => simp [Addr.add, go_sem, e a ha]
  | 1, _ => simp [Addr.add, go_sem, e b hb]
  | 2, _ => simp [Addr.add, go_sem, e c hc]
  | 3, _ => simp [Addr.add, go_sem, e d hd]

set_option maxHeartbeats 2000000 in
set_option maxRecDepth 100000 in
theorem checkBytes_any (b : Nat) (s : ByteArray) (w : World) (hs : s.size ≤ 281474976710656) (hA : TabAt w b) :
    Calls Try.prog 33 #[.pointer (some ⟨b, 0, none⟩), .string s] w fun e w' => e = .returned (.string ⟨(le4 (crc s.data.toList)).toArray⟩) ∧ Below w.heap.size w w' := by
  go_enter Try.func33, Try.ntmps33
  go_wp2_with fail
  refine (chk_any b s w hs hA).mono ?_
  rintro e w1 ⟨rfl, hb1⟩
  have HB1 : Hid (Below w.heap.size w w1) := hb1
  have hl := crc_lt s.data.toList
  generalize hc : crc s.data.toList = c at hl
  have HC : Hid (crc s.data.toList = c) := hc
  have HL : Hid (le4 c = [UInt8.ofNat (c % 256), UInt8.ofNat (c / 256 % 256), UInt8.ofNat (c / 65536 % 256), UInt8.ofNat (c / 16777216 % 256)]) := rfl
  clear hc hb1 hs hA
  have s8 : Op.shift .shr .u32 (c : Int) .u64 8 = pure (.int .u32 ((c / 256 : Nat) : Int)) := by
    rw [shift_shr _ _ _ _ (by omega) (by decide)]; congr 2
  have s16 : Op.shift .shr .u32 (c : Int) .u64 16 = pure (.int .u32 ((c / 65536 : Nat) : Int)) := by
    rw [shift_shr _ _ _ _ (by omega) (by decide)]; congr 2
  have s24 : Op.shift .shr .u32 (c : Int) .u64 24 = pure (.int .u32 ((c / 16777216 : Nat) : Int)) := by
    rw [shift_shr _ _ _ _ (by omega) (by decide)]; congr 2
  have w0 := byte_u8 c
  have w8 := byte_u8 (c / 256)
  have w16 := byte_u8 (c / 65536)
  have w24 := byte_u8 (c / 16777216)
  have hcv := conv4 w1 (c % 256) (c / 256 % 256) (c / 65536 % 256) (c / 16777216 % 256) (Nat.mod_lt _ (by decide)) (Nat.mod_lt _ (by decide)) (Nat.mod_lt _ (by decide)) (Nat.mod_lt _ (by decide))
  generalize UInt8.ofNat (c % 256) = u0 at hcv HL
  generalize UInt8.ofNat (c / 256 % 256) = u1 at hcv HL
  generalize UInt8.ofNat (c / 65536 % 256) = u2 at hcv HL
  generalize UInt8.ofNat (c / 16777216 % 256) = u3 at hcv HL
  generalize c % 256 = q0 at hcv w0
  generalize c / 256 % 256 = q1 at hcv w8
  generalize c / 65536 % 256 = q2 at hcv w16
  generalize c / 16777216 % 256 = q3 at hcv w24
  generalize c / 256 = p1 at s8 w8
  generalize c / 65536 = p2 at s16 w16
  generalize c / 16777216 = p3 at s24 w24
  go_wp2
  go_ret
  exact ⟨by rw [HC.out, HL.out]; rfl, HB1.out.alloc HB1.out.size _⟩

theorem cat2 (x y z : ByteArray) (h : x.data.toList ++ y.data.toList = z.data.toList) (hl : x.size + y.size ≤ 9223372036854775807) (W : World) : (Op.stringOp .add x y).run Try.prog W = .ok (.string z) W := by
  have e : x ++ y = z := by
    rw [bytes_eq (s := z) rfl, ← h]
    exact bytes_eq (by simp)
  have hl2 : (x.size : Int) + (y.size : Int) ≤ 9223372036854775807 := by omega
  simp [Op.stringOp, e, hl2]

set_option maxHeartbeats 2000000 in
set_option maxRecDepth 100000 in
theorem entry_any (b : Nat) (s : ByteArray) (w : World) (hs : s.size ≤ 281474976710656) (hA : TabAt w b) :
    Calls Try.prog 21 #[.pointer (some ⟨b, 0, none⟩), .string s] w fun e w' => e = .returned (.string ⟨(ent s.data.toList).toArray⟩) ∧ Below w.heap.size w w' := by
  have hn : s.data.toList.length = s.size := (size_of rfl).symm
  have hp8 := pk_len8 s.size (by omega)
  obtain ⟨x1, h1⟩ : ∃ x : ByteArray, x = ⟨(pk s.size).toArray⟩ := ⟨_, rfl⟩
  obtain ⟨x2, h2⟩ : ∃ x : ByteArray, x = ⟨(76 :: pk s.size).toArray⟩ := ⟨_, rfl⟩
  obtain ⟨x3, h3⟩ : ∃ x : ByteArray, x = ⟨((76 :: pk s.size) ++ s.data.toList).toArray⟩ := ⟨_, rfl⟩
  obtain ⟨x4, h4⟩ : ∃ x : ByteArray, x = ⟨(le4 (crc s.data.toList)).toArray⟩ := ⟨_, rfl⟩
  obtain ⟨x5, h5⟩ : ∃ x : ByteArray, x = ⟨(ent s.data.toList).toArray⟩ := ⟨_, rfl⟩
  have z1 : x1.size ≤ 8 := by rw [h1]; exact Nat.le_trans (Nat.le_of_eq (size_of rfl)) hp8
  have z2 : x2.size ≤ 9 := by rw [h2, size_of (l := 76 :: pk s.size) rfl]; simp; omega
  have z3 : x3.size ≤ 9 + s.size := by rw [h3, size_of (l := (76 :: pk s.size) ++ s.data.toList) rfl]; simp; omega
  have z4 : x4.size = 4 := by rw [h4]; exact (size_of rfl).trans (le4_len _)
  have k1 := cat2 ⟨#[76]⟩ x1 x2 (by rw [h1, h2]; rfl) (by have : (⟨#[76]⟩ : ByteArray).size = 1 := rfl; omega)
  have k2 := cat2 x2 s x3 (by rw [h2, h3]) (by omega)
  have k3 := cat2 x3 x4 x5 (by rw [h3, h4, h5]; simp [ent, hn]) (by omega)
  have HN : Hid (Calls Try.prog 32 #[.int .i64 s.size] w fun e w' => e = .returned (.tuple #[.string x1, .int .i64 0]) ∧ Below w.heap.size w w') := by rw [h1]; exact Number_yes s.size w (by omega)
  have HC : Hid (∀ w1, TabAt w1 b → Calls Try.prog 33 #[.pointer (some ⟨b, 0, none⟩), .string s] w1 fun e w' => e = .returned (.string x4) ∧ Below w1.heap.size w1 w') := fun w1 h => by rw [h4]; exact checkBytes_any b s w1 hs h
  have H5 : Hid (x5 = ⟨(ent s.data.toList).toArray⟩) := h5
  have HA : Hid (TabAt w b) := hA
  clear h1 h2 h3 h4 h5 z1 z2 z3 z4 hn hp8 hA
  go_enter Try.func21, Try.ntmps21
  go_wp2_with fail
  refine HN.out.mono ?_
  rintro e w1 ⟨rfl, hb1⟩
  have B1 : Hid (Below w.heap.size w w1) := hb1
  clear hb1
  go_wp2_with fail
  refine (HC.out w1 (HA.out.up B1.out HA.out.lt)).mono ?_
  rintro e w2 ⟨rfl, hb2⟩
  have B2 : Hid (Below w.heap.size w w2) := B1.out.trans (hb2.mono B1.out.size)
  clear hb2
  go_wp2
  go_ret
  exact ⟨by rw [← H5.out]; rfl, B2.out⟩

set_option maxHeartbeats 2000000 in
theorem hasL_any (s : ByteArray) (w : World) (hs : s.size ≤ 281474976710656) (t : Bool) (ht : t = (s.data.toList.head? == some 76)) :
    Calls Try.prog 53 #[.string s, .string ⟨#[76]⟩] w fun e w' => e = .returned (.bool t) ∧ w' = w := by
  by_cases h0 : 1 ≤ s.size
  · have h1 : (1 : Int) ≤ s.size := by omega
    have hsl : (Instr.slice 9 (.string s) none (some (.int .i64 1)) none).run Try.prog w = .ok (.string (s.extract 0 1)) w := by
      simp [Instr.slice, Instr.sliceBounds, Instr.sliceBound, run_underlying Try.underlying9, asIntOf, h1]
    have heq : ((s.extract 0 1).toList == [76]) = t := by
      rw [Lib.toList_data, Lib.extract_data, ht]
      cases hd : s.data.toList with
      | nil => rw [size_of hd] at h0; simp at h0
      | cons a l => simp
    clear ht h0
    go_enter Try.func53, Try.ntmps53
    go_wp2
    go_ret
    exact ⟨by simp, rfl⟩
  · have h1 : (s.size : Int) < 1 := by omega
    have hd : s.data.toList = [] := List.length_eq_zero_iff.1 (by rw [← size_of (s := s) rfl]; omega)
    rw [hd] at ht
    have ht' : t = false := ht
    subst ht'
    clear ht h0 hd
    go_enter Try.func53, Try.ntmps53
    go_wp2
    go_ret
    exact ⟨rfl, rfl⟩

set_option maxHeartbeats 2000000 in
theorem cut_no (s : ByteArray) (w : World) (hs : s.size ≤ 281474976710656) (h : s.data.toList.head? ≠ some 76) :
    Calls Try.prog 37 #[.string s, .string ⟨#[76]⟩] w fun e w' => e = .returned (.tuple #[.string s, .bool false]) ∧ w' = w := by
  have HT : Hid (false = (s.data.toList.head? == some 76)) := by show false = _; symm; simpa using h
  clear h
  go_enter Try.func37, Try.ntmps37
  go_wp2_with fail
  refine Calls.mono (R := fun e w' => e = .returned (.tuple #[.string s, .bool false]) ∧ w' = w) ?_ ?_
  · go_enter Try.func49, Try.ntmps49
    go_wp2_with (go_at_call 53; refine (hasL_any s _ hs false HT.out).mono ?_; rintro e w' ⟨rfl, rfl⟩)
    go_ret2
    exact ⟨rfl, rfl⟩
  · rintro e w' ⟨rfl, rfl⟩
    go_wp2
    go_ret2
    exact ⟨rfl, rfl⟩

set_option maxHeartbeats 2000000 in
theorem cut_yes (s : ByteArray) (p : List UInt8) (w : World) (hs : s.size ≤ 281474976710656) (h : s.data.toList = 76 :: p) :
    Calls Try.prog 37 #[.string s, .string ⟨#[76]⟩] w fun e w' => e = .returned (.tuple #[.string ⟨p.toArray⟩, .bool true]) ∧ w' = w := by
  have HT : Hid (true = (s.data.toList.head? == some 76)) := by show true = _; rw [h]; rfl
  have h1 : (1 : Int) ≤ s.size := by have := size_of h; simp at this; omega
  have he : s.extract 1 s.size = ⟨p.toArray⟩ := extract_end s [76] p h
  have hsl : (Instr.slice 9 (.string s) (some (.int .i64 1)) none none).run Try.prog w = .ok (.string ⟨p.toArray⟩) w := by
    rw [← he]
    simp [Instr.slice, Instr.sliceBounds, Instr.sliceBound, run_underlying Try.underlying9, asIntOf, h1]
  clear he h
  go_enter Try.func37, Try.ntmps37
  go_wp2_with fail
  refine Calls.mono (R := fun e w' => e = .returned (.tuple #[.string ⟨p.toArray⟩, .bool true]) ∧ w' = w) ?_ ?_
  · go_enter Try.func49, Try.ntmps49
    go_wp2_with (go_at_call 53; refine (hasL_any s _ hs true HT.out).mono ?_; rintro e w' ⟨rfl, rfl⟩)
    go_ret2
    exact ⟨rfl, rfl⟩
  · rintro e w' ⟨rfl, rfl⟩
    go_wp2
    go_ret2
    exact ⟨rfl, rfl⟩

theorem sub_mid (s : ByteArray) (a b : Nat) (x y : Int) (hx : x = a) (hy : y = b) (h1 : a ≤ b) (h2 : b ≤ s.size) (W : World) : (Instr.slice 9 (.string s) (some (.int .i64 x)) (some (.int .i64 y)) none).run Try.prog W = .ok (.string (s.extract a b)) W := by
  subst hx hy
  simp [Instr.slice, Instr.sliceBounds, Instr.sliceBound, run_underlying Try.underlying9, asIntOf, h1, h2]
theorem sub_from (s : ByteArray) (a : Nat) (x : Int) (hx : x = a) (h1 : a ≤ s.size) (W : World) : (Instr.slice 9 (.string s) (some (.int .i64 x)) none none).run Try.prog W = .ok (.string (s.extract a s.size)) W := by
  subst hx
  simp [Instr.slice, Instr.sliceBounds, Instr.sliceBound, run_underlying Try.underlying9, asIntOf, h1]
theorem extract_part (s : ByteArray) (a m r : List UInt8) (x y : Nat) (hx : x = a.length) (hy : y = a.length + m.length) (h : s.data.toList = a ++ (m ++ r)) : s.extract x y = ⟨m.toArray⟩ := by
  subst hx hy
  apply bytes_eq
  rw [Lib.extract_data, h]
  simp

/-- Where no entry stands: no mark. -/
def FeNo (b : Nat) (s : ByteArray) : Prop := ∀ w, TabAt w b → Calls Try.prog 25 #[.pointer (some ⟨b, 0, none⟩), .string s] w fun e w' => e = .returned (.tuple #[.string ⟨#[]⟩, .int .i64 0, .bool false]) ∧ Below w.heap.size w w'

set_option maxHeartbeats 2000000 in
set_option maxRecDepth 100000 in
theorem fe_mark (b : Nat) (s : ByteArray) (hs : s.size ≤ 281474976710656) (h : s.data.toList.head? ≠ some 76) : FeNo b s := by
  intro w _
  go_enter Try.func25, Try.ntmps25
  go_wp2_with (go_at_call 37; refine (cut_no s _ hs h).mono ?_; rintro e w' ⟨rfl, rfl⟩)
  go_ret3
  exact ⟨rfl, Below.refl _ _⟩

set_option maxHeartbeats 2000000 in
set_option maxRecDepth 100000 in
theorem fe_num (b : Nat) (s : ByteArray) (p : List UInt8) (hs : s.size ≤ 140737488355328) (h : s.data.toList = 76 :: p) (hno : NoNum ⟨p.toArray⟩) : FeNo b s := by
  intro w _
  have hz : (⟨p.toArray⟩ : ByteArray).size ≤ maxLen := by
    have h1 := size_of h
    have h2 : (⟨p.toArray⟩ : ByteArray).size = p.length := size_of rfl
    simp at h1
    unfold maxLen
    omega
  go_enter Try.func25, Try.ntmps25
  go_wp2_with (go_at_call 37; refine (cut_yes s p _ (by omega) h).mono ?_; rintro e w' ⟨rfl, rfl⟩)
  refine (ReadNumber_no ⟨p.toArray⟩ _ hz hno).mono ?_
  rintro e w' ⟨⟨k, hk, rfl⟩, rfl⟩
  go_wp2
  go_ret3
  exact ⟨rfl, Below.refl _ _⟩

set_option maxHeartbeats 2000000 in
set_option maxRecDepth 100000 in
theorem fe_long (b n : Nat) (s : ByteArray) (r : List UInt8) (hs : s.size ≤ 140737488355328) (h : s.data.toList = 76 :: (pk n ++ r)) (hn : n ≤ 9007199254740991) (hl : 100000 < n) : FeNo b s := by
  intro w _
  have hl' : (100000 : Int) < (n : Int) := by omega
  have hz : (⟨(pk n ++ r).toArray⟩ : ByteArray).size ≤ maxLen := by
    have h1 := size_of h
    have h2 : (⟨(pk n ++ r).toArray⟩ : ByteArray).size = (pk n ++ r).length := size_of rfl
    rw [List.length_cons] at h1
    unfold maxLen
    omega
  go_enter Try.func25, Try.ntmps25
  go_wp2_with (go_at_call 37; refine (cut_yes s (pk n ++ r) _ (by omega) h).mono ?_; rintro e w' ⟨rfl, rfl⟩)
  refine (ReadNumber_pk ⟨(pk n ++ r).toArray⟩ _ n r hz hn (by simp)).mono ?_
  rintro e w' ⟨rfl, rfl⟩
  go_wp2
  go_ret3
  exact ⟨rfl, Below.refl _ _⟩

set_option maxHeartbeats 2000000 in
set_option maxRecDepth 100000 in
theorem fe_short (b n : Nat) (s : ByteArray) (r : List UInt8) (hs : s.size ≤ 140737488355328) (h : s.data.toList = 76 :: (pk n ++ r)) (hl : n ≤ 100000) (hr : r.length < n + 4) : FeNo b s := by
  intro w _
  have hl' : (n : Int) ≤ 100000 := by omega
  have h1 := size_of h
  rw [List.length_cons, List.length_append] at h1
  have hz : (⟨(pk n ++ r).toArray⟩ : ByteArray).size ≤ maxLen := by
    have h2 : (⟨(pk n ++ r).toArray⟩ : ByteArray).size = (pk n ++ r).length := size_of rfl
    rw [List.length_append] at h2
    unfold maxLen
    omega
  have h8 := pk_len8 n (by omega)
  have hgt : (s.size : Int) < 1 + ((pk n).length : Int) + (n : Int) + 4 := by omega
  go_enter Try.func25, Try.ntmps25
  go_wp2_with (go_at_call 37; refine (cut_yes s (pk n ++ r) _ (by omega) h).mono ?_; rintro e w' ⟨rfl, rfl⟩)
  refine (ReadNumber_pk ⟨(pk n ++ r).toArray⟩ _ n r hz (by omega) (by simp)).mono ?_
  rintro e w' ⟨rfl, rfl⟩
  clear h1 h hs hr hz
  generalize (pk n).length = m at h8 hgt
  go_wp2
  go_ret3
  exact ⟨rfl, Below.refl _ _⟩
end Go.Proofs.Ytcfplkfddcblnaa
