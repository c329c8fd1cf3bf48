/- The document's own entry of a text (EntryOf). -/
import Derived.Test.YtcfplkfddcblnaaRefC
import Derived.Test.YtcfplkfddcblnaaLogC
import Derived.Test.YtcfplkfddcblnaaRefTexts
namespace Go.Proofs.Ytcfplkfddcblnaa
open Go.RowKit Go.Shelf

theorem conv4g (g : Nat) (W : World) (a b c d : Nat) (ha : a < 256) (hb : b < 256) (hc : c < 256) (hd : d < 256)
    (h0 : W.cell? ⟨g, 0, none⟩ = some (.int .u8 a)) (h1 : W.cell? ⟨g, 1, none⟩ = some (.int .u8 b)) (h2 : W.cell? ⟨g, 2, none⟩ = some (.int .u8 c)) (h3 : W.cell? ⟨g, 3, none⟩ = some (.int .u8 d)) :
    (convert 41 9 (.slice (some ⟨g, 0, none⟩) 4 4)).run Try.prog W = .ok (.string ⟨#[UInt8.ofNat a, UInt8.ofNat b, UInt8.ofNat c, UInt8.ofNat d]⟩) W := by
  have e : ∀ n : Nat, n < 256 → (UInt8.ofNat n).toNat = n := fun n h => by simp [UInt8.toNat_ofNat']; omega
  refine run_convert_bytes_back _ 41 9 5 ⟨g, 0, none⟩ 4 [UInt8.ofNat a, UInt8.ofNat b, UInt8.ofNat c, UInt8.ofNat d] Try.underlying41 Try.underlying5 Try.underlying9 fun j hj => ?_
  match j, hj with
  | 0, _ => simpa [Addr.add, e a ha] using h0
  | 1, _ => simpa [Addr.add, e b hb] using h1
  | 2, _ => simpa [Addr.add, e c hc] using h2
  | 3, _ => simpa [Addr.add, e d hd] using h3

theorem emod256 (c : Nat) : (c : Int) % 256 = ((c % 256 : Nat) : Int) := by omega
theorem ediv_nat (c k : Nat) : (c : Int) / (k : Int) = ((c / k : Nat) : Int) := by push_cast; rfl
theorem tmod256 (c : Nat) : (c : Int).tmod 256 = ((c % 256 : Nat) : Int) := (Int.tmod_eq_emod_of_nonneg (by omega)).trans (emod256 c)
theorem wraps_nat (c : Nat) (h : c < 2 ^ 32) : IntKind.i64.wrap (c : Int) = (c : Int) := wraps_i64 _ (by omega) (by omega)
theorem wrap64_nat (c : Nat) (h : c < 2 ^ 32) : wrap64 (c : Int) = (c : Int) := by unfold wrap64; omega

set_option maxHeartbeats 8000000 in
set_option maxRecDepth 100000 in
theorem EntryOf_any (s : ByteArray) (w : World) (hs : s.size ≤ 140737488355328) :
    Calls Try.prog 10 #[.string s] w fun e w' => e = .returned (.string ⟨(ent s.data.toList).toArray⟩) ∧ Below w.heap.size w w' := by
  have HK : Hid (∀ w1, Calls Try.prog 22 #[.string s] w1 fun e w' => e = .returned (.int .i64 (crc s.data.toList : Nat)) ∧ Below w1.heap.size w1 w') := fun w1 => CheckOf_any s w1 (by omega)
  obtain ⟨x1, h1⟩ : ∃ x : ByteArray, x = ⟨(pkT s).toArray⟩ := ⟨_, rfl⟩
  obtain ⟨x2, h2⟩ : ∃ x : ByteArray, x = ⟨(76 :: pkT s).toArray⟩ := ⟨_, rfl⟩
  obtain ⟨x5, h5⟩ : ∃ x : ByteArray, x = ⟨(ent s.data.toList).toArray⟩ := ⟨_, rfl⟩
  have HP : Hid (∀ w1, Calls Try.prog 23 #[.string s] w1 fun e w' => e = .returned (.string x1) ∧ Below w1.heap.size w1 w') := fun w1 => by rw [h1]; exact packtext_any s w1 (by omega)
  have hn : s.data.toList.length = s.size := (size_of rfl).symm
  have hp8 := pk_len8 s.size (by omega)
  have hT : (pkT s).length ≤ 8 + s.size := by unfold pkT; rw [List.length_append]; omega
  have z1 : x1.size ≤ 8 + s.size := by rw [h1]; exact Nat.le_trans (Nat.le_of_eq (size_of rfl)) hT
  have z2 : x2.size ≤ 9 + s.size := by rw [h2, size_of (l := 76 :: pkT s) rfl]; simp; omega
  have k1 := cat2 ⟨#[76]⟩ x1 x2 (by rw [h1, h2]; rfl) (by have : (⟨#[76]⟩ : ByteArray).size = 1 := rfl; omega)
  have hl := crc_lt s.data.toList
  have k3 : ∀ (x4 : ByteArray), x4 = ⟨(le4 (crc s.data.toList)).toArray⟩ → ∀ W : World, (Op.stringOp .add x2 x4).run Try.prog W = .ok (.string x5) W := fun x4 h4 => cat2 x2 x4 x5 (by rw [h2, h4, h5]; simp [ent, pkT, hn]) (by
    have : x4.size = 4 := by rw [h4]; exact (size_of rfl).trans (le4_len _)
    omega)
  have H5 : Hid (x5 = ⟨(ent s.data.toList).toArray⟩) := h5
  generalize crc s.data.toList = c at hl HK k3
  have k4 := k3 ⟨#[UInt8.ofNat (c % 256), UInt8.ofNat (c / 256 % 256), UInt8.ofNat (c / 65536 % 256), UInt8.ofNat (c / 16777216 % 256)]⟩ rfl
  have hcv := fun W => conv4 W (c % 256) (c / 256 % 256) (c / 65536 % 256) (c / 16777216 % 256) (Nat.mod_lt _ (by decide)) (Nat.mod_lt _ (by decide)) (Nat.mod_lt _ (by decide)) (Nat.mod_lt _ (by decide))
  have hcg := fun g W => conv4g g W (c % 256) (c / 256 % 256) (c / 65536 % 256) (c / 16777216 % 256) (Nat.mod_lt _ (by decide)) (Nat.mod_lt _ (by decide)) (Nat.mod_lt _ (by decide)) (Nat.mod_lt _ (by decide))
  have w0 := byte_u8 (c % 256)
  have w1 := byte_u8 (c / 256 % 256)
  have w2 := byte_u8 (c / 65536 % 256)
  have w3 := byte_u8 (c / 16777216)
  rw [Nat.mod_mod] at w0 w1 w2
  have hli : (c : Int) < 4294967296 := by omega
  have m0 := emod256 c
  have d1 := ediv_nat c 256
  have d2 := ediv_nat c 65536
  have d3 := ediv_nat c 16777216
  have m1 := emod256 (c / 256)
  have m2 := emod256 (c / 65536)
  have t0 := tmod256 c
  have t1 := tmod256 (c / 256)
  have t2 := tmod256 (c / 65536)
  have y1 := wraps_nat (c / 256) (Nat.lt_of_le_of_lt (Nat.div_le_self _ _) hl)
  have y2 := wraps_nat (c / 65536) (Nat.lt_of_le_of_lt (Nat.div_le_self _ _) hl)
  have y3 := wraps_nat (c / 16777216) (Nat.lt_of_le_of_lt (Nat.div_le_self _ _) hl)
  have x1' := wrap64_nat (c / 256) (Nat.lt_of_le_of_lt (Nat.div_le_self _ _) hl)
  have x2' := wrap64_nat (c / 65536) (Nat.lt_of_le_of_lt (Nat.div_le_self _ _) hl)
  have x3' := wrap64_nat (c / 16777216) (Nat.lt_of_le_of_lt (Nat.div_le_self _ _) hl)
  rw [show ((256 : Nat) : Int) = 256 from rfl] at d1
  rw [show ((65536 : Nat) : Int) = 65536 from rfl] at d2
  rw [show ((16777216 : Nat) : Int) = 16777216 from rfl] at d3
  generalize (⟨#[UInt8.ofNat (c % 256), UInt8.ofNat (c / 256 % 256), UInt8.ofNat (c / 65536 % 256), UInt8.ofNat (c / 16777216 % 256)]⟩ : ByteArray) = x4 at k4 hcv hcg
  generalize c % 256 = q0 at hcv hcg w0 m0 t0
  generalize c / 256 % 256 = q1 at hcv hcg w1 m1 t1
  generalize c / 65536 % 256 = q2 at hcv hcg w2 m2 t2
  generalize c / 16777216 % 256 = q3 at hcv hcg w3
  generalize c / 256 = p1 at d1 m1 x1' t1 y1
  generalize c / 65536 = p2 at d2 m2 x2' t2 y2
  generalize c / 16777216 = p3 at d3 w3 x3' y3
  clear hcv h1 h2 h5 hn hp8 hT z1 z2 k3 hs
  clear hl
  go_enter Try.func10, Try.ntmps10
  go_wp2_with fail
  refine (HK.out w).mono ?_
  rintro e w1 ⟨rfl, hb1⟩
  have B1 : Hid (Below w.heap.size w w1) := hb1
  clear hb1
  go_wp2
  go_region_with (go_at_call 23; refine (HP.out _).mono ?_; rintro e w3 ⟨rfl, hb3⟩; have hc0 := fun (h : w1.heap.size < _) => hb3.cell (p := ⟨w1.heap.size, 0, none⟩) h; have hc1 := fun (h : w1.heap.size < _) => hb3.cell (p := ⟨w1.heap.size, 1, none⟩) h; have hc2 := fun (h : w1.heap.size < _) => hb3.cell (p := ⟨w1.heap.size, 2, none⟩) h; have hc3 := fun (h : w1.heap.size < _) => hb3.cell (p := ⟨w1.heap.size, 3, none⟩) h)
  all_goals go_wp2
  all_goals go_ret
  all_goals refine ⟨by rw [← H5.out]; rfl, ?_⟩
  all_goals first
    | exact (B1.out.alloc B1.out.size _).drew.trans (hb3.mono (by have := B1.out.size; simp; omega))
    | exact (B1.out.drew.trans (hb3.mono B1.out.size)).alloc (Nat.le_trans B1.out.size hb3.size) _
end Go.Proofs.Ytcfplkfddcblnaa
