/- What the log's own check does: the array of shifts, and the check of a text by it. -/
import Derived.Test.YtcfplkfddcblnaaArr
import Derived.Test.YtcfplkfddcblnaaCrcP
namespace Go.Proofs.Ytcfplkfddcblnaa
open Go.RowKit

set_option maxHeartbeats 1000000 in
set_option maxRecDepth 100000 in
theorem shifted_any (x : Nat) (w : World) (hx : x < 2 ^ 32) :
    Calls Try.prog 31 #[.int .u32 x] w fun e w' => e = .returned (.int .u32 (shN 8 x : Nat)) ∧ w' = w := by
  have HX : Hid (x < 2 ^ 32) := hx
  clear hx
  go_enter Try.func31, Try.ntmps31
  go_wp2
  go_loop [0, 4] (fun v i => ∃ k : Nat, k ≤ 8 ∧ v = .int .u32 (shN k x : Nat) ∧ i = .int .i64 k) (fun _ i => 8 - (intOf i).toNat)
  case atStart => exact ⟨0, by omega, rfl, rfl⟩
  case round =>
    obtain ⟨k, hk, rfl, rfl⟩ := hrel
    have hl := shN_lt k x HX.out
    have HS : Hid (shN (k + 1) x = sh1 (shN k x)) := rfl
    generalize hy : shN k x = y at hl HS
    have HY : Hid (y = shN k x) := hy.symm
    clear hy
    by_cases hlt : k < 8
    · have i2 : (k : Int) < 8 := by omega
      have h1 := and1_u32 y hl
      obtain ⟨z, hz⟩ : ∃ z, z = y / 2 := ⟨_, rfl⟩
      have hs : Op.shift .shr .u32 (y : Int) .u64 1 = pure (.int .u32 (z : Int)) := by
        rw [shift_shr _ _ _ _ (by omega) (by decide), hz]
        congr 2
      rcases Nat.mod_two_eq_zero_or_one y with hm | hm
      · rw [hm] at h1
        have HV : Hid (sh1 y = z) := by show _ = _; unfold sh1; rw [if_neg (by omega), hz]
        clear hl hm hz
        go_wp2
        refine ⟨⟨k + 1, by omega, ?_, by go_num⟩, by simp [intOf]; omega⟩
        rw [HS.out, HV.out]
      · rw [hm] at h1
        have h2 := xor_u32 z 3988292384 (by omega) (by decide)
        have HV : Hid (sh1 y = z ^^^ 3988292384) := by show _ = _; unfold sh1; rw [if_pos hm, hz]
        rw [show ((3988292384 : Nat) : Int) = 3988292384 from rfl, ← HV.out] at h2
        generalize sh1 y = q at HS HV h2
        clear hl hm hz
        go_wp2
        refine ⟨⟨k + 1, by omega, ?_, by go_num⟩, by simp [intOf]; omega⟩
        rw [HS.out]
    · have HK : Hid (k = 8) := by show _ = _; omega
      have i3 : (8 : Int) ≤ (k : Int) := by omega
      go_wp2
      go_ret
      exact ⟨by rw [HY.out, HK.out]; rfl, rfl⟩

def zeros256 : List Int := List.replicate 256 0
/-- What eight shifts make of the first k bytes. -/
def tab (k : Nat) : List Int := (List.range k).map fun i => ((shN 8 i : Nat) : Int)
theorem tab_len (k : Nat) : (tab k).length = k := by simp [tab]
theorem tab_succ (k : Nat) : tab (k + 1) = tab k ++ [((shN 8 k : Nat) : Int)] := by simp [tab, List.range_succ]
theorem tab_get (k j : Nat) (hj : j < (tab k).length) : (tab k)[j] = ((shN 8 j : Nat) : Int) := by simp [tab]
/-- The zero value's cells: a name that no walk opens. -/
def zc256 : Array Value := (nums zeros256).toArray
theorem zc256_ne : zc256 ≠ #[] := fun h => by
  have h1 : zc256.size = 256 := by rw [zc256, List.size_toArray, nums_len, zeros256, List.length_replicate]
  rw [h] at h1
  cases h1
theorem zero256 (w : World) : (zeroValue 45).run Try.prog w = .ok (.agg zc256) w := by
  have h : (Try.prog.info? 45).map (·.zero) = some (some (.agg zc256)) := by kernel_rfl
  cases hi : Try.prog.info? 45 with
  | none => rw [hi] at h; cases h
  | some i =>
    rw [hi] at h
    simp only [Option.map_some, Option.some.injEq] at h
    simp [zeroValue, typeInfo, hi, h]
theorem info256 : (Try.prog.info? 45).map (·.size) = some 256 := by kernel_rfl

set_option maxHeartbeats 4000000 in
set_option maxRecDepth 100000 in
theorem newShifts_any (w : World) :
    Calls Try.prog 20 #[] w fun e w' => e = .returned (arr (tab 256)) ∧ Below w.heap.size w w' := by
  have hz := zero256
  have hne := zc256_ne
  go_enter Try.func20, Try.ntmps20
  go_wp2
  go_loopw [3] (fun i wr => ∃ (k : Nat) (l : List Int), k ≤ 256 ∧ i = .int .i64 k ∧ l.length = 256 ∧ l.take k = tab k ∧ ArrAt wr (w.heap.size + 1) 45 l ∧ ArrAt wr w.heap.size 45 zeros256 ∧ Below w.heap.size w wr) (fun i _ => 256 - (intOf i).toNat)
  case atStart =>
    refine ⟨0, zeros256, by omega, rfl, rfl, rfl, ?_, ?_, ((Below.refl _ _).alloc (Nat.le_refl _) _).alloc (by simp) _⟩
    · have := ArrAt.new (w.alloc (.cells (nums zeros256).toArray 45)) 45 zeros256
      rw [World.size_alloc] at this
      exact this
    · exact (ArrAt.new w 45 zeros256).up ((Below.refl (w.heap.size + 1) _).alloc (by simp) _) (Nat.lt_succ_self _)
  case round =>
    obtain ⟨k, l, hk, rfl, hll, htk, hA, hR, hb⟩ := hrel
    have HT : Hid _ := htk
    have HA : Hid (ArrAt wr (w.heap.size + 1) 45 l) := hA
    have HR : Hid (ArrAt wr w.heap.size 45 zeros256) := hR
    have HB : Hid (Below w.heap.size w wr) := hb
    clear htk hA hR hb
    by_cases hlt : k < 256
    · have c1 := HA.out.cell k (by omega)
      have c2 := HA.out.fro k
      have i2 : (k : Int) < 256 := by omega
      have i3 : (k : Int) % 4294967296 = k := by omega
      go_wp2_with (go_at_call 31; refine (shifted_any k _ (by omega)).mono ?_; rintro e w' ⟨rfl, rfl⟩)
      refine ⟨⟨k + 1, l.set k ((shN 8 k : Nat) : Int), by omega, by go_num, by simpa using hll, ?_, HA.out.set k _, HR.out.other k _ (by omega), HB.out.setCell (p := ⟨w.heap.size + 1, k, none⟩) (Nat.le_succ _) _⟩, by simp [intOf]; omega⟩
      rw [take_set l k _ (by omega), HT.out, tab_succ]
    · obtain rfl : k = 256 := by omega
      have HL : Hid (l = tab 256) := by show _ = _; rw [← HT.out, List.take_of_length_le (by omega)]
      have hth := HR.out.there 256 rfl
      have HB6 : Hid (Below w.heap.size w (wr.setCells w.heap.size 0 (nums l))) := below_setCells (Nat.le_refl _) _ _ HB.out
      have hrs : (loadVar 45 ⟨w.heap.size, 0, none⟩).run Try.prog (wr.setCells w.heap.size 0 (nums l)) = .ok (.agg (nums l).toArray) (wr.setCells w.heap.size 0 (nums l)) :=
        run_loadVar_mid _ w.heap.size 0 45 (nums l) _ (World.rangeAt_setCells_same _ _ _ _ (HR.out.there _ (by rw [nums_len, hll]; rfl))) Try.underlying45 rfl (by rw [info256, nums_len, hll])
      have HTH : Hid (wr.there w.heap.size 0 256) := hth
      have HRS : Hid _ := hrs
      have HI : Hid ((Try.prog.info? 45).map (·.size) = some (nums l).length ∧ (nums l).toArray.size = 256) := ⟨by rw [info256, nums_len, hll], by rw [List.size_toArray, nums_len, hll]⟩
      have HRG : Hid (wr.rangeAt (w.heap.size + 1) 0 (nums l)) := HA.out.range
      have HON : Hid ((nums l).toArray.all (·.oneCell') = true) := nums_one l
      clear hrs hth HA HR HT HB
      generalize hcs : nums l = cs at HB6 HRS HI HRG HON
      have HCS : Hid (nums l = cs) := hcs
      clear hcs
      go_wp2_with (first
        | (refine wpList_load_mid rfl 45 (Operand.tmp 1) rfl (w.heap.size + 1) 0 rfl cs _ HRG.out Try.underlying45 rfl HI.out.1 ?_)
        | (refine wpList_store_mid rfl 45 (Operand.tmp 0) (Operand.tmp 12) rfl w.heap.size 0 cs.toArray rfl rfl (by rw [HI.out.2]; exact HTH.out) (by rw [info256, HI.out.2]) HON.out ?_))
      refine bodyPost_ret (v := .agg cs.toArray) (results_one Try.results20 _ _ rfl HRS.out) rfl ⟨?_, HB6.out⟩
      rw [← HL.out]
      exact congrArg (fun c : List Value => Ending.returned (.agg c.toArray)) HCS.out.symm

theorem byte_u8 (x : Nat) : IntKind.u8.wrap (x : Int) = ((x % 256 : Nat) : Int) := by rw [IntKind.wrap_u8]; omega
theorem take_snocB (s : ByteArray) (k : Nat) (h : k < s.size) : s.data.toList.take (k + 1) = s.data.toList.take k ++ [s[k]] := by
  rw [List.take_succ_eq_append_getElem (by simpa using h)]; rfl

/-- What eight shifts make of each byte lies in block b. -/
def TabAt (w : World) (b : Nat) : Prop := ∀ j, j < 256 → w.cell? ⟨b, j, none⟩ = some (.int .u32 ((shN 8 j : Nat) : Int))
theorem TabAt.up {B : Nat} {w w' : World} {b : Nat} (h : TabAt w b) (hb : Below B w w') (hB : b < B) : TabAt w' b := fun j hj => (hb.cell (p := ⟨b, j, none⟩) hB).trans (h j hj)
theorem TabAt.lt {w : World} {b : Nat} (h : TabAt w b) : b < w.heap.size := World.block_lt_of_cell? w ⟨b, 0, none⟩ (h 0 (by decide))

set_option maxHeartbeats 2000000 in
set_option maxRecDepth 100000 in
theorem chk_any (b : Nat) (s : ByteArray) (w : World) (hs : s.size ≤ 281474976710656) (hA : TabAt w b) :
    Calls Try.prog 36 #[.pointer (some ⟨b, 0, none⟩), .string s] w fun e w' => e = .returned (.int .u32 (crc s.data.toList : Nat)) ∧ Below w.heap.size w w' := by
  have HA : Hid (TabAt w b) := hA
  have hbw : b < w.heap.size := hA.lt
  clear hA
  go_enter Try.func36, Try.ntmps36
  go_wp2
  go_loopw [5, 9] (fun v i wr => ∃ k : Nat, k ≤ s.size ∧ v = .int .u32 (crcS 4294967295 (s.data.toList.take k) : Nat) ∧ i = .int .i64 k ∧ Below w.heap.size w wr) (fun _ i _ => s.size - (intOf i).toNat)
  case atStart => exact ⟨0, Nat.zero_le _, rfl, rfl, Below.refl _ _⟩
  case round =>
    obtain ⟨k, hk, rfl, rfl, hb⟩ := hrel
    have HB : Hid (Below w.heap.size w wr) := hb
    clear hb
    have hl := crcS_lt (s.data.toList.take k) 4294967295 (by decide)
    by_cases hlt : k < s.size
    · have HC : Hid (crcS 4294967295 (s.data.toList.take (k + 1)) = crcB (crcS 4294967295 (s.data.toList.take k)) s[k]) := by show _ = _; rw [take_snocB s k hlt, crcS_snoc]
      generalize crcS 4294967295 (s.data.toList.take k) = y at hl HC
      have HT : Hid (crcB y s[k] = (y / 256) ^^^ shN 8 ((y % 256) ^^^ s[k].toNat)) := crcB_table y s[k]
      have hs1 : Op.shift .shr .u32 (y : Int) .u64 8 = pure (.int .u32 ((y / 256 : Nat) : Int)) := by
        rw [shift_shr _ _ _ _ (by omega) (by decide)]
        congr 2
      have hw := byte_u8 y
      have hlt8 : s[k].toNat < 2 ^ 8 := s[k].toNat_lt
      have hx := xor_u8 (y % 256) s[k].toNat (Nat.mod_lt _ (by decide)) hlt8
      have hxl : (y % 256) ^^^ s[k].toNat < 256 := Nat.xor_lt_two_pow (n := 8) (Nat.mod_lt _ (by decide)) hlt8
      generalize (y % 256) ^^^ s[k].toNat = j at hx hxl HT
      have c0 := (HB.out.cell (p := ⟨b, j, none⟩) hbw).trans (HA.out j hxl)
      have hj := shN_lt 8 j (by omega)
      have hx2 := xor_u32 (y / 256) (shN 8 j) (by omega) hj
      generalize shN 8 j = q at c0 hj hx2 HT
      generalize y / 256 = y1 at hs1 hx2 HT
      generalize y % 256 = y2 at hw hx
      generalize y1 ^^^ q = r at hx2 HT
      have hj2 : (j : Int) < 256 := by omega
      clear hl hj hxl hlt8
      go_wp2
      go_region
      go_wp2
      refine ⟨⟨k + 1, by omega, ?_, by go_num, HB.out.drew⟩, by simp [intOf]; omega⟩
      rw [HC.out, HT.out]
    · have HK : Hid (s.data.toList.take k = s.data.toList) := List.take_of_length_le (by rw [Array.length_toList]; exact Nat.le_of_not_lt hlt)
      have hn : bits .xor .u32 IntKind.u32.max ((crcS 4294967295 (s.data.toList.take k) : Nat) : Int) = _ := not_u32 _ hl
      have HC : Hid (crc s.data.toList = 4294967295 - crcS 4294967295 (s.data.toList.take k)) := by show _ = _; rw [HK.out]; rfl
      generalize crcS 4294967295 (s.data.toList.take k) = y at hl HC hn
      generalize 4294967295 - y = z at HC hn
      go_wp2
      go_ret
      exact ⟨by rw [HC.out]; rfl, HB.out⟩
end Go.Proofs.Ytcfplkfddcblnaa
