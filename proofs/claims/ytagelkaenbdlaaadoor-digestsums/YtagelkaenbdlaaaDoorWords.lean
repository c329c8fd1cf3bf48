/- What the digest's own words of a block are. -/
import Derived.Test.YtagelkaenbdlaaaDoorSha
namespace Go.Proofs.YtagelkaenbdlaaaDoor
open Go.RowKit

def zeros : List Int := List.replicate 64 0
def be4 (c0 c1 c2 c3 : Int) : Int := bits .or .u32 (bits .or .u32 (bits .or .u32 (c0 % 4294967296 * 16777216 % 4294967296) (c1 % 4294967296 * 65536 % 4294967296)) (c2 % 4294967296 * 256 % 4294967296)) (c3 % 4294967296)
def sig0 (x : Int) : Int := bits .xor .u32 (bits .xor .u32 (rotR x 7) (rotR x 18)) (x / 8)
def sig1 (x : Int) : Int := bits .xor .u32 (bits .xor .u32 (rotR x 17) (rotR x 19)) (x / 1024)
def byteAt (s : ByteArray) (k : Nat) : Int := ((s.data.toList.getD k 0).toNat : Int)
/-- The word k, of those ahead of it. -/
def wnext (s : ByteArray) (l : List Int) (k : Nat) : Int :=
  if k < 16 then be4 (byteAt s (4 * k)) (byteAt s (4 * k + 1)) (byteAt s (4 * k + 2)) (byteAt s (4 * k + 3))
  else (l.getD (k - 16) 0 + sig0 (l.getD (k - 15) 0) + l.getD (k - 7) 0 + sig1 (l.getD (k - 2) 0)) % 4294967296
def ws (s : ByteArray) : Nat → List Int
  | 0 => []
  | k + 1 => ws s k ++ [wnext s (ws s k) k]
theorem ws_len (s : ByteArray) (k : Nat) : (ws s k).length = k := by
  induction k with
  | zero => rfl
  | succ k ih => simp [ws, ih]
theorem byteAt_get (s : ByteArray) (k : Nat) (hk : k < s.size) : byteAt s k = (s[k].toNat : Int) := by
  unfold byteAt
  have h : k < s.data.toList.length := by rw [Array.length_toList]; exact hk
  rw [List.getD, List.getElem?_eq_getElem h]
  rfl
theorem info64 : (Tryd.prog.info? 69).map (·.size) = some 64 := by kernel_rfl

set_option maxHeartbeats 4000000 in
set_option maxRecDepth 100000 in
theorem words_any (w : World) (s : ByteArray) (hs : s.size = 64) :
    Calls Tryd.prog 58 #[.string s] w fun e w' => e = .returned (arr (ws s 64)) ∧ Below w.heap.size w w' := by
  have HS : Hid (s.size = 64) := hs
  clear hs
  go_enter Tryd.func58, Tryd.ntmps58
  go_wp2
  go_loopw [10] (fun i wr => ∃ (k : Nat) (l : List Int), k ≤ 16 ∧ i = .int .i64 k ∧ l.length = 64 ∧ l.take k = ws s k ∧ ArrAt wr (w.heap.size + 1) 69 l ∧ ArrAt wr w.heap.size 69 zeros ∧ Below w.heap.size w wr) (fun i _ => 16 - (intOf i).toNat)
  case atStart =>
    refine ⟨0, zeros, by omega, rfl, rfl, rfl, ?_, ?_, ((Below.refl _ _).alloc (Nat.le_refl _) _).alloc (by simp) _⟩
    · have := ArrAt.new (w.alloc (.cells (nums zeros).toArray 69)) 69 zeros
      rw [World.size_alloc] at this
      exact this
    · exact (ArrAt.new w 69 zeros).up ((Below.refl (w.heap.size + 1) _).alloc (by simp) _) (Nat.lt_succ_self _)
  case round =>
    obtain ⟨k, l, hk, rfl, hll, htk, hA, hR, hb⟩ := hrel
    have HT : Hid _ := htk
    have HA : Hid (ArrAt wr (w.heap.size + 1) 69 l) := hA
    have HR : Hid (ArrAt wr w.heap.size 69 zeros) := hR
    have HB : Hid (Below w.heap.size w wr) := hb
    clear htk hA hR hb
    by_cases hlt : k < 16
    · have c1 := HA.out.cell k (by omega)
      have c2 := HA.out.fro k
      have i2 : (k : Int) < 16 := by omega
      have j0 : IntKind.i64.wrap (4 * (k : Int)) = 4 * (k : Int) := by rw [IntKind.wrap_i64]; omega
      have j1 : IntKind.i64.wrap (4 * (k : Int) + 1) = 4 * (k : Int) + 1 := by rw [IntKind.wrap_i64]; omega
      have j2 : IntKind.i64.wrap (4 * (k : Int) + 2) = 4 * (k : Int) + 2 := by rw [IntKind.wrap_i64]; omega
      have j3 : IntKind.i64.wrap (4 * (k : Int) + 3) = 4 * (k : Int) + 3 := by rw [IntKind.wrap_i64]; omega
      have b0 : (0 : Int) ≤ 4 * (k : Int) := by omega
      have b1 : (0 : Int) ≤ 4 * (k : Int) + 1 := by omega
      have b2 : (0 : Int) ≤ 4 * (k : Int) + 2 := by omega
      have b3 : (0 : Int) ≤ 4 * (k : Int) + 3 := by omega
      have d0 : 4 * (k : Int) < s.size := by have := HS.out; omega
      have d1 : 4 * (k : Int) + 1 < s.size := by have := HS.out; omega
      have d2 : 4 * (k : Int) + 2 < s.size := by have := HS.out; omega
      have d3 : 4 * (k : Int) + 3 < s.size := by have := HS.out; omega
      have t0 : (4 * (k : Int)).toNat = 4 * k := by omega
      have t1 : (4 * (k : Int) + 1).toNat = 4 * k + 1 := by omega
      have t2 : (4 * (k : Int) + 2).toNat = 4 * k + 2 := by omega
      have t3 : (4 * (k : Int) + 3).toNat = 4 * k + 3 := by omega
      go_wp2
      go_region
      go_wp2
      refine ⟨⟨k + 1, l.set k (wnext s (ws s k) k), by omega, by go_num, by simpa using hll, ?_, ?_, ?_, ?_⟩, by simp [intOf]; omega⟩
      · rw [take_set l k _ (by omega), HT.out]; rfl
      · have hv : wnext s (ws s k) k = be4 (s[4 * k].toNat : Int) (s[4 * k + 1].toNat : Int) (s[4 * k + 2].toNat : Int) (s[4 * k + 3].toNat : Int) := by
          unfold wnext
          rw [if_pos hlt, byteAt_get s _ (by omega), byteAt_get s _ (by omega), byteAt_get s _ (by omega), byteAt_get s _ (by omega)]
        rw [hv]
        exact HA.out.set k _
      · exact HR.out.other k _ (by omega)
      · exact (HB.out.setCell (p := ⟨w.heap.size + 1, k, none⟩) (Nat.le_succ _) _).drew
    · have HK : Hid (k = 16) := by show _ = _; omega
      have i3 : (16 : Int) ≤ (k : Int) := by omega
      go_wp2
      go_loopw [5] (fun i wr => ∃ (k : Nat) (l : List Int), 16 ≤ k ∧ k ≤ 64 ∧ i = .int .i64 k ∧ l.length = 64 ∧ l.take k = ws s k ∧ ArrAt wr (w.heap.size + 1) 69 l ∧ ArrAt wr w.heap.size 69 zeros ∧ Below w.heap.size w wr) (fun i _ => 64 - (intOf i).toNat)
      case atStart => exact ⟨16, l, by omega, by omega, rfl, hll, by have := HT.out; rwa [HK.out] at this, HA.out, HR.out, HB.out⟩
      case round =>
        clear hll HT HA HR HB HK
        obtain ⟨k, l, hk0, hk, rfl, hll, htk, hA, hR, hb⟩ := hrel
        have HT : Hid (l.take k = ws s k) := htk
        have HR : Hid (ArrAt _ w.heap.size 69 zeros) := hR
        have HB : Hid (Below w.heap.size w _) := hb
        have HA : Hid (ArrAt _ (w.heap.size + 1) 69 l) := hA
        clear htk hA hR hb
        by_cases hlt : k < 64
        · have i2 : (k : Int) < 64 := by omega
          have c0 := HA.out.cell k (by omega)
          have f0 := HA.out.fro k
          have c1 := HA.out.cell (k - 15) (by omega)
          have c2 := HA.out.cell (k - 2) (by omega)
          have c3 := HA.out.cell (k - 16) (by omega)
          have c4 := HA.out.cell (k - 7) (by omega)
          rw [get_take l _ k _ HT.out (by omega)] at c1 c2 c3 c4
          have j1 : IntKind.i64.wrap ((k : Int) - 15) = (k : Int) - 15 := by rw [IntKind.wrap_i64]; omega
          have j2 : IntKind.i64.wrap ((k : Int) - 2) = (k : Int) - 2 := by rw [IntKind.wrap_i64]; omega
          have j3 : IntKind.i64.wrap ((k : Int) - 16) = (k : Int) - 16 := by rw [IntKind.wrap_i64]; omega
          have j4 : IntKind.i64.wrap ((k : Int) - 7) = (k : Int) - 7 := by rw [IntKind.wrap_i64]; omega
          have b1 : (0 : Int) ≤ (k : Int) - 15 := by omega
          have b2 : (0 : Int) ≤ (k : Int) - 2 := by omega
          have b3 : (0 : Int) ≤ (k : Int) - 16 := by omega
          have b4 : (0 : Int) ≤ (k : Int) - 7 := by omega
          have d1 : (k : Int) - 15 < 64 := by omega
          have d2 : (k : Int) - 2 < 64 := by omega
          have d3 : (k : Int) - 16 < 64 := by omega
          have d4 : (k : Int) - 7 < 64 := by omega
          have t1 : ((k : Int) - 15).toNat = k - 15 := by omega
          have t2 : ((k : Int) - 2).toNat = k - 2 := by omega
          have t3 : ((k : Int) - 16).toNat = k - 16 := by omega
          have t4 : ((k : Int) - 7).toNat = k - 7 := by omega
          generalize hx1 : (ws s k).getD (k - 15) 0 = x1 at c1
          generalize hx2 : (ws s k).getD (k - 2) 0 = x2 at c2
          generalize hx3 : (ws s k).getD (k - 16) 0 = x3 at c3
          generalize hx4 : (ws s k).getD (k - 7) 0 = x4 at c4
          have HV : Hid (wnext s (ws s k) k = (x3 + sig0 x1 + x4 + sig1 x2) % 4294967296) := by
            show _ = _
            unfold wnext
            rw [if_neg (by omega), hx1, hx2, hx3, hx4]
          clear hx1 hx2 hx3 hx4
          go_wp2
          go_region
          go_wp2_with fail
          refine (turned_any x1 7 _ (by decide) (by decide)).mono ?_
          rintro e w1 ⟨rfl, rfl⟩
          go_wp2_with fail
          refine (turned_any x1 18 _ (by decide) (by decide)).mono ?_
          rintro e w1 ⟨rfl, rfl⟩
          go_wp2_with fail
          refine (turned_any x2 17 _ (by decide) (by decide)).mono ?_
          rintro e w1 ⟨rfl, rfl⟩
          go_wp2_with fail
          refine (turned_any x2 19 _ (by decide) (by decide)).mono ?_
          rintro e w1 ⟨rfl, rfl⟩
          go_wp2
          go_region
          go_wp2
          refine ⟨⟨k + 1, l.set k (wnext s (ws s k) k), by omega, by omega, by go_num, by simpa using hll, ?_, ?_, ?_, ?_⟩, by simp [intOf]; omega⟩
          · rw [take_set l k _ (by omega), HT.out]; rfl
          · rw [HV.out]
            exact HA.out.set k _
          · exact HR.out.other k _ (by omega)
          · exact (HB.out.setCell (p := ⟨w.heap.size + 1, k, none⟩) (Nat.le_succ _) _).drew.drew
        · obtain rfl : k = 64 := by omega
          have HL : Hid (l = ws s 64) := by show _ = _; rw [← HT.out, List.take_of_length_le (by omega)]
          have hth := HR.out.there 64 rfl
          have HB6 : Hid (Below w.heap.size w (wr.setCells w.heap.size 0 (nums l))) := below_setCells (Nat.le_refl _) _ _ HB.out
          have hrs : (loadVar 69 ⟨w.heap.size, 0, none⟩).run Tryd.prog (wr.setCells w.heap.size 0 (nums l)) = .ok (.agg (nums l).toArray) (wr.setCells w.heap.size 0 (nums l)) :=
            run_loadVar_mid _ w.heap.size 0 69 (nums l) _ (World.rangeAt_setCells_same _ _ _ _ (HR.out.there _ (by rw [nums_len, hll]; rfl))) Tryd.underlying69 rfl (by rw [info64, nums_len, hll])
          have HTH : Hid (wr.there w.heap.size 0 64) := hth
          have HRS : Hid _ := hrs
          have HI : Hid ((Tryd.prog.info? 69).map (·.size) = some (nums l).length ∧ (nums l).toArray.size = 64) := ⟨by rw [info64, nums_len, hll], by rw [List.size_toArray, nums_len, hll]⟩
          have HRG : Hid (wr.rangeAt (w.heap.size + 1) 0 (nums l)) := HA.out.range
          have HON : Hid ((nums l).toArray.all (·.oneCell') = true) := nums_one l
          clear hrs hth HA HR HT HB
          generalize hcs : nums l = cs at HB6 HRS HI HRG HON
          have HCS : Hid (nums l = cs) := hcs
          clear hcs
          go_wp2_with (first
            | (refine wpList_load_mid rfl 69 (Operand.tmp 3) rfl (w.heap.size + 1) 0 rfl cs _ HRG.out Tryd.underlying69 rfl HI.out.1 ?_)
            | (refine wpList_store_mid rfl 69 (Operand.tmp 2) (Operand.tmp 88) rfl w.heap.size 0 cs.toArray rfl rfl (by rw [HI.out.2]; exact HTH.out) (by rw [info64, HI.out.2]) HON.out ?_))
          refine bodyPost_ret (v := .agg cs.toArray) (results_one Tryd.results58 _ _ rfl HRS.out) rfl ⟨?_, HB6.out⟩
          rw [← HL.out]
          exact congrArg (fun c : List Value => Ending.returned (.agg c.toArray)) HCS.out.symm
end Go.Proofs.YtagelkaenbdlaaaDoor
