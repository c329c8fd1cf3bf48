/- What the digest's own sum of a text is. -/
import Derived.Test.YtkmlooepakinfaaGreatDoorRows
import Derived.Shelf.Strings.Cut
import Derived.Shelf.Slices.CompactS
import Derived.Test.YtkmlooepakinfaaGreatDoorChecked
import Derived.Shelf.SlIter.Nil
import Derived.Shelf.SortM.Plain
import Derived.Shelf.SortM.SortNone
import Derived.Shelf.SlSortCmp.WholeK
import Derived.Shelf.SlSortCmp.NoneTotal
import Derived.Ground.GgzProg
import Derived.Ground.SlgmProg
import Derived.Ground.SlsfProg
import Derived.Sort.OwnSorted
import Derived.Test.YtkmlooepakinfaaGreatDoorTf3
namespace Go.Proofs.YtkmlooepakinfaaGreatDoor
open Go.RowKit

/-- The state behind so many blocks of a text. -/
def blocks (s : ByteArray) (ks : List Int) (q : S8) : Nat → S8
  | 0 => q
  | n + 1 => mixS (blocks s ks q n) (s.extract (64 * n) (64 * n + 64)) ks
def tailOf (s : ByteArray) : ByteArray := s.extract (s.size - s.size % 64) s.size ++ ⟨(endB s.size).toArray⟩
def sumS (s : ByteArray) (sq : S8) (ks : List Int) : S8 := blocks (tailOf s) ks (blocks s ks sq (s.size / 64)) ((tailOf s).size / 64)
def sumB (s : ByteArray) (sq : S8) (ks : List Int) : ByteArray := ⟨(dgs (sumS s sq ks).l).toArray⟩

theorem sub_str (s : ByteArray) (a b : Nat) (x y : Int) (hx : x = a) (hy : y = b) (h1 : a ≤ b) (h2 : b ≤ s.size) (W : World) : (Instr.slice 9 (.string s) (some (.int .i64 x)) (some (.int .i64 y)) none).run Tryz.prog W = .ok (.string (s.extract a b)) W := by
  subst hx hy
  have e1 : (a : Int) ≤ (b : Int) := by omega
  have e2 : (b : Int) ≤ (s.size : Int) := by omega
  simp [Instr.slice, Instr.sliceBounds, Instr.sliceBound, run_underlying Tryz.underlying9, asIntOf, h1, h2]
theorem sub_end (s : ByteArray) (a : Nat) (x : Int) (hx : x = a) (h1 : a ≤ s.size) (W : World) : (Instr.slice 9 (.string s) (some (.int .i64 x)) none none).run Tryz.prog W = .ok (.string (s.extract a s.size)) W := by
  subst hx
  simp [Instr.slice, Instr.sliceBounds, Instr.sliceBound, run_underlying Tryz.underlying9, asIntOf, h1]
theorem ArrAt.all8 {w : World} {b : Nat} {T : TypeId} {x0 x1 x2 x3 x4 x5 x6 x7 : Int} (h : ArrAt w b T [x0, x1, x2, x3, x4, x5, x6, x7]) (v0 v1 v2 v3 v4 v5 v6 v7 : Int) : ArrAt ((((((((w.setCell ⟨b, 0, none⟩ (.int .u32 v0)).setCell ⟨b, 1, none⟩ (.int .u32 v1)).setCell ⟨b, 2, none⟩ (.int .u32 v2)).setCell ⟨b, 3, none⟩ (.int .u32 v3)).setCell ⟨b, 4, none⟩ (.int .u32 v4)).setCell ⟨b, 5, none⟩ (.int .u32 v5)).setCell ⟨b, 6, none⟩ (.int .u32 v6)).setCell ⟨b, 7, none⟩ (.int .u32 v7)) b T [v0, v1, v2, v3, v4, v5, v6, v7] :=
  (((((((h.set 0 v0).set 1 v1).set 2 v2).set 3 v3).set 4 v4).set 5 v5).set 6 v6).set 7 v7

theorem ArrAt.lt {w : World} {b : Nat} {T : TypeId} {l : List Int} (h : ArrAt w b T l) : b < w.heap.size := (Array.getElem?_eq_some_iff.1 h).1
theorem endB_len (n : Nat) : (endB n).length = endQ n + 8 := by
  have : 1 ≤ endQ n := by unfold endQ; omega
  simp [endB, lenBs]
  omega
theorem tail_size (s : ByteArray) : (tailOf s).size = s.size % 64 + (endQ s.size + 8) := by
  have : (⟨(endB s.size).toArray⟩ : ByteArray).size = endQ s.size + 8 := by
    rw [← endB_len]
    rfl
  unfold tailOf
  rw [ByteArray.size_append, ByteArray.size_extract, this]
  omega
theorem ArrAt.is8 {w : World} {b : Nat} {T : TypeId} {x : S8} (h : ArrAt w b T x.l) : (w.cell? ⟨b, 0, none⟩ = some (.int .u32 x.a) ∧ w.cell? ⟨b, 1, none⟩ = some (.int .u32 x.b) ∧ w.cell? ⟨b, 2, none⟩ = some (.int .u32 x.c) ∧ w.cell? ⟨b, 3, none⟩ = some (.int .u32 x.d) ∧ w.cell? ⟨b, 4, none⟩ = some (.int .u32 x.e) ∧ w.cell? ⟨b, 5, none⟩ = some (.int .u32 x.f) ∧ w.cell? ⟨b, 6, none⟩ = some (.int .u32 x.g) ∧ w.cell? ⟨b, 7, none⟩ = some (.int .u32 x.h)) ∧
    w.frozen? ⟨b, 0, none⟩ = false ∧ w.frozen? ⟨b, 1, none⟩ = false ∧ w.frozen? ⟨b, 2, none⟩ = false ∧ w.frozen? ⟨b, 3, none⟩ = false ∧ w.frozen? ⟨b, 4, none⟩ = false ∧ w.frozen? ⟨b, 5, none⟩ = false ∧ w.frozen? ⟨b, 6, none⟩ = false ∧ w.frozen? ⟨b, 7, none⟩ = false :=
  ⟨⟨h.cell 0 (by simp [S8.l]), h.cell 1 (by simp [S8.l]), h.cell 2 (by simp [S8.l]), h.cell 3 (by simp [S8.l]), h.cell 4 (by simp [S8.l]), h.cell 5 (by simp [S8.l]), h.cell 6 (by simp [S8.l]), h.cell 7 (by simp [S8.l])⟩, h.fro 0, h.fro 1, h.fro 2, h.fro 3, h.fro 4, h.fro 5, h.fro 6, h.fro 7⟩

set_option maxHeartbeats 4000000 in
set_option maxRecDepth 100000 in
theorem sum_any (w : World) (s : ByteArray) (sq : S8) (ks : List Int) (hs : s.size ≤ 140737488355328) (hk : ks.length = 64) (hq : LaidAt 0 w sq.l) (hg : LaidAt 1 w ks) :
    Calls Tryz.prog 29 #[.string s] w fun e w' => e = .returned (.string (sumB s sq ks)) ∧ Below w.heap.size w w' := by
  have hz : 1 < w.heap.size := World.block_lt_of_cell? w ⟨1, 0, none⟩ (hg 0 (by omega))
  have HG : Hid (LaidAt 1 w ks) := hg
  have HQ : Hid (LaidAt 0 w sq.l) := hq
  clear hg hq
  obtain ⟨m, hm⟩ : ∃ m, m = s.size / 64 := ⟨_, rfl⟩
  have e0 : (s.size : Int) - (s.size : Int) % 64 = 64 * (m : Int) := by omega
  have hm1 : 64 * m ≤ s.size := by omega
  have HM : Hid (m = s.size / 64) := hm
  clear hm
  go_enter Tryz.func29, Tryz.ntmps29
  go_wp2_with fail
  refine (newState_any _ sq.l rfl HQ.out).mono ?_
  rintro e1 w1 ⟨rfl, hb1⟩
  have hz1 : w.heap.size ≤ w1.heap.size := hb1.size
  have HB1 : Hid (Below w.heap.size w w1) := hb1
  clear hb1
  simp only [arr, nums, S8.l, List.map]
  go_wp2
  go_loopw [5] (fun i wr => ∃ k : Nat, k ≤ m ∧ i = .int .i64 (64 * (k : Int)) ∧ ArrAt wr w1.heap.size 96 (blocks s ks sq k).l ∧ Below w1.heap.size w1 wr ∧ w1.heap.size < wr.heap.size) (fun i _ => 64 * m - (intOf i).toNat)
  case atStart => exact ⟨0, by omega, rfl, ArrAt.new w1 96 sq.l, (Below.refl _ _).alloc (Nat.le_refl _) _, by simp⟩
  case round =>
    obtain ⟨k, hkm, rfl, hA, hb, hsz⟩ := hrel
    have HA : Hid (ArrAt wr w1.heap.size 96 (blocks s ks sq k).l) := hA
    have HB : Hid (Below w1.heap.size w1 wr) := hb
    clear hA hb
    have c0 := HA.out.cell 0 (by simp [S8.l])
    have c1 := HA.out.cell 1 (by simp [S8.l])
    have c2 := HA.out.cell 2 (by simp [S8.l])
    have c3 := HA.out.cell 3 (by simp [S8.l])
    have c4 := HA.out.cell 4 (by simp [S8.l])
    have c5 := HA.out.cell 5 (by simp [S8.l])
    have c6 := HA.out.cell 6 (by simp [S8.l])
    have c7 := HA.out.cell 7 (by simp [S8.l])
    simp only [S8.l, List.getElem_cons_zero, List.getElem_cons_succ] at c0 c1 c2 c3 c4 c5 c6 c7
    have HGR : Hid (LaidAt 1 wr ks) := (HG.out.up HB1.out hz).up HB.out (by omega)
    by_cases hlt : k < m
    · have i1 : (64 * (k : Int)) < 64 * (m : Int) := by omega
      have i6 : IntKind.i64.wrap (64 * (k : Int) + 64) = 64 * (k : Int) + 64 := by rw [IntKind.wrap_i64]; omega
      have hsl : ∀ W : World, _ := sub_str s (64 * k) (64 * k + 64) (64 * (k : Int)) (64 * (k : Int) + 64) (by omega) (by omega) (by omega) (by omega)
      obtain ⟨x, hx⟩ : ∃ x, x = blocks s ks sq k := ⟨_, rfl⟩
      rw [← hx] at c0 c1 c2 c3 c4 c5 c6 c7
      have HX : Hid (x = blocks s ks sq k) := hx
      have HA2 : Hid (ArrAt wr w1.heap.size 96 x.l) := by show ArrAt _ _ _ _; rw [hx]; exact HA.out
      clear hx HA
      obtain ⟨t, ht⟩ : ∃ t, t = s.extract (64 * k) (64 * k + 64) := ⟨_, rfl⟩
      rw [← ht] at hsl
      have HT : Hid (t = s.extract (64 * k) (64 * k + 64)) := ht
      have ht64 : t.size = 64 := by rw [ht, ByteArray.size_extract]; omega
      clear ht
      have HMX : Hid (∀ W : World, LaidAt 1 W ks → _) := fun W => mixed_any W t x ks ht64 hk
      have HGD : Hid (LaidAt 1 wr.drew ks) := HGR.out
      have HAD : Hid (ArrAt wr.drew w1.heap.size 96 x.l) := HA2.out
      go_wp2_with fail
      go_region_with (go_at_call 55; refine (HMX.out wr.drew HGD.out).mono ?_; rintro e3 w3 ⟨rfl, hb3⟩; obtain ⟨⟨d0, d1, d2, d3, d4, d5, d6, d7⟩, k0, k1, k2, k3, k4, k5, k6, k7⟩ := (HAD.out.up hb3 hsz).is8)
      go_wp2
      have A4 := (HAD.out.up hb3 hsz).all8 (mixS x t ks).a (mixS x t ks).b (mixS x t ks).c (mixS x t ks).d (mixS x t ks).e (mixS x t ks).f (mixS x t ks).g (mixS x t ks).h
      refine ⟨⟨k + 1, by omega, by congr 1, ?_, below8 (HB.out.drew.trans (hb3.mono HB.out.size)) (Nat.le_refl _) _ _ _ _ _ _ _ _, A4.lt⟩, by simp [intOf]; omega⟩
      show ArrAt _ _ _ (mixS (blocks s ks sq k) (s.extract (64 * k) (64 * k + 64)) ks).l
      rw [← HX.out, ← HT.out]
      exact A4
    · obtain rfl : k = m := by omega
      clear c0 c1 c2 c3 c4 c5 c6 c7
      have hsl : ∀ W : World, _ := sub_end s (64 * k) (64 * (k : Int)) (by omega) (by omega)
      have hts := tail_size s
      have hq1 : 1 ≤ endQ s.size ∧ endQ s.size ≤ 64 ∧ (s.size % 64 + (endQ s.size + 8)) % 64 = 0 := by unfold endQ; omega
      have hadd : ∀ W : World, (Op.stringOp .add (s.extract (64 * k) s.size) ⟨(endB s.size).toArray⟩).run Tryz.prog W = .ok (.string (tailOf s)) W := fun W => by
        have e5 : (⟨(endB s.size).toArray⟩ : ByteArray).size = endQ s.size + 8 := by rw [← endB_len]; rfl
        refine (run_string_add_sum (w := W) _ _ (by rw [ByteArray.size_extract, e5]; omega)).trans ?_
        unfold tailOf
        rw [show s.size - s.size % 64 = 64 * k by omega]
      obtain ⟨tl, htl⟩ : ∃ tl, tl = tailOf s := ⟨_, rfl⟩
      rw [← htl] at hadd hts
      have HTL : Hid (tl = tailOf s) := htl
      have hts64 : tl.size % 64 = 0 ∧ tl.size ≤ 192 := by omega
      clear htl hts hq1
      have HE : Hid (∀ W : World, _) := fun W => ending_any W s.size hs
      obtain ⟨x, hx⟩ : ∃ x, x = blocks s ks sq k := ⟨_, rfl⟩
      rw [← hx] at HA
      have HX : Hid (x = blocks s ks sq (s.size / 64)) := by show _ = _; rw [hx, HM.out]
      clear hx
      go_wp2_with fail
      go_region_with (go_at_call 56; refine (HE.out wr.drew).mono ?_; rintro e4 w4 ⟨rfl, hb4⟩)
      have hz4 : w1.heap.size < w4.heap.size := Nat.lt_of_lt_of_le hsz hb4.size
      have A5 : Hid (ArrAt w4 w1.heap.size 96 x.l) := (show ArrAt wr.drew w1.heap.size 96 x.l from HA.out).up hb4 hsz
      have B5 : Hid (Below w1.heap.size w1 w4) := HB.out.drew.trans (hb4.mono HB.out.size)
      clear hb4 HA HB HGR hsl hadd HE
      obtain ⟨m2, hm2⟩ : ∃ m2, tl.size = 64 * m2 := ⟨tl.size / 64, by omega⟩
      have e6 : (tl.size : Int) = 64 * (m2 : Int) := by omega
      go_wp2
      go_loopw [7] (fun i wr => ∃ j : Nat, j ≤ m2 ∧ i = .int .i64 (64 * (j : Int)) ∧ ArrAt wr w1.heap.size 96 (blocks tl ks x j).l ∧ Below w1.heap.size w1 wr ∧ w1.heap.size < wr.heap.size) (fun i _ => 64 * m2 - (intOf i).toNat)
      case atStart => exact ⟨0, by omega, rfl, A5.out, B5.out, hz4⟩
      case round =>
        clear A5 B5 hz4 hsz
        obtain ⟨j, hj, rfl, hA, hb, hsz⟩ := hrel
        obtain ⟨z, hzz⟩ : ∃ z, z = blocks tl ks x j := ⟨_, rfl⟩
        rw [← hzz] at hA
        have HA : Hid (ArrAt wr w1.heap.size 96 z.l) := hA
        have HB : Hid (Below w1.heap.size w1 wr) := hb
        have HZ : Hid (z = blocks tl ks x j) := hzz
        clear hA hb hzz
        obtain ⟨⟨c0, c1, c2, c3, c4, c5, c6, c7⟩, _⟩ := HA.out.is8
        by_cases hlt : j < m2
        · have i1 : (64 * (j : Int)) < 64 * (m2 : Int) := by omega
          have i6 : IntKind.i64.wrap (64 * (j : Int) + 64) = 64 * (j : Int) + 64 := by rw [IntKind.wrap_i64]; omega
          have hsl : ∀ W : World, _ := sub_str tl (64 * j) (64 * j + 64) (64 * (j : Int)) (64 * (j : Int) + 64) (by omega) (by omega) (by omega) (by omega)
          obtain ⟨t, ht⟩ : ∃ t, t = tl.extract (64 * j) (64 * j + 64) := ⟨_, rfl⟩
          rw [← ht] at hsl
          have HT : Hid (t = tl.extract (64 * j) (64 * j + 64)) := ht
          have ht64 : t.size = 64 := by rw [ht, ByteArray.size_extract]; omega
          clear ht
          have HMX : Hid (∀ W : World, LaidAt 1 W ks → _) := fun W => mixed_any W t z ks ht64 hk
          have HGD : Hid (LaidAt 1 wr.drew ks) := LaidAt.up (LaidAt.up HG.out HB1.out hz) HB.out.drew (by omega)
          have HAD : Hid (ArrAt wr.drew w1.heap.size 96 z.l) := HA.out
          go_wp2_with fail
          go_region_with (go_at_call 55; refine (HMX.out wr.drew HGD.out).mono ?_; rintro e3 w3 ⟨rfl, hb3⟩; obtain ⟨⟨d0, d1, d2, d3, d4, d5, d6, d7⟩, k0, k1, k2, k3, k4, k5, k6, k7⟩ := (HAD.out.up hb3 hsz).is8)
          go_wp2
          have A4 := (HAD.out.up hb3 hsz).all8 (mixS z t ks).a (mixS z t ks).b (mixS z t ks).c (mixS z t ks).d (mixS z t ks).e (mixS z t ks).f (mixS z t ks).g (mixS z t ks).h
          refine ⟨⟨j + 1, by omega, by congr 1, ?_, below8 (HB.out.drew.trans (hb3.mono HB.out.size)) (Nat.le_refl _) _ _ _ _ _ _ _ _, A4.lt⟩, by simp [intOf]; omega⟩
          show ArrAt _ _ _ (mixS (blocks tl ks x j) (tl.extract (64 * j) (64 * j + 64)) ks).l
          rw [← HZ.out, ← HT.out]
          exact A4
        · obtain rfl : j = m2 := by omega
          have HS : Hid (sumS s sq ks = z) := by
            show _ = _
            unfold sumS
            rw [← HX.out, ← HTL.out, HZ.out, show tl.size / 64 = j by omega]
          go_wp2_with fail
          refine (digits_any _ z.a z.b z.c z.d z.e z.f z.g z.h).mono ?_
          rintro e5 w5 ⟨rfl, hb5⟩
          go_wp2
          go_ret
          refine ⟨?_, HB1.out.trans ((HB.out.trans (hb5.mono HB.out.size)).mono HB1.out.size)⟩
          unfold sumB
          rw [HS.out]
          rfl
end Go.Proofs.YtkmlooepakinfaaGreatDoor

/- The digest's laid numbers, and what it sums to of one text. -/
namespace Go.Proofs.YtkmlooepakinfaaGreatDoor
open Go.RowKit

def litInts : DataW Unit → List Int
  | .agg l => l.map fun d => match d with | .lit (.int _ n) => n | _ => 0
  | _ => []
def sqL : List Int := litInts Rows.laid_foundry_digest_squareRoots
def cuL : List Int := litInts Rows.laid_foundry_digest_cubeRoots
theorem sqL_eq : (Rows.laid_foundry_digest_squareRoots : DataW Unit) = .agg (sqL.map fun n => .lit (.int .u32 n)) := by kernel_rfl
theorem cuL_eq : (Rows.laid_foundry_digest_cubeRoots : DataW Unit) = .agg (cuL.map fun n => .lit (.int .u32 n)) := by kernel_rfl
theorem sqL_len : sqL.length = 8 := by kernel_rfl
theorem cuL_len : cuL.length = 64 := by kernel_rfl
def sq8 : S8 := ⟨sqL.getD 0 0, sqL.getD 1 0, sqL.getD 2 0, sqL.getD 3 0, sqL.getD 4 0, sqL.getD 5 0, sqL.getD 6 0, sqL.getD 7 0⟩
theorem sq8_l : sq8.l = sqL := by kernel_rfl

/-- The block of "abc", its words. -/
def abcB : ByteArray := ⟨#[97, 98, 99, 128, 0, 0, 0, 0, 0, 0, 0, 0, 0, 0, 0, 0, 0, 0, 0, 0, 0, 0, 0, 0, 0, 0, 0, 0, 0, 0, 0, 0, 0, 0, 0, 0, 0, 0, 0, 0, 0, 0, 0, 0, 0, 0, 0, 0, 0, 0, 0, 0, 0, 0, 0, 0, 0, 0, 0, 0, 0, 0, 0, 24]⟩
def abcW : List Int := [1633837952, 0, 0, 0, 0, 0, 0, 0, 0, 0, 0, 0, 0, 0, 0, 24, 1633837952, 983040, 2108187653, 1610613702, 1050508152, 25426944, 316456923, 3806512014, 3357629466, 3073800610, 3854317833, 845560923, 2636160359, 3968280267, 1881225380, 3552024379, 2482346367, 996719219, 2952069057, 4043988066, 176896406, 1924104970, 2483675966, 610538786, 2672279444, 4037431130, 1042573945, 657669027, 206005234, 2215296807, 2049510749, 106709978, 4215179723, 3430291419, 3118885940, 2845390439, 2226839261, 3256115900, 344409900, 2987358873, 4015503821, 3957764664, 2682456414, 2025622859, 2755645205, 1720397816, 4004225740, 313650667]
theorem abcW_len : abcW.length = 64 := by kernel_rfl
theorem abcW_ok : ((List.range 64).all fun i => wnext abcB (abcW.take i) i == abcW.getD i 0) = true := by kernel_rfl
theorem ws_of (s : ByteArray) (L : List Int) (n : Nat) (hn : n ≤ L.length) (h : ∀ i, i < n → wnext s (L.take i) i = L.getD i 0) : ws s n = L.take n := by
  induction n with
  | zero => rfl
  | succ n ih =>
    show ws s n ++ [wnext s (ws s n) n] = _
    rw [ih (by omega) fun i hi => h i (by omega), h n (by omega), List.take_add_one, List.getD_eq_getElem?_getD, List.getElem?_eq_getElem (by omega)]
    rfl
theorem abc_ws : ws abcB 64 = abcW := by
  have h := ws_of abcB abcW 64 (by rw [abcW_len]; decide) fun i hi => by simpa using List.all_eq_true.1 abcW_ok i (List.mem_range.2 hi)
  rw [h, List.take_of_length_le (by rw [abcW_len]; decide)]

/-- A number is reckoned before it is handed on. -/
def force {α : Type} (n : Nat) (k : Nat → α) : α := match n with | 0 => k 0 | m + 1 => k (m + 1)
theorem force_eq {α : Type} (n : Nat) (k : Nat → α) : force n k = k n := by cases n <;> rfl
def forceI {α : Type} (x : Int) (k : Int → α) : α := match x with | .ofNat n => force n fun m => k (.ofNat m) | .negSucc n => k (.negSucc n)
theorem forceI_eq {α : Type} (x : Int) (k : Int → α) : forceI x k = k x := by
  cases x with
  | ofNat n =>
    show force n (fun m => k (.ofNat m)) = _
    rw [force_eq]
  | negSucc n => rfl
def goF : List (Int × Int) → S8 → S8
  | [], s => s
  | p :: r, s => forceI (s.step p.1 p.2).a fun a => forceI (s.step p.1 p.2).e fun e => goF r ⟨a, s.a, s.b, s.c, e, s.e, s.f, s.g⟩
theorem goF_eq (l : List (Int × Int)) (s : S8) : goF l s = l.foldl (fun s p => s.step p.1 p.2) s := by
  induction l generalizing s with
  | nil => rfl
  | cons p r ih =>
    rw [goF, forceI_eq, forceI_eq, ih, List.foldl_cons]
    rfl
theorem rounds8_fold (wl ks : List Int) (s : S8) (n : Nat) (h1 : n ≤ wl.length) (h2 : n ≤ ks.length) : rounds8 wl ks n s = ((ks.zip wl).take n).foldl (fun s p => s.step p.1 p.2) s := by
  induction n with
  | zero => rfl
  | succ n ih =>
    have h3 : n < (ks.zip wl).length := by rw [List.length_zip]; omega
    rw [rounds8, ih (by omega) (by omega), List.take_add_one, List.foldl_append, List.getElem?_eq_getElem h3]
    simp [List.getElem_zip, List.getD_eq_getElem?_getD, List.getElem?_eq_getElem (show n < wl.length by omega), List.getElem?_eq_getElem (show n < ks.length by omega)]
def abcS : S8 := goF (cuL.zip abcW) sq8
theorem abc_rounds : rounds8 abcW cuL 64 sq8 = abcS := by
  rw [rounds8_fold _ _ _ _ (by rw [abcW_len]; decide) (by rw [cuL_len]; decide), List.take_of_length_le (by rw [List.length_zip, abcW_len, cuL_len]; decide), ← goF_eq]
  rfl
def abcH : S8 := ⟨3128432319, 2399260650, 1094795486, 1571693091, 2953011619, 2518121116, 3021012833, 4060091821⟩
theorem abc_mix : mixS sq8 abcB cuL = abcH := by
  unfold mixS
  rw [abc_ws, abc_rounds]
  kernel_rfl
theorem abc_sum : sumB ⟨#[97, 98, 99]⟩ sq8 cuL = ⟨#[98, 97, 55, 56, 49, 54, 98, 102, 56, 102, 48, 49, 99, 102, 101, 97, 52, 49, 52, 49, 52, 48, 100, 101, 53, 100, 97, 101, 50, 50, 50, 51, 98, 48, 48, 51, 54, 49, 97, 51, 57, 54, 49, 55, 55, 97, 57, 99, 98, 52, 49, 48, 102, 102, 54, 49, 102, 50, 48, 48, 49, 53, 97, 100]⟩ := by
  have h1 : (tailOf ⟨#[97, 98, 99]⟩).extract (64 * 0) (64 * 0 + 64) = abcB := by kernel_rfl
  have h2 : (tailOf ⟨#[97, 98, 99]⟩).size / 64 = 1 := by kernel_rfl
  have h3 : (⟨#[97, 98, 99]⟩ : ByteArray).size / 64 = 0 := rfl
  unfold sumB sumS
  rw [h2, h3]
  show ByteArray.mk (dgs (mixS (blocks ⟨#[97, 98, 99]⟩ cuL sq8 0) ((tailOf ⟨#[97, 98, 99]⟩).extract (64 * 0) (64 * 0 + 64)) cuL).l).toArray = _
  rw [h1]
  show ByteArray.mk (dgs (mixS sq8 abcB cuL).l).toArray = _
  rw [abc_mix]
  kernel_rfl
end Go.Proofs.YtkmlooepakinfaaGreatDoor

/- The shelf's contracts, laid at this program. -/
namespace Go.Proofs.YtkmlooepakinfaaGreatDoor
open Go.RowKit Go.Shelf

def laysCut_ren : Go.Shelf.Ren := ⟨fun | 145 => 47 | 220 => 81 | 219 => 111 | 217 => 137 | 225 => 138 | 224 => 139 | 267 => 140 | 266 => 153 | 314 => 154 | n => n, fun | 9 => 9 | 4 => 4 | 59 => 83 | 3 => 3 | 5 => 5 | 46 => 79 | 146 => 191 | 51 => 95 | n => n, fun | 1 => 2 | n => n⟩
theorem laysCut : Go.Proofs.Lays.n145 Tryz.prog laysCut_ren := {
  mixed := by kernel_rfl
  f145 := Tryz.func47.trans (congrArg some (by kernel_rfl))
  f217 := Tryz.func137.trans (congrArg some (by kernel_rfl))
  f219 := Tryz.func111.trans (congrArg some (by kernel_rfl))
  f220 := Tryz.func81.trans (congrArg some (by kernel_rfl))
  f224 := Tryz.func139.trans (congrArg some (by kernel_rfl))
  f225 := Tryz.func138.trans (congrArg some (by kernel_rfl))
  f266 := Tryz.func153.trans (congrArg some (by kernel_rfl))
  f267 := Tryz.func140.trans (congrArg some (by kernel_rfl))
  f314 := Tryz.func154.trans (congrArg some (by kernel_rfl))
  t3 := Tryz.underlying3
  a3 := Tryz.isAgg3
  z3 := Tryz.sizeOf3
  v3 := Tryz.zeroValue3
  t4 := Tryz.underlying4
  a4 := Tryz.isAgg4
  z4 := Tryz.sizeOf4
  v4 := Tryz.zeroValue4
  t5 := Tryz.underlying5
  a5 := Tryz.isAgg5
  z5 := Tryz.sizeOf5
  v5 := Tryz.zeroValue5
  t9 := Tryz.underlying9
  a9 := Tryz.isAgg9
  z9 := Tryz.sizeOf9
  v9 := Tryz.zeroValue9
  t46 := Tryz.underlying79
  a46 := Tryz.isAgg79
  z46 := Tryz.sizeOf79
  v46 := Tryz.zeroValue79
  t51 := Tryz.underlying95
  a51 := Tryz.isAgg95
  z51 := Tryz.sizeOf95
  v51 := Tryz.zeroValue95
  t59 := Tryz.underlying83
  a59 := Tryz.isAgg83
  z59 := Tryz.sizeOf83
  v59 := Tryz.zeroValue83
  t146 := Tryz.underlying191
  a146 := Tryz.isAgg191
  z146 := Tryz.sizeOf191
  v146 := Tryz.zeroValue191
  g1 := by kernel_rfl }

def laysComp_ren : Go.Shelf.Ren := ⟨fun | 194 => 24 | n => n, fun | 31 => 30 | 9 => 9 | 3 => 3 | 4 => 4 | 0 => 0 | n => n, fun | n => n⟩
theorem laysComp : Go.Proofs.Lays.n194 Tryz.prog laysComp_ren := {
  mixed := by kernel_rfl
  f194 := Tryz.func24.trans (congrArg some (by kernel_rfl))
  t0 := Tryz.underlying0
  a0 := Tryz.isAgg0
  z0 := Tryz.sizeOf0
  v0 := Tryz.zeroValue0
  t3 := Tryz.underlying3
  a3 := Tryz.isAgg3
  z3 := Tryz.sizeOf3
  v3 := Tryz.zeroValue3
  t4 := Tryz.underlying4
  a4 := Tryz.isAgg4
  z4 := Tryz.sizeOf4
  v4 := Tryz.zeroValue4
  t9 := Tryz.underlying9
  a9 := Tryz.isAgg9
  z9 := Tryz.sizeOf9
  v9 := Tryz.zeroValue9
  t31 := Tryz.underlying30
  a31 := Tryz.isAgg30
  z31 := Tryz.sizeOf30
  v31 := Tryz.zeroValue30 }
end Go.Proofs.YtkmlooepakinfaaGreatDoor

/- What stands ready in the world: the digest's numbers; the sum of a text; a path at its first slash; a file's kind. -/
namespace Go.Proofs.YtkmlooepakinfaaGreatDoor
open Go.RowKit Go.Shelf

theorem hexC_dig : ∀ n : Nat, n < 16 → digB ((UInt8.ofNat (hexC n)).toNat : Int) = true := by decide
theorem dgt_dig (x : Int) (j : Nat) : digB ((dgt x j).toNat : Int) = true := by
  have h := nib_lt x (28 - 4 * j)
  exact hexC_dig _ (by omega)
theorem dgs_len (l : List Int) : (dgs l).length = 8 * l.length := by
  induction l with
  | nil => rfl
  | cons a r ih =>
    show (dg a 8 ++ dgs r).length = _
    rw [List.length_append, ih]
    simp [dg]
    omega
theorem sum_dig (s : ByteArray) (sq : S8) (ks : List Int) : digOk (sumB s sq ks) = true := by
  have h1 : (sumB s sq ks).size = 64 := (dgs_len (sumS s sq ks).l).trans rfl
  unfold digOk
  rw [Bool.and_eq_true]
  refine ⟨by simp [h1], ?_⟩
  rw [Lib.toList_data, List.all_eq_true]
  intro c hc
  have hc' : c ∈ dgs (sumS s sq ks).l := hc
  obtain ⟨x, _, hx⟩ := List.mem_flatMap.1 hc'
  obtain ⟨j, _, rfl⟩ := List.mem_map.1 hx
  exact dgt_dig x j

/-- The two variables lie as they were laid. -/
def Roots (w : World) : Prop := LaidAt 0 w sq8.l ∧ LaidAt 1 w cuL
theorem Roots.lt {w : World} (h : Roots w) : 0 < w.heap.size ∧ 1 < w.heap.size :=
  ⟨World.block_lt_of_cell? w ⟨0, 0, none⟩ (h.1 0 (by decide)), World.block_lt_of_cell? w ⟨1, 0, none⟩ (h.2 0 (by rw [cuL_len]; decide))⟩
theorem Roots.up {w w' : World} (h : Roots w) (hb : Below w.heap.size w w') : Roots w' := ⟨h.1.up hb h.lt.1, h.2.up hb h.lt.2⟩
theorem Sum_any (s : ByteArray) (w : World) (hs : s.size ≤ 140737488355328) (h : Roots w) :
    Calls Tryz.prog 29 #[.string s] w fun e w' => e = .returned (.string (sumB s sq8 cuL)) ∧ Below w.heap.size w w' :=
  sum_any w s sq8 cuL hs cuL_len h.1 h.2

/-- The sum of a text. -/
def smD (s : ByteArray) : ByteArray := sumB s sq8 cuL
theorem smD_dig (s : ByteArray) : digOk (smD s) = true := sum_dig s _ _
/-- What the calls lean on. -/
def Env (w : World) : Prop := MaxIs w ∧ Roots w
theorem Env.up {w w' : World} (h : Env w) (hb : Below w.heap.size w w') : Env w' := ⟨h.1.up hb, h.2.up hb⟩
theorem Sm_any (s : ByteArray) (w : World) (hs : s.size ≤ 140737488355328) (h : Env w) :
    Calls Tryz.prog 29 #[.string s] w fun e w' => e = .returned (.string (smD s)) ∧ Below w.heap.size w w' := Sum_any s w hs h.2

theorem Cut_deep (f : Fl) (w : World) (hf : deepF f = true) (hs : f.pa.size ≤ 100) (h : Env w) :
    Calls Tryz.prog 47 #[.string f.pa, .string ⟨#[47]⟩] w fun e w' => e = .returned (.tuple #[.string ⟨(hdF f).toArray⟩, .string (subF f).pa, .bool true]) ∧ Below w.heap.size w w' := by
  obtain ⟨m, hm⟩ := h.1
  refine (Any.strings_Cut laysCut f.pa ⟨#[47]⟩ m w (by omega) hm).mono ?_
  rintro e w' ⟨rfl, n, rfl⟩
  refine ⟨?_, below_drewN (Below.refl _ _) n⟩
  have e1 : Lib.cut f.pa.data.toList [47] = (hdF f, pth (subF f), true) := by
    rw [cut_sl]
    rw [show sl f.pa.data.toList = some (hdF f, pth (subF f)) from (deep_sl hf).1]
  rw [show (⟨#[47]⟩ : ByteArray).data.toList = [47] from rfl, e1]
  have e2 : (⟨(pth (subF f)).toArray⟩ : ByteArray) = (subF f).pa := by
    show (⟨(subF f).pa.data.toList.toArray⟩ : ByteArray) = _
    rw [Array.toArray_toList]
  rw [e2]
theorem Cut_top (f : Fl) (w : World) (hf : deepF f = false) (hs : f.pa.size ≤ 100) (h : Env w) :
    Calls Tryz.prog 47 #[.string f.pa, .string ⟨#[47]⟩] w fun e w' => e = .returned (.tuple #[.string f.pa, .string ⟨#[]⟩, .bool false]) ∧ Below w.heap.size w w' := by
  obtain ⟨m, hm⟩ := h.1
  refine (Any.strings_Cut laysCut f.pa ⟨#[47]⟩ m w (by omega) hm).mono ?_
  rintro e w' ⟨rfl, n, rfl⟩
  refine ⟨?_, below_drewN (Below.refl _ _) n⟩
  have e1 : Lib.cut f.pa.data.toList [47] = (f.pa.data.toList, [], false) := by
    rw [cut_sl]
    rw [show sl f.pa.data.toList = none from top_sl hf]
  rw [show (⟨#[47]⟩ : ByteArray).data.toList = [47] from rfl, e1]

set_option maxHeartbeats 1000000 in
theorem kindOf_any (f : Fl) (w : World) :
    Calls Tryz.prog 48 #[encF f] w fun e w' => e = .returned (.int .i64 (kdF f.rn)) ∧ Below w.heap.size w w' := by
  obtain ⟨p, t, r⟩ := f
  have HB : Hid (∀ o, Below w.heap.size w (w.alloc o)) := fun o => (Below.refl _ w).alloc (Nat.le_refl _) o
  unfold encF kdF
  simp only
  cases r with
  | true =>
    go_enter Tryz.func48, Tryz.ntmps48
    go_wp2
    go_ret
    exact ⟨rfl, HB.out _⟩
  | false =>
    go_enter Tryz.func48, Tryz.ntmps48
    go_wp2
    go_ret
    exact ⟨rfl, HB.out _⟩

set_option maxHeartbeats 2000000 in
set_option maxRecDepth 100000 in
theorem compareNames_any (a b : Nd) (w : World) :
    Calls Tryz.prog 52 #[.agg #[.string a.1, .int .i64 a.2.1, .string a.2.2], .agg #[.string b.1, .int .i64 b.2.1, .string b.2.2]] w fun e w' => e = .returned (.int .i64 (cmpB a.1 b.1)) ∧ w' = (w.alloc (.cells #[.string a.1, .int .i64 a.2.1, .string a.2.2] 87)).alloc (.cells #[.string b.1, .int .i64 b.2.1, .string b.2.2] 87) := by
  obtain ⟨p, t, r⟩ := a
  obtain ⟨p2, t2, r2⟩ := b
  have HC : Hid (∀ W, Calls Tryz.prog 46 #[.string p, .string p2] W fun e w' => e = .returned (.int .i64 (cmpB p p2)) ∧ w' = W) := Compare_s p p2
  simp only
  generalize cmpB p p2 = r9 at *
  go_enter Tryz.func52, Tryz.ntmps52
  go_wp2_with (first | (go_at_call 46; refine (HC.out _).mono ?_; rintro e w1 ⟨rfl, hw⟩; subst w1) | go_in)
  go_ret
  exact ⟨rfl, rfl⟩
end Go.Proofs.YtkmlooepakinfaaGreatDoor

/- Sorts, and sorted keys: the contracts of the shelf, laid at this program (by wip/trlay.py). -/
namespace Go.Proofs.YtkmlooepakinfaaGreatDoor
open Go.RowKit Go.Maps Go.Sort Go.Shelf Go.Lib

def keysS_ren : Go.Shelf.Ren := ⟨fun | 7 => 50 | 10 => 83 | n => n, fun | 23 => 82 | 26 => 9 | 3 => 22 | 28 => 90 | 0 => 0 | 27 => 89 | 33 => 48 | 4 => 4 | n => n, fun | n => n⟩
theorem keysS : Go.Proofs.SlLaysZ.n7 Tryz.prog keysS_ren := {
  mixed := by kernel_rfl
  f7 := ⟨Tryz.f50.name, by decide, Tryz.func50.trans (congrArg some (by kernel_rfl))⟩
  f10 := ⟨Tryz.f83.name, by decide, Tryz.func83.trans (congrArg some (by kernel_rfl))⟩
  t0 := Tryz.underlying0
  a0 := Tryz.isAgg0
  z0 := Tryz.sizeOf0
  v0 := Tryz.zeroValue0
  t4 := Tryz.underlying4
  a4 := Tryz.isAgg4
  z4 := Tryz.sizeOf4
  v4 := Tryz.zeroValue4
  t23 := Tryz.underlying82
  a23 := Tryz.isAgg82
  z23 := Tryz.sizeOf82
  v23 := Tryz.zeroValue82
  t26 := Tryz.underlying9
  a26 := Tryz.isAgg9
  z26 := Tryz.sizeOf9
  v26 := Tryz.zeroValue9
  t27 := Tryz.underlying89
  a27 := Tryz.isAgg89
  z27 := Tryz.sizeOf89
  v27 := Tryz.zeroValue89
  t28 := Tryz.underlying90
  a28 := Tryz.isAgg90
  z28 := Tryz.sizeOf90
  v28 := Tryz.zeroValue90
  t33 := Tryz.underlying48
  a33 := Tryz.isAgg48
  z33 := Tryz.sizeOf48
  v33 := Tryz.zeroValue48 }

def sortedS_ren : Go.Shelf.Ren := ⟨fun | 6 => 49 | 8 => 82 | 9 => 23 | 11 => 112 | 13 => 45 | 12 => 44 | 23 => 78 | 24 => 79 | 14 => 69 | 15 => 70 | 16 => 71 | 17 => 72 | 18 => 73 | 19 => 74 | 20 => 75 | 21 => 76 | 22 => 77 | 25 => 106 | 26 => 107 | 27 => 108 | 28 => 109 | 29 => 110 | 30 => 80 | 31 => 136 | n => n, fun | 26 => 9 | 28 => 90 | 24 => 30 | 0 => 0 | 3 => 3 | 37 => 79 | 48 => 95 | 50 => 121 | 4 => 4 | 40 => 113 | 39 => 112 | 45 => 117 | 5 => 5 | 9 => 9 | 51 => 141 | 55 => 145 | 57 => 175 | 58 => 176 | 33 => 48 | n => n, fun | n => n⟩
theorem sortedS : Go.Proofs.SlLaysZ.n6 Tryz.prog sortedS_ren := {
  mixed := by kernel_rfl
  f6 := ⟨Tryz.f49.name, by decide, Tryz.func49.trans (congrArg some (by kernel_rfl))⟩
  f8 := ⟨Tryz.f82.name, by decide, Tryz.func82.trans (congrArg some (by kernel_rfl))⟩
  f11 := ⟨Tryz.f112.name, by decide, Tryz.func112.trans (congrArg some (by kernel_rfl))⟩
  t0 := Tryz.underlying0
  a0 := Tryz.isAgg0
  z0 := Tryz.sizeOf0
  v0 := Tryz.zeroValue0
  t24 := Tryz.underlying30
  a24 := Tryz.isAgg30
  z24 := Tryz.sizeOf30
  v24 := Tryz.zeroValue30
  t26 := Tryz.underlying9
  a26 := Tryz.isAgg9
  z26 := Tryz.sizeOf9
  v26 := Tryz.zeroValue9
  t28 := Tryz.underlying90
  a28 := Tryz.isAgg90
  z28 := Tryz.sizeOf90
  v28 := Tryz.zeroValue90
  i26 := by kernel_rfl }

def sortS_ren : Go.Shelf.Ren := ⟨fun | 6 => 23 | 8 => 45 | 9 => 44 | 19 => 78 | 20 => 79 | 21 => 69 | 22 => 70 | 23 => 71 | 24 => 72 | 25 => 73 | 26 => 74 | 27 => 75 | 28 => 76 | 29 => 77 | 36 => 106 | 31 => 107 | 32 => 108 | 37 => 109 | 38 => 110 | 39 => 80 | 41 => 136 | n => n, fun | 27 => 30 | 29 => 9 | 3 => 3 | 32 => 79 | 26 => 30 | 0 => 0 | 44 => 95 | 46 => 121 | 4 => 4 | 36 => 113 | 35 => 112 | 41 => 117 | 5 => 5 | 9 => 9 | 53 => 141 | 57 => 145 | 63 => 175 | 64 => 176 | n => n, fun | n => n⟩
theorem sortS : Go.Proofs.SlLaysM.n6 Tryz.prog sortS_ren := {
  mixed := by kernel_rfl
  f6 := ⟨Tryz.f23.name, by decide, Tryz.func23.trans (congrArg some (by kernel_rfl))⟩
  f8 := Tryz.func45.trans (congrArg some (by kernel_rfl))
  f9 := ⟨Tryz.f44.name, by decide, Tryz.func44.trans (congrArg some (by kernel_rfl))⟩
  f19 := Tryz.func78.trans (congrArg some (by kernel_rfl))
  f20 := Tryz.func79.trans (congrArg some (by kernel_rfl))
  f21 := ⟨Tryz.f69.name, by decide, Tryz.func69.trans (congrArg some (by kernel_rfl))⟩
  f22 := ⟨Tryz.f70.name, by decide, Tryz.func70.trans (congrArg some (by kernel_rfl))⟩
  f23 := ⟨Tryz.f71.name, by decide, Tryz.func71.trans (congrArg some (by kernel_rfl))⟩
  f24 := ⟨Tryz.f72.name, by decide, Tryz.func72.trans (congrArg some (by kernel_rfl))⟩
  f25 := ⟨Tryz.f73.name, by decide, Tryz.func73.trans (congrArg some (by kernel_rfl))⟩
  f26 := ⟨Tryz.f74.name, by decide, Tryz.func74.trans (congrArg some (by kernel_rfl))⟩
  f27 := ⟨Tryz.f75.name, by decide, Tryz.func75.trans (congrArg some (by kernel_rfl))⟩
  f28 := ⟨Tryz.f76.name, by decide, Tryz.func76.trans (congrArg some (by kernel_rfl))⟩
  f29 := ⟨Tryz.f77.name, by decide, Tryz.func77.trans (congrArg some (by kernel_rfl))⟩
  f31 := Tryz.func107.trans (congrArg some (by kernel_rfl))
  f32 := Tryz.func108.trans (congrArg some (by kernel_rfl))
  f36 := ⟨Tryz.f106.name, by decide, Tryz.func106.trans (congrArg some (by kernel_rfl))⟩
  f37 := ⟨Tryz.f109.name, by decide, Tryz.func109.trans (congrArg some (by kernel_rfl))⟩
  f38 := ⟨Tryz.f110.name, by decide, Tryz.func110.trans (congrArg some (by kernel_rfl))⟩
  f39 := ⟨Tryz.f80.name, by decide, Tryz.func80.trans (congrArg some (by kernel_rfl))⟩
  f41 := ⟨Tryz.f136.name, by decide, Tryz.func136.trans (congrArg some (by kernel_rfl))⟩
  t0 := Tryz.underlying0
  a0 := Tryz.isAgg0
  z0 := Tryz.sizeOf0
  v0 := Tryz.zeroValue0
  t3 := Tryz.underlying3
  a3 := Tryz.isAgg3
  z3 := Tryz.sizeOf3
  v3 := Tryz.zeroValue3
  t4 := Tryz.underlying4
  a4 := Tryz.isAgg4
  z4 := Tryz.sizeOf4
  v4 := Tryz.zeroValue4
  t5 := Tryz.underlying5
  a5 := Tryz.isAgg5
  z5 := Tryz.sizeOf5
  v5 := Tryz.zeroValue5
  t9 := Tryz.underlying9
  a9 := Tryz.isAgg9
  z9 := Tryz.sizeOf9
  v9 := Tryz.zeroValue9
  t26 := Tryz.underlying30
  a26 := Tryz.isAgg30
  z26 := Tryz.sizeOf30
  v26 := Tryz.zeroValue30
  t27 := Tryz.underlying30
  a27 := Tryz.isAgg30
  z27 := Tryz.sizeOf30
  v27 := Tryz.zeroValue30
  t29 := Tryz.underlying9
  a29 := Tryz.isAgg9
  z29 := Tryz.sizeOf9
  v29 := Tryz.zeroValue9
  t32 := Tryz.underlying79
  a32 := Tryz.isAgg79
  z32 := Tryz.sizeOf79
  v32 := Tryz.zeroValue79
  t35 := Tryz.underlying112
  a35 := Tryz.isAgg112
  z35 := Tryz.sizeOf112
  v35 := Tryz.zeroValue112
  t36 := Tryz.underlying113
  a36 := Tryz.isAgg113
  z36 := Tryz.sizeOf113
  v36 := Tryz.zeroValue113
  t41 := Tryz.underlying117
  a41 := Tryz.isAgg117
  z41 := Tryz.sizeOf117
  v41 := Tryz.zeroValue117
  t44 := Tryz.underlying95
  a44 := Tryz.isAgg95
  z44 := Tryz.sizeOf95
  v44 := Tryz.zeroValue95
  t46 := Tryz.underlying121
  a46 := Tryz.isAgg121
  z46 := Tryz.sizeOf121
  v46 := Tryz.zeroValue121
  t53 := Tryz.underlying141
  a53 := Tryz.isAgg141
  z53 := Tryz.sizeOf141
  v53 := Tryz.zeroValue141
  t57 := Tryz.underlying145
  a57 := Tryz.isAgg145
  z57 := Tryz.sizeOf145
  v57 := Tryz.zeroValue145
  t63 := Tryz.underlying175
  a63 := Tryz.isAgg175
  z63 := Tryz.sizeOf175
  v63 := Tryz.zeroValue175
  t64 := Tryz.underlying176
  a64 := Tryz.isAgg176
  z64 := Tryz.sizeOf176
  v64 := Tryz.zeroValue176 }

def sortFN_ren : Go.Shelf.Ren := ⟨fun | 6 => 51 | 15 => 45 | 14 => 84 | 28 => 78 | 29 => 79 | 20 => 113 | 21 => 114 | 22 => 115 | 23 => 116 | 24 => 117 | 25 => 118 | 26 => 119 | 27 => 120 | 46 => 141 | 47 => 107 | 48 => 108 | 49 => 142 | 50 => 143 | 57 => 155 | n => n, fun | 22 => 81 | 24 => 87 | 25 => 93 | 3 => 3 | 39 => 79 | 0 => 0 | 53 => 95 | 55 => 121 | 4 => 4 | 46 => 113 | 45 => 112 | 50 => 117 | 5 => 5 | 9 => 9 | 66 => 141 | 70 => 145 | 76 => 175 | 77 => 176 | n => n, fun | n => n⟩
theorem sortFN : Go.Proofs.SlLaysF0.n6 Tryz.prog sortFN_ren := {
  mixed := by kernel_rfl
  f6 := ⟨Tryz.f51.name, by decide, Tryz.func51.trans (congrArg some (by kernel_rfl))⟩
  f14 := ⟨Tryz.f84.name, by decide, Tryz.func84.trans (congrArg some (by kernel_rfl))⟩
  f15 := Tryz.func45.trans (congrArg some (by kernel_rfl))
  f20 := ⟨Tryz.f113.name, by decide, Tryz.func113.trans (congrArg some (by kernel_rfl))⟩
  f21 := ⟨Tryz.f114.name, by decide, Tryz.func114.trans (congrArg some (by kernel_rfl))⟩
  f22 := ⟨Tryz.f115.name, by decide, Tryz.func115.trans (congrArg some (by kernel_rfl))⟩
  f23 := ⟨Tryz.f116.name, by decide, Tryz.func116.trans (congrArg some (by kernel_rfl))⟩
  f24 := ⟨Tryz.f117.name, by decide, Tryz.func117.trans (congrArg some (by kernel_rfl))⟩
  f25 := ⟨Tryz.f118.name, by decide, Tryz.func118.trans (congrArg some (by kernel_rfl))⟩
  f26 := ⟨Tryz.f119.name, by decide, Tryz.func119.trans (congrArg some (by kernel_rfl))⟩
  f27 := ⟨Tryz.f120.name, by decide, Tryz.func120.trans (congrArg some (by kernel_rfl))⟩
  f28 := Tryz.func78.trans (congrArg some (by kernel_rfl))
  f29 := Tryz.func79.trans (congrArg some (by kernel_rfl))
  f46 := ⟨Tryz.f141.name, by decide, Tryz.func141.trans (congrArg some (by kernel_rfl))⟩
  f47 := Tryz.func107.trans (congrArg some (by kernel_rfl))
  f48 := Tryz.func108.trans (congrArg some (by kernel_rfl))
  f49 := ⟨Tryz.f142.name, by decide, Tryz.func142.trans (congrArg some (by kernel_rfl))⟩
  f50 := ⟨Tryz.f143.name, by decide, Tryz.func143.trans (congrArg some (by kernel_rfl))⟩
  f57 := ⟨Tryz.f155.name, by decide, Tryz.func155.trans (congrArg some (by kernel_rfl))⟩
  t0 := Tryz.underlying0
  a0 := Tryz.isAgg0
  z0 := Tryz.sizeOf0
  v0 := Tryz.zeroValue0
  t3 := Tryz.underlying3
  a3 := Tryz.isAgg3
  z3 := Tryz.sizeOf3
  v3 := Tryz.zeroValue3
  t4 := Tryz.underlying4
  a4 := Tryz.isAgg4
  z4 := Tryz.sizeOf4
  v4 := Tryz.zeroValue4
  t5 := Tryz.underlying5
  a5 := Tryz.isAgg5
  z5 := Tryz.sizeOf5
  v5 := Tryz.zeroValue5
  t9 := Tryz.underlying9
  a9 := Tryz.isAgg9
  z9 := Tryz.sizeOf9
  v9 := Tryz.zeroValue9
  t22 := Tryz.underlying81
  a22 := Tryz.isAgg81
  z22 := Tryz.sizeOf81
  v22 := Tryz.zeroValue81
  t25 := Tryz.underlying93
  a25 := Tryz.isAgg93
  z25 := Tryz.sizeOf93
  v25 := Tryz.zeroValue93
  t39 := Tryz.underlying79
  a39 := Tryz.isAgg79
  z39 := Tryz.sizeOf79
  v39 := Tryz.zeroValue79
  t45 := Tryz.underlying112
  a45 := Tryz.isAgg112
  z45 := Tryz.sizeOf112
  v45 := Tryz.zeroValue112
  t46 := Tryz.underlying113
  a46 := Tryz.isAgg113
  z46 := Tryz.sizeOf113
  v46 := Tryz.zeroValue113
  t50 := Tryz.underlying117
  a50 := Tryz.isAgg117
  z50 := Tryz.sizeOf117
  v50 := Tryz.zeroValue117
  t53 := Tryz.underlying95
  a53 := Tryz.isAgg95
  z53 := Tryz.sizeOf95
  v53 := Tryz.zeroValue95
  t55 := Tryz.underlying121
  a55 := Tryz.isAgg121
  z55 := Tryz.sizeOf121
  v55 := Tryz.zeroValue121
  t66 := Tryz.underlying141
  a66 := Tryz.isAgg141
  z66 := Tryz.sizeOf141
  v66 := Tryz.zeroValue141
  t70 := Tryz.underlying145
  a70 := Tryz.isAgg145
  z70 := Tryz.sizeOf145
  v70 := Tryz.zeroValue145
  t76 := Tryz.underlying175
  a76 := Tryz.isAgg175
  z76 := Tryz.sizeOf175
  v76 := Tryz.zeroValue175
  t77 := Tryz.underlying176
  a77 := Tryz.isAgg176
  z77 := Tryz.sizeOf176
  v77 := Tryz.zeroValue176 }

def sortFF_ren : Go.Shelf.Ren := ⟨fun | 6 => 35 | 15 => 45 | 14 => 62 | 28 => 78 | 29 => 79 | 20 => 94 | 21 => 95 | 22 => 96 | 23 => 97 | 24 => 98 | 25 => 99 | 26 => 100 | 27 => 101 | 46 => 130 | 47 => 107 | 48 => 108 | 49 => 131 | 50 => 132 | 57 => 151 | n => n, fun | 22 => 22 | 24 => 25 | 25 => 54 | 3 => 3 | 39 => 79 | 0 => 0 | 53 => 95 | 55 => 121 | 4 => 4 | 46 => 113 | 45 => 112 | 50 => 117 | 5 => 5 | 9 => 9 | 66 => 141 | 70 => 145 | 76 => 175 | 77 => 176 | n => n, fun | n => n⟩
theorem sortFF : Go.Proofs.SlLaysF0.n6 Tryz.prog sortFF_ren := {
  mixed := by kernel_rfl
  f6 := ⟨Tryz.f35.name, by decide, Tryz.func35.trans (congrArg some (by kernel_rfl))⟩
  f14 := ⟨Tryz.f62.name, by decide, Tryz.func62.trans (congrArg some (by kernel_rfl))⟩
  f15 := Tryz.func45.trans (congrArg some (by kernel_rfl))
  f20 := ⟨Tryz.f94.name, by decide, Tryz.func94.trans (congrArg some (by kernel_rfl))⟩
  f21 := ⟨Tryz.f95.name, by decide, Tryz.func95.trans (congrArg some (by kernel_rfl))⟩
  f22 := ⟨Tryz.f96.name, by decide, Tryz.func96.trans (congrArg some (by kernel_rfl))⟩
  f23 := ⟨Tryz.f97.name, by decide, Tryz.func97.trans (congrArg some (by kernel_rfl))⟩
  f24 := ⟨Tryz.f98.name, by decide, Tryz.func98.trans (congrArg some (by kernel_rfl))⟩
  f25 := ⟨Tryz.f99.name, by decide, Tryz.func99.trans (congrArg some (by kernel_rfl))⟩
  f26 := ⟨Tryz.f100.name, by decide, Tryz.func100.trans (congrArg some (by kernel_rfl))⟩
  f27 := ⟨Tryz.f101.name, by decide, Tryz.func101.trans (congrArg some (by kernel_rfl))⟩
  f28 := Tryz.func78.trans (congrArg some (by kernel_rfl))
  f29 := Tryz.func79.trans (congrArg some (by kernel_rfl))
  f46 := ⟨Tryz.f130.name, by decide, Tryz.func130.trans (congrArg some (by kernel_rfl))⟩
  f47 := Tryz.func107.trans (congrArg some (by kernel_rfl))
  f48 := Tryz.func108.trans (congrArg some (by kernel_rfl))
  f49 := ⟨Tryz.f131.name, by decide, Tryz.func131.trans (congrArg some (by kernel_rfl))⟩
  f50 := ⟨Tryz.f132.name, by decide, Tryz.func132.trans (congrArg some (by kernel_rfl))⟩
  f57 := ⟨Tryz.f151.name, by decide, Tryz.func151.trans (congrArg some (by kernel_rfl))⟩
  t0 := Tryz.underlying0
  a0 := Tryz.isAgg0
  z0 := Tryz.sizeOf0
  v0 := Tryz.zeroValue0
  t3 := Tryz.underlying3
  a3 := Tryz.isAgg3
  z3 := Tryz.sizeOf3
  v3 := Tryz.zeroValue3
  t4 := Tryz.underlying4
  a4 := Tryz.isAgg4
  z4 := Tryz.sizeOf4
  v4 := Tryz.zeroValue4
  t5 := Tryz.underlying5
  a5 := Tryz.isAgg5
  z5 := Tryz.sizeOf5
  v5 := Tryz.zeroValue5
  t9 := Tryz.underlying9
  a9 := Tryz.isAgg9
  z9 := Tryz.sizeOf9
  v9 := Tryz.zeroValue9
  t22 := Tryz.underlying22
  a22 := Tryz.isAgg22
  z22 := Tryz.sizeOf22
  v22 := Tryz.zeroValue22
  t25 := Tryz.underlying54
  a25 := Tryz.isAgg54
  z25 := Tryz.sizeOf54
  v25 := Tryz.zeroValue54
  t39 := Tryz.underlying79
  a39 := Tryz.isAgg79
  z39 := Tryz.sizeOf79
  v39 := Tryz.zeroValue79
  t45 := Tryz.underlying112
  a45 := Tryz.isAgg112
  z45 := Tryz.sizeOf112
  v45 := Tryz.zeroValue112
  t46 := Tryz.underlying113
  a46 := Tryz.isAgg113
  z46 := Tryz.sizeOf113
  v46 := Tryz.zeroValue113
  t50 := Tryz.underlying117
  a50 := Tryz.isAgg117
  z50 := Tryz.sizeOf117
  v50 := Tryz.zeroValue117
  t53 := Tryz.underlying95
  a53 := Tryz.isAgg95
  z53 := Tryz.sizeOf95
  v53 := Tryz.zeroValue95
  t55 := Tryz.underlying121
  a55 := Tryz.isAgg121
  z55 := Tryz.sizeOf121
  v55 := Tryz.zeroValue121
  t66 := Tryz.underlying141
  a66 := Tryz.isAgg141
  z66 := Tryz.sizeOf141
  v66 := Tryz.zeroValue141
  t70 := Tryz.underlying145
  a70 := Tryz.isAgg145
  z70 := Tryz.sizeOf145
  v70 := Tryz.zeroValue145
  t76 := Tryz.underlying175
  a76 := Tryz.isAgg175
  z76 := Tryz.sizeOf175
  v76 := Tryz.zeroValue175
  t77 := Tryz.underlying176
  a77 := Tryz.isAgg176
  z77 := Tryz.sizeOf176
  v77 := Tryz.zeroValue176 }

theorem sortS_any (blk off cap : Nat) (ss : List (List UInt8)) (w : World) (hH : Go.Sort.Holds encStr w blk off ss.toArray) (hblk : blk < w.heap.size) (hsz : ss.length < 4611686018427387904) :
    Calls Tryz.prog 23 #[.slice (some ⟨blk, off, none⟩) ss.length cap] w fun e w' => e = .returned (.tuple #[]) ∧ ∃ n os, w' = Go.Sort.grow (Go.Sort.putRow encStr (Go.Sort.ahead w n) blk off (ss.mergeSort fun x y => decide (x ≤ y)).toArray) os :=
  AnyM.slices_Sort_string sortS blk off cap ss w hH hblk hsz

theorem sortS_none (p : Option Addr) (cap : Nat) (w : World) : Calls Tryz.prog 23 #[.slice p 0 cap] w fun e w' => e = .returned (.tuple #[]) ∧ w' = w :=
  AnyM.slices_Sort_string_none sortS p cap w

theorem sortsS (m : Nat) : AnyZ.SortsIn Tryz.prog sortedS_ren Fence.wide m :=
  ⟨fun blk off cap ss W hH hblk hsz => callsIn_wide.2 (AnyM.slices_Sort_string sortS blk off cap ss W hH hblk hsz),
   fun p cap W => callsIn_wide.2 (AnyM.slices_Sort_string_none sortS p cap W)⟩

theorem keysS_any (mb : Option Nat) (w : World) : Calls Tryz.prog 50 #[.map mb] w fun e w' => e = .returned (.func (.func 83) #[] #[.pointer (some ⟨w.heap.size, 0, none⟩)]) ∧ w' = w.alloc (.cells #[.map mb] 82) :=
  (callsIn_wide (n := 5)).1 (AnyZ.keys_in keysS Fence.wide 5 trivial rfl mb w)

set_option maxHeartbeats 1000000 in
theorem sortedS_any {H : Type} (b nn : Nat) (D0 : DataW H) (R : Value → Option (DataW H × List MemPlace)) (w : World) (hown : w.ownsMap Tryz.prog 9 R b nn D0) (hmax : Maps.size D0 ≤ maxLen) (hbytes : Maps.size D0 * 16 ≤ 140737488355328) :
    Calls Tryz.prog 49 #[.func (.func 83) #[] #[.pointer (some ⟨w.heap.size, 0, none⟩)]] (w.alloc (.cells #[.map (some b)] 82)) fun e w' => ∃ (v : Value) (ss : List (List UInt8)), e = .returned v ∧ ss.Perm (strKeys D0) ∧
      w'.ownsRow (w.alloc (.cells #[.map (some b)] 82)).heap.size 9 1 v ss.length ((ss.mergeSort (fun x y => decide (x ≤ y))).map encStr) ∧ (v = .slice none 0 0 ↔ ss = []) ∧ Below (w.alloc (.cells #[.map (some b)] 82)).heap.size (w.alloc (.cells #[.map (some b)] 82)) w' := by
  have hbl := hown.lt
  have hseq : SeqGives Fence.wide 2 Tryz.prog 83 #[.pointer (some ⟨w.heap.size, 0, none⟩)] encStr (fun ss => ss.Perm (strKeys D0)) (Maps.size D0) (w.alloc (.cells #[.map (some b)] 82)) :=
    AnyZ.keys_gives (ρ := keysS_ren) { keysS with } Fence.wide _ trivial rfl (by omega) w.heap.size b nn D0 _ (by simp) (by simp) (by
      obtain ⟨es, clock, hb, Ft, hs, hD⟩ := hown
      exact ⟨es, clock, (Below.heap_alloc _ _ b hbl).trans hb, Ft, hs, hD⟩)
  exact (callsIn_wide (n := 5)).1 (AnyZ.sorted_in sortedS Fence.wide 5 trivial trivial trivial trivial rfl (by omega) (sortsS _) (enters_of Tryz.func23 (by kernel_rfl) rfl) 83 #[.pointer (some ⟨w.heap.size, 0, none⟩)] trivial (enters_of Tryz.func83 (by kernel_rfl) rfl) _ _ hmax hbytes _ hseq)

theorem sortFN_any {α : Type} [Inhabited α] (enc : α → List Value) (hk : ∀ x, (enc x).length = 3) (h1 : ∀ x, ∀ v ∈ enc x, v.oneCell' = true) (cf : α → α → Int) (hO : SWO (ltOf cf)) (g : Nat) (cb : Array Value) (blk off cap : Nat) (d : Array α) (w : World) (eg : ∀ args w, (callFunc g args).run Tryz.prog w = .ok (.enter g args) w) (hcmp : CmpLays Tryz.prog g cb enc 3 cf blk off d.size w) (hH : HoldsK enc 3 w blk off d) (hblk : blk < w.heap.size) (hsz : d.size < 4611686018427387904) :
    Calls Tryz.prog 51 #[.slice (some ⟨blk, off, none⟩) d.size cap, .func (.func g) #[] cb] w fun e w' => e = .returned (.tuple #[]) ∧ ∃ d' n os, PermIn 0 d.size d d' ∧ SortedIn (ltOf cf) 0 d.size d' ∧ w' = sortWorldK enc 3 w blk off n d' os :=
  AnyQ.slices_SortFunc sortFN 3 Tryz.isAgg87 Tryz.sizeOf87 enc hk h1 cf hO g cb blk off cap d w eg hcmp hH hblk hsz

theorem sortFN_none (p : Option Addr) (cap : Nat) (fv : Value) (w : World) : Calls Tryz.prog 51 #[.slice p 0 cap, fv] w fun e w' => e = .returned (.tuple #[]) ∧ w' = w :=
  AnyF.slices_SortFunc_none { sortFN with } p cap fv w

theorem sortFF_any {α : Type} [Inhabited α] (enc : α → List Value) (hk : ∀ x, (enc x).length = 3) (h1 : ∀ x, ∀ v ∈ enc x, v.oneCell' = true) (cf : α → α → Int) (hO : SWO (ltOf cf)) (g : Nat) (cb : Array Value) (blk off cap : Nat) (d : Array α) (w : World) (eg : ∀ args w, (callFunc g args).run Tryz.prog w = .ok (.enter g args) w) (hcmp : CmpLays Tryz.prog g cb enc 3 cf blk off d.size w) (hH : HoldsK enc 3 w blk off d) (hblk : blk < w.heap.size) (hsz : d.size < 4611686018427387904) :
    Calls Tryz.prog 35 #[.slice (some ⟨blk, off, none⟩) d.size cap, .func (.func g) #[] cb] w fun e w' => e = .returned (.tuple #[]) ∧ ∃ d' n os, PermIn 0 d.size d d' ∧ SortedIn (ltOf cf) 0 d.size d' ∧ w' = sortWorldK enc 3 w blk off n d' os :=
  AnyQ.slices_SortFunc sortFF 3 Tryz.isAgg25 Tryz.sizeOf25 enc hk h1 cf hO g cb blk off cap d w eg hcmp hH hblk hsz

theorem sortFF_none (p : Option Addr) (cap : Nat) (fv : Value) (w : World) : Calls Tryz.prog 35 #[.slice p 0 cap, fv] w fun e w' => e = .returned (.tuple #[]) ∧ w' = w :=
  AnyF.slices_SortFunc_none { sortFF with } p cap fv w
end Go.Proofs.YtkmlooepakinfaaGreatDoor

/- Rows of structs, sorted. -/
namespace Go.Proofs.YtkmlooepakinfaaGreatDoor
open Go.RowKit Go.Shelf Go.Maps Go.WideMaps Go.Sort Go.Lib

theorem flat_get {α : Type} (enc : α → List Value) (a b c : α → Value) (he : ∀ x, enc x = [a x, b x, c x]) : ∀ (l : List α) (j : Nat) (hj : j < l.length), (l.flatMap enc)[j * 3]? = some (a l[j]) ∧ (l.flatMap enc)[j * 3 + 1]? = some (b l[j]) ∧ (l.flatMap enc)[j * 3 + 2]? = some (c l[j])
  | [], j, hj => by simp at hj
  | x :: l, j, hj => by
    have e : (x :: l).flatMap enc = [a x, b x, c x] ++ l.flatMap enc := by rw [List.flatMap_cons, he]
    cases j with
    | zero => rw [e]; exact ⟨rfl, rfl, rfl⟩
    | succ j =>
      have h := flat_get enc a b c he l j (by simpa using hj)
      rw [e, show (j + 1) * 3 = j * 3 + 3 by omega]
      exact ⟨by simpa using h.1, by simpa using h.2.1, by simpa using h.2.2⟩
theorem flat_len {α : Type} (enc : α → List Value) (hk : ∀ x, (enc x).length = 3) : ∀ l : List α, (l.flatMap enc).length = l.length * 3
  | [] => rfl
  | x :: l => by rw [List.flatMap_cons, List.length_append, flat_len enc hk l, hk, List.length_cons]; omega
section
variable {α : Type} [Inhabited α]
theorem flat3 (enc : α → List Value) (a b c : α → Value) (he : ∀ x, enc x = [a x, b x, c x]) (l : List α) : (flatK enc 3 l.toArray).toList = l.flatMap enc := by
  have hk : ∀ x, (enc x).length = 3 := fun x => by rw [he]; rfl
  apply List.ext_getElem?
  intro t
  by_cases ht : t < l.length * 3
  · have h1 : (flatK enc 3 l.toArray).toList[t]? = some ((enc l.toArray[t / 3]!)[t % 3]!) := by
      rw [Array.getElem?_toList]
      have hs : t < (flatK enc 3 l.toArray).size := by rw [size_flatK]; simpa using ht
      rw [Array.getElem?_eq_getElem hs]
      congr 1
      have := get_flatK enc 3 l.toArray t (by simpa using ht)
      rwa [getElem!_pos _ t hs] at this
    rw [h1]
    have hj : t / 3 < l.length := by omega
    have hg : l.toArray[t / 3]! = l[t / 3] := by
      rw [getElem!_pos _ _ (by simpa using hj)]
      simp
    rw [hg, he]
    have k := flat_get enc a b c he l (t / 3) hj
    have e0 : t = t / 3 * 3 + t % 3 := by omega
    have h3 : t % 3 < 3 := Nat.mod_lt _ (by decide)
    generalize hr : t % 3 = r at e0 h3
    rw [hr] at *
    match r, h3 with
    | 0, _ => conv => rhs; rw [e0]
              exact k.1.symm
    | 1, _ => conv => rhs; rw [e0]
              exact k.2.1.symm
    | 2, _ => conv => rhs; rw [e0]
              exact k.2.2.symm
  · rw [List.getElem?_eq_none (by rw [Array.length_toList, size_flatK]; simp; omega), List.getElem?_eq_none (by rw [flat_len enc hk]; omega)]

theorem holdsK_row {w : World} {base g cap n : Nat} {e : TypeId} (enc : α → List Value) (a b c : α → Value) (he : ∀ x, enc x = [a x, b x, c x]) (l : List α) (hn : n = l.length) (h : w.ownsRow base e 3 (.slice (some ⟨g, 0, none⟩) n cap) n (l.flatMap enc)) : HoldsK enc 3 w g 0 l.toArray := by
  rcases h.2 with ⟨h1, _⟩ | ⟨g2, cap2, cur, hv, _, hb, _, _, _, h4⟩
  · cases h1
  · injection hv with hv _ _
    injection hv with hv
    injection hv with hv
    subst hv
    intro j hj
    have hj' : j < l.length * 3 := by rw [size_flatK] at hj; simpa using hj
    refine ⟨?_, by simp [World.frozen?, hb]⟩
    have hf := flat3 enc a b c he l
    have h5 : (cur.toList.take (n * 3))[j]? = (flatK enc 3 l.toArray).toList[j]? := by rw [h4, hf]
    rw [List.getElem?_take_of_lt (by omega)] at h5
    simp only [World.cell?, hb, Nat.zero_add]
    simp only [Option.isSome_none, Bool.false_eq_true, if_false]
    rw [← Array.getElem?_toList, h5, Array.getElem?_toList, Array.getElem?_eq_getElem hj, getElem!_pos (flatK enc 3 l.toArray) j hj]
    rfl
theorem rowK_put {w : World} {base g cap n m : Nat} {e : TypeId} {os : Array Obj} (enc : α → List Value) (a b c : α → Value) (he : ∀ x, enc x = [a x, b x, c x]) (l l2 : List α) (hn : n = l.length) (hl : l2.length = l.length) (h : w.ownsRow base e 3 (.slice (some ⟨g, 0, none⟩) n cap) n (l.flatMap enc)) :
    (sortWorldK enc 3 w g 0 m l2.toArray os).ownsRow base e 3 (.slice (some ⟨g, 0, none⟩) n cap) n (l2.flatMap enc) ∧ w.grownBy (sortWorldK enc 3 w g 0 m l2.toArray os) (some g) := by
  have hk : ∀ x, (enc x).length = 3 := fun x => by rw [he]; rfl
  constructor
  · rcases h.2 with ⟨h1, _⟩ | ⟨g2, cap2, cur, hv, hbase, hb, hc1, hc2, hc3, h4⟩
    · cases h1
    · injection hv with hv _ hv3
      injection hv with hv
      injection hv with hv
      subst hv hv3
      have hg : g < w.heap.size := (Array.getElem?_eq_some_iff.1 hb).1
      have hfs : (flatK enc 3 l2.toArray).size = n * 3 := by rw [size_flatK]; simp; omega
      refine ⟨by rw [flat_len enc hk, hl, hn], .inr ⟨g, cap, putCells id 0 (flatK enc 3 l2.toArray) cur, rfl, hbase, ?_, hc1, hc2, by simp [putCells, hc3], ?_⟩⟩
      · unfold sortWorldK putRowK
        rw [heap_grow_old _ _ (by simpa using hg)]
        simp [putRow, mapBlock, Sort.ahead, Array.getElem?_modify, hb, onCells]
      · rw [← flat3 enc a b c he l2]
        apply List.ext_getElem?
        intro j
        by_cases hj : j < n * 3
        · have hj2 : j < (flatK enc 3 l2.toArray).size := by omega
          have hcur : j < cur.size := by rw [hc3]; have := Nat.mul_le_mul_right 3 hc1; omega
          rw [List.getElem?_take_of_lt hj, Array.getElem?_toList, Array.getElem?_toList]
          have hj3 : j < l2.length * 3 := by rw [size_flatK] at hj2; simpa using hj2
          rw [Array.getElem?_eq_getElem hj2, ← getElem!_pos (flatK enc 3 l2.toArray) j hj2]
          simp [putCells, hj3, hcur]
        · rw [List.getElem?_take_eq_none (by omega), List.getElem?_eq_none (by rw [Array.length_toList]; omega)]
  · unfold sortWorldK putRowK
    refine ⟨rfl, rfl, rfl, by simp, fun k hk hne => ?_⟩
    rw [heap_grow_old _ _ (by simpa using hk)]
    have : g ≠ k := fun e => hne (by rw [e])
    simp [putRow, mapBlock, Sort.ahead, Array.getElem?_modify, this]
end

def encN (x : Nd) : List Value := [.string x.1, .int .i64 x.2.1, .string x.2.2]
theorem encN_one (x : Nd) : ∀ v ∈ encN x, v.oneCell' = true := by
  intro v hv
  simp [encN] at hv
  rcases hv with rfl | rfl | rfl <;> rfl
theorem ltN (x y : Nd) : ltOf (fun x y : Nd => cmpB x.1 y.1) x y = decide (kyN x < kyN y) := cmpB_neg x.1 y.1
theorem swoN : SWO (ltOf fun x y : Nd => cmpB x.1 y.1) where
  irrefl x := by rw [ltN]; simp [List.lt_irrefl]
  trans x y z h1 h2 := by
    rw [ltN, decide_eq_true_eq] at *
    exact List.lt_trans h1 h2
  ntrans x y z h1 h2 := by
    rw [ltN, decide_eq_false_iff_not] at *
    exact fun h3 => h2 (by
      rcases Decidable.em (kyN y < kyN z) with h | h
      · exact h
      · exfalso
        exact h1 (by
          rcases Decidable.em (kyN x < kyN y) with h4 | h4
          · exact h4
          · exact absurd h3 (List.not_lt.2 (List.le_trans (List.not_lt.1 h) (List.not_lt.1 h4)))))

theorem sortNodes {B : Nat} {ns : List Nd} {v : Value} {w : World} (h : w.ownsRow B 87 3 v ns.length (ndCells ns)) (hn : (ns.map kyN).Nodup) (hl : ns.length ≤ 1000000) :
    Calls Tryz.prog 51 #[v, .func (.func 52) #[] #[]] w fun e w' => e = .returned (.tuple #[]) ∧ w'.ownsRow B 87 3 v ns.length (ndCells (sortN ns)) ∧ w.grownBy w' v.ownBlock := by
  have hh := h
  rcases h.2 with ⟨rfl, h0⟩ | ⟨g, cap, cur, rfl, hbase, hb, _⟩
  · have e : ns = [] := List.length_eq_zero_iff.1 h0
    subst e
    refine (sortFN_none none 0 _ w).mono ?_
    rintro e w' ⟨rfl, rfl⟩
    exact ⟨rfl, by simpa [sortN] using hh, ⟨rfl, rfl, rfl, Nat.le_refl _, fun _ _ _ => rfl⟩⟩
  · have hH : HoldsK encN 3 w g 0 ns.toArray := holdsK_row encN (fun x => .string x.1) (fun x => .int .i64 x.2.1) (fun x => .string x.2.2) (fun _ => rfl) ns rfl hh
    have hc : CmpLays Tryz.prog 52 #[] encN 3 (fun x y : Nd => cmpB x.1 y.1) g 0 ns.toArray.size w := fun m os dk _ x y => by
      refine (compareNames_any x y _).mono ?_
      rintro e w' ⟨rfl, rfl⟩
      exact ⟨rfl, 0, _, by rw [alloc_eq_grow, alloc_eq_grow, grow_grow]; rfl⟩
    have := sortFN_any encN (fun _ => rfl) encN_one (fun x y : Nd => cmpB x.1 y.1) swoN 52 #[] g 0 cap ns.toArray w (enters_of Tryz.func52 (by kernel_rfl) rfl) hc hH (Array.getElem?_eq_some_iff.1 hb).1 (by simp; omega)
    rw [show ns.toArray.size = ns.length from by simp] at this
    refine this.mono ?_
    rintro e w' ⟨rfl, d', m, os, hp, hs, rfl⟩
    have hp2 : d'.toList.Perm ns := by
      have := hp.2.2
      have e1 : d'.size = ns.length := by rw [hp.1]; simp
      have e2 : List.take ns.length d'.toList = d'.toList := List.take_of_length_le (by rw [Array.length_toList]; omega)
      simpa [hp.1, e2] using this
    have hs2 : d'.toList.Pairwise fun a b => leN a b = true := by
      rw [List.pairwise_iff_getElem]
      intro i j hi hj hij
      have hi' : i < d'.size := by simpa using hi
      have hj' : j < d'.size := by simpa using hj
      have h1 := hs i j (Nat.zero_le _) hij (by have := hp.1; simp at this; omega)
      rw [ltN, decide_eq_false_iff_not, getElem!_pos d' i hi', getElem!_pos d' j hj'] at h1
      unfold leN
      rw [decide_eq_true_eq]
      simpa using List.not_lt.1 h1
    have e := sortN_uniq hn hp2 hs2
    have := rowK_put (m := m) (os := os) encN (fun x => .string x.1) (fun x => .int .i64 x.2.1) (fun x => .string x.2.2) (fun _ => rfl) ns (sortN ns) rfl (sortN_perm ns).length_eq hh
    rw [← e, Array.toArray_toList] at this
    exact ⟨rfl, e ▸ this.1, this.2⟩
end Go.Proofs.YtkmlooepakinfaaGreatDoor

/- A directory while it is packed: what each step comes to. -/
namespace Go.Proofs.YtkmlooepakinfaaGreatDoor
open Go.RowKit Go.Shelf Go.Maps Go.WideMaps Go.Sort

theorem infF : (Tryz.prog.info? 25).map (fun i => (i.zero, i.size, i.bytes)) = some (some (.agg #[.string ⟨#[]⟩, .string ⟨#[]⟩, .bool false]), 3, 40) := by kernel_rfl
theorem infNd : (Tryz.prog.info? 87).map (fun i => (i.zero, i.size, i.bytes)) = some (some (.agg #[.string ⟨#[]⟩, .int .i64 0, .string ⟨#[]⟩]), 3, 40) := by kernel_rfl
theorem infTx : (Tryz.prog.info? 9).map (fun i => (i.zero, i.size, i.bytes)) = some (some (.string ⟨#[]⟩), 1, 16) := by kernel_rfl
theorem add0 (g j : Nat) : (⟨g, 0, none⟩ : Addr).add j = ⟨g, j, none⟩ := by
  unfold Addr.add
  split <;> simp_all
theorem new_cells (W : World) (cs : Array Value) (ty : TypeId) : ∀ (k : Nat) (u : Value), cs.toList[k]? = some u → (W.alloc (.cells cs ty)).cell? ((⟨W.heap.size, 0, none⟩ : Addr).add k) = some u := by
  intro k u hk
  rw [add0, Lib.cell_of_heap (heap_alloc_new W _)]
  simpa using hk

/-- Appending, shut: the walk is not to look into it. -/
def appS (ats : Array TypeId) (ty : TypeId) (args : Array Value) : Sem Value := Builtin.append_ ats ty args
theorem appS_eq (ats : Array TypeId) (ty : TypeId) (args : Array Value) : Builtin.append_ ats ty args = appS ats ty args := rfl

section
variable {B M : Nat} {D : DataW Unit} {g c : List UInt8 → Nat} {L : List Fl} {ns : List Nd} {bs : List ByteArray} {nv bv : Value} {w W : World}

theorem DS.lo (h : DS B M D g c L ns bs nv bv w) : B ≤ w.heap.size := Nat.le_trans h.loM (Nat.le_of_lt h.own.lt)

/-- One node more. -/
theorem DS.node (h : DS B M D g c L ns bs nv bv W) (x : Nd) (hn : ns.length ≤ 1000) :
    ∃ G C w', (appS #[81, 81] 81 #[nv, .slice (some ⟨W.heap.size, 0, none⟩) 1 1]).run Tryz.prog (W.alloc (.cells #[.string x.1, .int .i64 x.2.1, .string x.2.2] 87)) = .ok (.slice (some ⟨G, 0, none⟩) (ns.length + 1) C) w' ∧
      DS B M D g c L (ns ++ [x]) bs (.slice (some ⟨G, 0, none⟩) (ns.length + 1) C) bv w' ∧ Below B W w' ∧ ∀ b, b < W.heap.size → nv.ownBlock ≠ some b → w'.heap[b]? = W.heap[b]? ∧ G ≠ b := by
  obtain ⟨i0, hi, hz0, hz1, hz2⟩ := info_p infNd
  have hsz : (W.alloc (.cells #[.string x.1, .int .i64 x.2.1, .string x.2.2] 87)).heap.size = W.heap.size + 1 := World.size_alloc _ _
  have hlo := h.lo
  have hA := h.keep (w' := W.alloc (.cells #[.string x.1, .int .i64 x.2.1, .string x.2.2] 87)) fun b hb => Below.heap_alloc _ _ _ hb
  obtain ⟨G, C, w', hrun, hrow, hgr, hat, hlt⟩ := run_append_lies (P := Tryz.prog) (W.alloc (.cells #[.string x.1, .int .i64 x.2.1, .string x.2.2] 87)) 81 81 B 87 i0 (.agg #[.string ⟨#[]⟩, .int .i64 0, .string ⟨#[]⟩]) 3 40 Tryz.underlying81 hi hz0 hz1 hz2 rfl (by decide) nv ns.length (ndCells ns) hA.nodes ⟨W.heap.size, 0, none⟩ 1 1 [.string x.1, .int .i64 x.2.1, .string x.2.2] rfl (new_cells W _ _) (fun u hu => by simp at hu; rcases hu with rfl | rfl | rfl <;> rfl) (by decide) (by unfold maxLen; omega) (by omega) (by omega) (W.heap.size + 1) hsz
  refine ⟨G, C, w', hrun, hA.addN x hrow hgr (hat.imp id fun e => by omega), ?_, fun b hb hne => ?_⟩
  · exact ((Below.refl B W).alloc hlo _).grown hgr (by omega) fun k hk => (hA.nodes.lt k hk).1
  · exact ⟨(hgr.block b (by omega) (fun e => hne e.symm)).trans (Below.heap_alloc _ _ _ hb), fun e => by
      rcases hat with h1 | h1
      · exact hne (by rw [h1, e])
      · omega⟩

/-- One text more. -/
theorem DS.text (h : DS B M D g c L ns bs nv bv W) (t : ByteArray) (hn : bs.length ≤ 100000000) :
    ∃ G C w', (appS #[30, 30] 30 #[bv, .slice (some ⟨W.heap.size, 0, none⟩) 1 1]).run Tryz.prog (W.alloc (.cells #[.string t] 9)) = .ok (.slice (some ⟨G, 0, none⟩) (bs.length + 1) C) w' ∧
      DS B M D g c L ns (bs ++ [t]) nv (.slice (some ⟨G, 0, none⟩) (bs.length + 1) C) w' ∧ Below B W w' ∧ ∀ b, b < W.heap.size → bv.ownBlock ≠ some b → w'.heap[b]? = W.heap[b]? ∧ G ≠ b := by
  obtain ⟨i0, hi, hz0, hz1, hz2⟩ := info_p infTx
  have hsz : (W.alloc (.cells #[.string t] 9)).heap.size = W.heap.size + 1 := World.size_alloc _ _
  have hlo := h.lo
  have hA := h.keep (w' := W.alloc (.cells #[.string t] 9)) fun b hb => Below.heap_alloc _ _ _ hb
  obtain ⟨G, C, w', hrun, hrow, hgr, hat, hlt⟩ := run_append_lies (P := Tryz.prog) (W.alloc (.cells #[.string t] 9)) 30 30 B 9 i0 (.string ⟨#[]⟩) 1 16 Tryz.underlying30 hi hz0 hz1 hz2 rfl (by decide) bv bs.length (bs.map Value.string) hA.blobs ⟨W.heap.size, 0, none⟩ 1 1 [.string t] rfl (new_cells W _ _) (fun u hu => by rw [List.mem_singleton.1 hu]; rfl) (by decide) (by unfold maxLen; omega) (by omega) (by omega) (W.heap.size + 1) hsz
  refine ⟨G, C, w', hrun, hA.addB [t] hrow hgr (hat.imp id fun e => by omega), ?_, fun b hb hne => ?_⟩
  · exact ((Below.refl B W).alloc hlo _).grown hgr (by omega) fun k hk => (hA.blobs.lt k hk).1
  · exact ⟨(hgr.block b (by omega) (fun e => hne e.symm)).trans (Below.heap_alloc _ _ _ hb), fun e => by
      rcases hat with h1 | h1
      · exact hne (by rw [h1, e])
      · omega⟩

/-- Texts more, out of a row. -/
theorem DS.texts (h : DS B M D g c L ns bs nv bv W) {B2 gm cm : Nat} (ts : List ByteArray) (hm : W.ownsRow B2 9 1 (.slice (some ⟨gm, 0, none⟩) ts.length cm) ts.length (ts.map Value.string)) (h0 : 0 < ts.length) (hn : bs.length + ts.length ≤ 100000000) :
    ∃ G C w', (appS #[30, 30] 30 #[bv, .slice (some ⟨gm, 0, none⟩) ts.length cm]).run Tryz.prog W = .ok (.slice (some ⟨G, 0, none⟩) (bs.length + ts.length) C) w' ∧
      DS B M D g c L ns (bs ++ ts) nv (.slice (some ⟨G, 0, none⟩) (bs.length + ts.length) C) w' ∧ Below B W w' ∧ ∀ b, b < W.heap.size → bv.ownBlock ≠ some b → w'.heap[b]? = W.heap[b]? ∧ G ≠ b := by
  obtain ⟨i0, hi, hz0, hz1, hz2⟩ := info_p infTx
  have hlo := h.lo
  have hc := hm.cells (show (Value.slice (some ⟨gm, 0, none⟩) ts.length cm).ownBlock = some gm from rfl)
  obtain ⟨G, C, w', hrun, hrow, hgr, hat, hlt⟩ := run_append_lies (P := Tryz.prog) W 30 30 B 9 i0 (.string ⟨#[]⟩) 1 16 Tryz.underlying30 hi hz0 hz1 hz2 rfl (by decide) bv bs.length (bs.map Value.string) h.blobs ⟨gm, 0, none⟩ ts.length cm (ts.map Value.string) (by simp) (fun j u hu => hc j u hu) (fun u hu => by obtain ⟨s, _, rfl⟩ := List.mem_map.1 hu; rfl) h0 (by unfold maxLen; omega) (by omega) (by omega) W.heap.size rfl
  refine ⟨G, C, w', hrun, h.addB ts hrow hgr (hat.imp id fun e => by omega), ?_, fun b hb hne => ?_⟩
  · exact (Below.refl B W).grown hgr hlo fun k hk => (h.blobs.lt k hk).1
  · exact ⟨hgr.block b hb (fun e => hne e.symm), fun e => by
      rcases hat with h1 | h1
      · exact hne (by rw [h1, e])
      · omega⟩

/-- A file in a directory. -/
theorem DS.deep (h : DS B M D g c L ns bs nv bv W) {f : Fl} (hf : deepF f = true) (hs : (hdF f).length ≤ 100) (hL : L.length ≤ 1000) :
    ∃ ao ca G C w3 w4, (Instr.lookup 82 (.map (some M)) (.string ⟨(hdF f).toArray⟩) false).run Tryz.prog W = .ok (.slice ao (sub (hdF f) L).length ca) W ∧
      (appS #[22, 22] 22 #[.slice ao (sub (hdF f) L).length ca, .slice (some ⟨W.heap.size, 0, none⟩) 1 1]).run Tryz.prog (W.alloc (.cells #[.string (subF f).pa, .string (subF f).tx, .bool (subF f).rn] 25)) = .ok (.slice (some ⟨G, 0, none⟩) ((sub (hdF f) L).length + 1) C) w3 ∧
      (Instr.mapUpdate 82 (.map (some M)) (.string ⟨(hdF f).toArray⟩) (.slice (some ⟨G, 0, none⟩) ((sub (hdF f) L).length + 1) C)).run Tryz.prog w3 = .ok () w4 ∧
      (∃ D' g' c', DS B M D' g' c' (L ++ [f]) ns bs nv bv w4) ∧ Below B W w4 := by
  obtain ⟨i0, hi, hz0, hz1, hz2⟩ := info_p infF
  have hsl := sub_len (hdF f) L
  have hss : (⟨(hdF f).toArray⟩ : ByteArray).size ≤ maxLen := by show (hdF f).toArray.size ≤ _; simp; unfold maxLen; omega
  have hdl : (⟨(hdF f).toArray⟩ : ByteArray).data.toList = hdF f := by simp
  obtain ⟨ao, ca, hlk, hrow0, hcase⟩ := h.look ⟨(hdF f).toArray⟩ hss
  rw [hdl] at hlk hrow0 hcase
  have hsz : (W.alloc (.cells #[.string (subF f).pa, .string (subF f).tx, .bool (subF f).rn] 25)).heap.size = W.heap.size + 1 := World.size_alloc _ _
  have hlo := h.lo
  have hA := h.keep (w' := W.alloc (.cells #[.string (subF f).pa, .string (subF f).tx, .bool (subF f).rn] 25)) fun b hb => Below.heap_alloc _ _ _ hb
  have hrowA := row_heap (w' := W.alloc (.cells #[.string (subF f).pa, .string (subF f).tx, .bool (subF f).rn] 25)) hrow0 fun b hb => Below.heap_alloc _ _ _ (hrow0.lt b hb).2
  obtain ⟨G, C, w3, hrun, hrow, hgr, hat, hlt⟩ := run_append_lies (P := Tryz.prog) (W.alloc (.cells #[.string (subF f).pa, .string (subF f).tx, .bool (subF f).rn] 25)) 22 22 B 25 i0 (.agg #[.string ⟨#[]⟩, .string ⟨#[]⟩, .bool false]) 3 40 Tryz.underlying22 hi hz0 hz1 hz2 rfl (by decide) (.slice ao (sub (hdF f) L).length ca) (sub (hdF f) L).length (flCells (sub (hdF f) L)) hrowA ⟨W.heap.size, 0, none⟩ 1 1 [.string (subF f).pa, .string (subF f).tx, .bool (subF f).rn] rfl (new_cells W _ _) (fun u hu => by simp at hu; rcases hu with rfl | rfl | rfl <;> rfl) (by decide) (by unfold maxLen; omega) (by omega) (by omega) (W.heap.size + 1) hsz
  have hneM : (Value.slice ao (sub (hdF f) L).length ca).ownBlock ≠ some M := fun e => by
    rcases hcase with ⟨h1, h2, _⟩ | ⟨_, h2⟩
    · rw [h2] at e
      exact h.aM _ h1 (by injection e)
    · rw [h2] at e; cases e
  have ho3 := ownsMap_heap hA.own (w' := w3) (hgr.block M hA.own.lt fun e => hneM e.symm)
  obtain ⟨w4, hmu, ho4, ht4⟩ := ho3.store lawS Tryz.underlying82 (by unfold maxLen; omega) (keyOf_string_mk Tryz.underlying9 hss) (slcE_mk G ((sub (hdF f) L).length + 1) C)
  rw [hdl] at ho4
  refine ⟨ao, ca, G, C, w3, w4, hlk W rfl, hrun, hmu, ⟨_, _, _, hA.put hf hcase hrow hgr (hat.imp id fun e => by omega) ho4 ht4.grown⟩, ?_⟩
  have h3 : Below B W w3 := ((Below.refl B W).alloc hlo _).grown hgr (by omega) fun k hk => (hrowA.lt k hk).1
  exact h3.grown ht4.grown (Nat.le_trans hlo h3.size) fun k hk => by
    injection hk with hk
    rw [← hk]
    exact h.loM
end
end Go.Proofs.YtkmlooepakinfaaGreatDoor

/- A directory, plain: how many texts it has, how long it is packed. -/
namespace Go.Proofs.YtkmlooepakinfaaGreatDoor
open Go.RowKit Go.Shelf Go.Maps Go.WideMaps

theorem sum_add1 (f : List UInt8 → Nat) (h : List UInt8) : ∀ N : List (List UInt8), N.Nodup → (N.map fun m => f m + if h = m then 1 else 0).sum ≤ (N.map f).sum + 1
  | [], _ => by simp
  | m :: r, hn => by
    rw [List.nodup_cons] at hn
    simp only [List.map_cons, List.sum_cons]
    by_cases e : h = m
    · have e2 : (r.map fun m => f m + if h = m then 1 else 0) = r.map f := by
        refine List.map_congr_left fun x hx => ?_
        rw [if_neg (fun e3 => hn.1 (by rw [← e, e3]; exact hx))]
        rfl
      rw [e2, if_pos e]
      omega
    · have := sum_add1 f h r hn.2
      rw [if_neg e]
      omega
theorem subs_len (N : List (List UInt8)) (hN : N.Nodup) (L : List Fl) : (tops L).length + (N.map fun m => (sub m L).length).sum ≤ L.length := by
  refine snocInd (P := fun L => (tops L).length + (N.map fun m => (sub m L).length).sum ≤ L.length) ?_ (fun l a ih => ?_) L
  · have : (N.map fun m => (sub m ([] : List Fl)).length) = N.map fun _ => 0 := List.map_congr_left fun m _ => rfl
    rw [this]
    have h0 : ∀ N : List (List UInt8), (N.map fun _ => 0).sum = 0 := fun N => by induction N <;> simp_all
    rw [h0]
    simp [tops]
  · rw [tops_snoc, List.length_append]
    by_cases hd : deepF a = true
    · have e : (N.map fun m => (sub m (l ++ [a])).length) = N.map fun m => (sub m l).length + if hdF a = m then 1 else 0 := by
        refine List.map_congr_left fun m _ => ?_
        rw [sub_snoc]
        by_cases h : hdF a = m
        · rw [if_pos ⟨hd, h⟩, if_pos h, List.length_append]; rfl
        · rw [if_neg (fun h2 => h h2.2), if_neg h]; rfl
      rw [if_pos hd, e]
      have := sum_add1 (fun m => (sub m l).length) (hdF a) N hN
      simp only [List.length_singleton]
      omega
    · have e : (N.map fun m => (sub m (l ++ [a])).length) = N.map fun m => (sub m l).length := by
        refine List.map_congr_left fun m _ => ?_
        rw [sub_snoc, if_neg (fun h => hd h.1)]
      rw [if_neg hd, e, List.length_append]
      simp only [List.length_singleton]
      omega
theorem sum_lin (a : Nat) (f : List UInt8 → Nat) : ∀ N : List (List UInt8), (N.map fun m => a * f m + 1).sum = a * (N.map f).sum + N.length
  | [] => rfl
  | m :: r => by
    simp only [List.map_cons, List.sum_cons, List.length_cons, sum_lin a f r]
    rw [Nat.mul_add]
    omega
theorem sum_mono (f h : List UInt8 → Nat) (hf : ∀ m, f m ≤ h m) : ∀ N : List (List UInt8), (N.map f).sum ≤ (N.map h).sum
  | [] => Nat.le_refl _
  | m :: r => by
    simp only [List.map_cons, List.sum_cons]
    have := sum_mono f h hf r
    have := hf m
    omega

section
variable (sm : ByteArray → ByteArray)
theorem dirF_len : ∀ (n : Nat) (L : List Fl), (dirF sm n L).2.length ≤ n * L.length + 1
  | 0, L => by simp [dirF]
  | n + 1, L => by
    rw [dirF_succ]
    simp only [List.length_append, List.length_map, List.length_flatMap, List.length_singleton]
    have h1 := subs_len (names L) (names_nodup L) L
    have h2 := sum_mono (fun m => (dirF sm n (sub m L)).2.length) (fun m => n * (sub m L).length + 1) (fun m => dirF_len n (sub m L)) (names L)
    rw [sum_lin n (fun m => (sub m L).length)] at h2
    have h3 := names_len L
    have h4 : n * ((tops L).length + ((names L).map fun m => (sub m L).length).sum) ≤ n * L.length := Nat.mul_le_mul_left n h1
    rw [Nat.mul_add] at h4
    rw [Nat.add_mul, Nat.one_mul]
    omega
theorem dirF_pos (n : Nat) (L : List Fl) : 0 < (dirF sm (n + 1) L).2.length := by
  rw [dirF_succ]
  simp
  omega
theorem txN_size (hsm : ∀ t, digOk (sm t) = true) (n : Nat) {L : List Fl} (h : okT L) : (dirF sm (n + 1) L).1.size ≤ 200016008 := by
  rw [dirF_succ]
  show (txN (nsF sm n L)).size ≤ _
  unfold txN
  show (pk (sortN (nsF sm n L)).length ++ pkDD (sortN (nsF sm n L))).toArray.size ≤ _
  rw [List.size_toArray]
  exact pkDs_len _ (neC_ok (nsF_ok sm hsm n h)).1
end
end Go.Proofs.YtkmlooepakinfaaGreatDoor

/- How a directory is packed: the walk. -/
namespace Go.Proofs.YtkmlooepakinfaaGreatDoor
open Go.RowKit Go.Shelf Go.Maps Go.WideMaps Go.Sort
attribute [local go_sem ↓] appS_eq

/-- How packing ends. -/
def PkP (r : ByteArray × List ByteArray) (w : World) (e : Ending) (w' : World) : Prop := ∃ bv, e = .returned (.tuple #[.string r.1, bv]) ∧ w'.ownsRow w.heap.size 9 1 bv r.2.length (r.2.map Value.string) ∧ Below w.heap.size w w'
/-- While files are taken one by one. -/
def PkL (B M : Nat) (L : List Fl) (w : World) (nv bv i : Value) (wr : World) : Prop := ∃ (k : Nat) (D : DataW Unit) (g c : List UInt8 → Nat), k ≤ L.length ∧ i = .int .i64 k ∧ DS B M D g c (L.take k) ((tops (L.take k)).map (ndF smD)) ((tops (L.take k)).map Fl.tx) nv bv wr ∧ Below B w wr

/-- Behind so many directories. -/
def nsK (n : Nat) (L : List Fl) (k : Nat) : List Nd := (tops L).map (ndF smD) ++ ((names L).take k).map fun m => ndM smD m (dirF smD n (sub m L)).1
def bsK (n : Nat) (L : List Fl) (k : Nat) : List ByteArray := (tops L).map Fl.tx ++ ((names L).take k).flatMap fun m => (dirF smD n (sub m L)).2
theorem nsK_succ (n : Nat) (L : List Fl) (k : Nat) (h : k < (names L).length) : nsK n L (k + 1) = nsK n L k ++ [ndM smD (names L)[k] (dirF smD n (sub (names L)[k] L)).1] := by
  unfold nsK
  rw [List.take_succ_eq_append_getElem h, List.map_append, List.append_assoc]
  rfl
theorem bsK_succ (n : Nat) (L : List Fl) (k : Nat) (h : k < (names L).length) : bsK n L (k + 1) = bsK n L k ++ (dirF smD n (sub (names L)[k] L)).2 := by
  unfold bsK
  rw [List.take_succ_eq_append_getElem h, List.flatMap_append, ← List.append_assoc]
  simp
theorem nsK_len (n : Nat) (L : List Fl) (k : Nat) : (nsK n L k).length ≤ L.length := by
  unfold nsK
  rw [List.length_append, List.length_map, List.length_map, List.length_take]
  have := names_len L
  omega
theorem bsK_len (n : Nat) (L : List Fl) (hn : n ≤ 1000) (hL : L.length ≤ 60) : ∀ k, (bsK n L k).length ≤ 60 + k * 60001 := by
  intro k
  have h1 : (tops L).length ≤ L.length := List.length_filter_le _ _
  induction k with
  | zero => simp [bsK]; omega
  | succ k ih =>
    by_cases h : k < (names L).length
    · rw [bsK_succ n L k h, List.length_append]
      have h2 := dirF_len smD n (sub (names L)[k] L)
      have h3 := sub_len (names L)[k] L
      have h4 : n * (sub (names L)[k] L).length ≤ 60000 := Nat.le_trans (Nat.mul_le_mul hn (Nat.le_trans h3 hL)) (by decide)
      rw [Nat.add_mul, Nat.one_mul]
      generalize n * (sub (names L)[k] L).length = a at *
      generalize k * 60001 = b at *
      generalize (dirF smD n (sub (names L)[k] L)).2.length = d at *
      generalize (bsK n L k).length = e at *
      clear h3 h1 h hn hL
      omega
    · have : bsK n L (k + 1) = bsK n L k := by
        unfold bsK
        rw [List.take_of_length_le (by omega), List.take_of_length_le (by omega)]
      rw [this, Nat.add_mul, Nat.one_mul]
      generalize k * 60001 = b at *
      generalize (bsK n L k).length = e at *
      clear this h h1 hn hL
      omega
/-- While directories are taken one by one; kv: the names, as they lie since w1. -/
def PkM (B M : Nat) (D : DataW Unit) (g c : List UInt8 → Nat) (n : Nat) (L : List Fl) (w w1 : World) (kv nv bv i : Value) (wr : World) : Prop := ∃ k : Nat, k ≤ (names L).length ∧ i = .int .i64 k ∧ DS B M D g c L (nsK n L k) (bsK n L k) nv bv wr ∧ Below B w wr ∧ ∀ x, kv.ownBlock = some x → wr.heap[x]? = w1.heap[x]? ∧ nv.ownBlock ≠ some x ∧ bv.ownBlock ≠ some x ∧ x < wr.heap.size

theorem DS.turnN {B M : Nat} {D : DataW Unit} {g c : List UInt8 → Nat} {L : List Fl} {ns ns' : List Nd} {bs : List ByteArray} {nv bv : Value} {w w' : World} (h : DS B M D g c L ns bs nv bv w) (hrow : w'.ownsRow B 87 3 nv ns'.length (ndCells ns')) (hg : w.grownBy w' nv.ownBlock) : DS B M D g c L ns' bs nv bv w' := by
  have hk : ∀ b, b < w.heap.size → nv.ownBlock ≠ some b → w'.heap[b]? = w.heap[b]? := fun b hb hne => hg.block b hb (fun e => hne e.symm)
  refine ⟨hrow, row_heap h.blobs fun b hb => hk b (h.blobs.lt b hb).2 (fun e => h.vV b e hb), ownsMap_heap h.own (hk M h.own.lt h.vM.1), h.str, h.has, h.get, fun n hn => row_heap (h.rows n hn) fun b hb => ?_, h.aM, h.aG, h.vM, h.vG, h.vV, h.loM⟩
  have e : g n = b := by injection hb
  subst e
  exact hk _ (h.gl hn).2 (h.vG n hn).1

theorem DS_start (w : World) : DS w.heap.size w.heap.size (.map []) (fun _ => 0) (fun _ => 0) [] [] [] (.slice none 0 0) (.slice none 0 0) (w.alloc (.map #[] 0)) :=
  ⟨World.ownsRow_nil _ _ _ _, World.ownsRow_nil _ _ _ _, World.ownsMap_made _ _ _ _, ⟨[], rfl, by simp, .nil⟩, fun n => by simp [Maps.has, names], fun n hn => by simp [names] at hn, fun n hn => by simp [names] at hn, fun n hn => by simp [names] at hn, fun n hn => by simp [names] at hn, ⟨by simp [Value.ownBlock], by simp [Value.ownBlock]⟩, fun n hn => by simp [names] at hn, fun x hx => by simp [Value.ownBlock] at hx, Nat.le_refl _⟩
/-- A node more, behind a file's kind and the sum of its text. -/
theorem top_ap {B M : Nat} {D : DataW Unit} {g c : List UInt8 → Nat} {L : List Fl} {ns : List Nd} {bs : List ByteArray} {nv bv : Value} {x : Fl} {ya yd : ByteArray} {yk : Int} {wr w1 w2 w3 : World} (HB1 : Hid (Below wr.heap.size wr w1)) (hb2 : Below w1.drew.heap.size w1.drew w2) (hb3 : Below w2.heap.size w2 w3)
    (d0 : w1.cell? ⟨wr.heap.size, 0, none⟩ = some (.string x.pa)) (d1 : w1.cell? ⟨wr.heap.size, 1, none⟩ = some (.string x.tx)) (d2 : w1.cell? ⟨wr.heap.size, 2, none⟩ = some (.bool x.rn)) (hsz : wr.heap.size < w1.heap.size)
    (HNo : Hid (∀ W, Below wr.heap.size wr W → ∃ G C w', (appS #[81, 81] 81 #[nv, .slice (some ⟨W.heap.size, 0, none⟩) 1 1]).run Tryz.prog (W.alloc (.cells #[.string ya, .int .i64 yk, .string yd] 87)) = .ok (.slice (some ⟨G, 0, none⟩) (ns.length + 1) C) w' ∧
      DS B M D g c L (ns ++ [(ya, yk, yd)]) bs (.slice (some ⟨G, 0, none⟩) (ns.length + 1) C) bv w' ∧ Below B W w' ∧ ∀ b, b < W.heap.size → nv.ownBlock ≠ some b → w'.heap[b]? = W.heap[b]? ∧ G ≠ b)) (HU : Hid (∀ b, nv.ownBlock = some b → b < wr.heap.size)) :
    ∃ G C w4, (appS #[81, 81] 81 #[nv, .slice (some ⟨w3.heap.size, 0, none⟩) 1 1]).run Tryz.prog (w3.alloc (.cells #[.string ya, .int .i64 yk, .string yd] 87)) = .ok (.slice (some ⟨G, 0, none⟩) (ns.length + 1) C) w4 ∧
      w4.cell? ⟨wr.heap.size, 0, none⟩ = some (.string x.pa) ∧ w4.cell? ⟨wr.heap.size, 1, none⟩ = some (.string x.tx) ∧ w4.cell? ⟨wr.heap.size, 2, none⟩ = some (.bool x.rn) ∧ wr.heap.size < w4.heap.size ∧
      Hid (DS B M D g c L (ns ++ [(ya, yk, yd)]) bs (.slice (some ⟨G, 0, none⟩) (ns.length + 1) C) bv w4 ∧ ∃ W, Below wr.heap.size wr W ∧ Below B W w4) := by
  have h1 : Below wr.heap.size wr w1.drew := HB1.out.drew
  have h2 := h1.trans (hb2.mono h1.size)
  have h3 := h2.trans (hb3.mono h2.size)
  have hlt3 : wr.heap.size < w3.heap.size := Nat.lt_of_lt_of_le hsz (Nat.le_trans hb2.size hb3.size)
  obtain ⟨G, C, w4, hap, hds, hbb, hk⟩ := HNo.out w3 h3
  have hblk : w4.heap[wr.heap.size]? = w1.heap[wr.heap.size]? := ((hk _ hlt3 (fun e => by have := HU.out _ e; omega)).1.trans (hb3.block _ (Nat.lt_of_lt_of_le hsz hb2.size))).trans (hb2.block _ hsz)
  have hc : ∀ k, w4.cell? ⟨wr.heap.size, k, none⟩ = w1.cell? ⟨wr.heap.size, k, none⟩ := fun k => World.cell?_of_block (w := w1) (a := ⟨wr.heap.size, k, none⟩) hblk
  exact ⟨G, C, w4, hap, (hc 0).trans d0, (hc 1).trans d1, (hc 2).trans d2, Nat.lt_of_lt_of_le hlt3 hbb.size, hds, w3, h3, hbb⟩

set_option maxHeartbeats 8000000 in
set_option maxRecDepth 100000 in
theorem packed_step (n : Nat) (ih : ∀ (ao : Option Addr) (cap : Nat) (K : List Fl) (W : World), K ≠ [] → okT K → (∀ f ∈ K, f.pa.size < n) → IsFl W ao K → Env W → Calls Tryz.prog 28 #[.slice ao K.length cap] W (PkP (dirF smD n K) W))
    (ao : Option Addr) (cap : Nat) (L : List Fl) (w : World) (hn : n ≤ 1000) (hok : okT L) (hsz : ∀ f ∈ L, f.pa.size < n + 1) (hl : IsFl w ao L) (he : Env w) :
    Calls Tryz.prog 28 #[.slice ao L.length cap] w (PkP (dirF smD (n + 1) L) w) := by
  have IH : Hid (∀ (ao : Option Addr) (cap : Nat) (K : List Fl) (W : World), K ≠ [] → okT K → (∀ f ∈ K, f.pa.size < n) → IsFl W ao K → Env W → Calls Tryz.prog 28 #[.slice ao K.length cap] W (PkP (dirF smD n K) W)) := ih
  have HL : Hid (IsFl w ao L) := hl
  have HK : Hid (okT L) := hok
  have HZ : Hid (∀ f ∈ L, f.pa.size < n + 1) := hsz
  have HE : Hid (Env w) := he
  have HNN : Hid (n ≤ 1000) := hn
  have hn1 : (L.length : Int) ≤ 60 := by have := hok.1; omega
  have hmm := @run_makeMap Tryz.prog
  clear ih hl hok hsz he hn
  go_enter Tryz.func28, Tryz.ntmps28
  go_wp2
  go_loopw [4, 5, 21] (fun nv bv i wr => PkL w.heap.size w.heap.size L w nv bv i wr) (fun _ _ i _ => L.length - (intOf i).toNat)
  case atStart => exact ⟨0, _, _, _, by omega, rfl, DS_start w, (Below.refl _ _).alloc (Nat.le_refl _) _⟩
  case round =>
    obtain ⟨k, D, g, c, hk, rfl, hds, hb⟩ := hrel
    have HD : Hid (DS w.heap.size w.heap.size D g c (L.take k) ((tops (L.take k)).map (ndF smD)) ((tops (L.take k)).map Fl.tx) u4 u5 wr) := hds
    have HB : Hid (Below w.heap.size w wr) := hb
    have hwz := hb.size
    have HLB : Hid (IsFl wr ao L) := HL.out.below hb (Nat.le_refl _)
    have HEB : Hid (Env wr) := HE.out.up hb
    clear hds hb
    by_cases hlt : k < L.length
    · rcases HLB.out with h | ⟨gg, o, rfl, hgr, hc⟩
      · exfalso; rw [h] at hlt; exact absurd hlt (by simp)
      obtain ⟨c0, c1, c2⟩ := hc k hlt
      have hf0 : flE L[k] = 0 := HK.out.2.1 _ (List.getElem_mem hlt)
      have hps : L[k].pa.size ≤ 100 := pathOk_size (flE_pa hf0).1
      have hts : L[k].tx.size ≤ 100000 := (flE_pa hf0).2
      have htk : L.take (k + 1) = L.take k ++ [L[k]] := List.take_succ_eq_append_getElem hlt
      have hlk : (L.take k).length ≤ 60 := by rw [List.length_take]; have := HK.out.1; omega
      have HTK : Hid (L.take (k + 1) = L.take k ++ [L[k]]) := htk
      have HPS : Hid (L[k].pa.size ≤ 100 ∧ L[k].tx.size ≤ 100000 ∧ (L.take k).length ≤ 60) := ⟨hps, hts, hlk⟩
      clear hc hf0 hps hts htk hlk HLB
      generalize hx : L[k] = x at c0 c1 c2 HTK HPS
      clear hx
      generalize hLk : L.take k = Lk at HD HTK HPS
      clear hLk
      have hA : Below wr.heap.size wr (wr.alloc (.cells #[.string x.pa, .string x.tx, .bool x.rn] 25)) := (Below.refl _ wr).alloc (Nat.le_refl _) _
      have hAz : (wr.alloc (.cells #[.string x.pa, .string x.tx, .bool x.rn] 25)).heap.size = wr.heap.size + 1 := World.size_alloc _ _
      have hAx := heap_alloc_new wr (.cells #[.string x.pa, .string x.tx, .bool x.rn] 25)
      by_cases hd : deepF x = true
      · have HCut : Hid (Calls Tryz.prog 47 #[.string x.pa, .string ⟨#[47]⟩] (wr.alloc (.cells #[.string x.pa, .string x.tx, .bool x.rn] 25)) fun e w' => e = .returned (.tuple #[.string ⟨(hdF x).toArray⟩, .string (subF x).pa, .bool true]) ∧ Below (wr.heap.size + 1) (wr.alloc (.cells #[.string x.pa, .string x.tx, .bool x.rn] 25)) w') := by
          have := Cut_deep x _ hd HPS.out.1 (HEB.out.up hA)
          rw [hAz] at this
          exact this
        have HA : Hid (Below wr.heap.size wr (wr.alloc (.cells #[.string x.pa, .string x.tx, .bool x.rn] 25))) := hA
        have HAz : Hid ((wr.alloc (.cells #[.string x.pa, .string x.tx, .bool x.rn] 25)).heap.size = wr.heap.size + 1) := hAz
        have HAx : Hid ((wr.alloc (.cells #[.string x.pa, .string x.tx, .bool x.rn] 25)).heap[wr.heap.size]? = some (.cells #[.string x.pa, .string x.tx, .bool x.rn] 25 (0, 0))) := hAx
        clear hA hAz hAx
        go_wp2_with fail
        refine HCut.out.mono ?_
        rintro e w1 ⟨rfl, hb1⟩
        have d0 : w1.cell? ⟨wr.heap.size, 0, none⟩ = some (.string x.pa) := (hb1.cell (p := ⟨wr.heap.size, 0, none⟩) (by show wr.heap.size < _; omega)).trans (Lib.cell_of_heap HAx.out 0)
        have d1 : w1.cell? ⟨wr.heap.size, 1, none⟩ = some (.string x.tx) := (hb1.cell (p := ⟨wr.heap.size, 1, none⟩) (by show wr.heap.size < _; omega)).trans (Lib.cell_of_heap HAx.out 1)
        have d2 : w1.cell? ⟨wr.heap.size, 2, none⟩ = some (.bool x.rn) := (hb1.cell (p := ⟨wr.heap.size, 2, none⟩) (by show wr.heap.size < _; omega)).trans (Lib.cell_of_heap HAx.out 2)
        have dz : w1.frozen? ⟨wr.heap.size, 0, none⟩ = false := (hb1.frozen (p := ⟨wr.heap.size, 0, none⟩) (by show wr.heap.size < _; omega)).trans (by have h := HAx.out; simp only [World.frozen?]; rw [h]; rfl)
        have hsz1 : wr.heap.size + 1 ≤ w1.heap.size := by have := hb1.size; have := HAz.out; omega
        have hB1 : Below wr.heap.size wr (w1.setCell ⟨wr.heap.size, 0, none⟩ (.string (subF x).pa)) := (HA.out.trans (hb1.mono (by omega))).setCell (p := ⟨wr.heap.size, 0, none⟩) (Nat.le_refl _) _
        have hDW := HD.out.keep hB1.block
        have hWz : (w1.setCell ⟨wr.heap.size, 0, none⟩ (.string (subF x).pa)).heap.size = w1.heap.size := by simp [World.setCell]
        obtain ⟨la, lc, G, C, w3, w4, hlk, hap, hmu, hds4, hb4⟩ := hDW.deep hd (by
          have := congrArg List.length (deep_sl hd).2
          rw [List.length_append, List.length_cons] at this
          have e1 : (pth x).length = x.pa.size := Array.length_toList
          have := HPS.out.1
          omega) (by have := HPS.out.2.2; omega)
        rw [hWz] at hap
        have htx : (subF x).tx = x.tx := subF_tx x
        have hrn : (subF x).rn = x.rn := by unfold subF; cases sl (pth x) <;> rfl
        rw [htx, hrn] at hap
        have HD4 : Hid (∃ D' g' c', DS w.heap.size w.heap.size D' g' c' (Lk ++ [x]) ((tops Lk).map (ndF smD)) ((tops Lk).map Fl.tx) u4 u5 w4) := hds4
        have HB4 : Hid (Below w.heap.size w w4) := (HB.out.trans (hB1.mono hwz)).trans hb4
        have HTop : Hid (tops (Lk ++ [x]) = tops Lk) := by
          show _ = _
          rw [tops_snoc, if_pos hd]
        clear hb1 hB1 hDW hWz hds4 hb4 htx hrn
        go_wp2
        obtain ⟨D', g', c', hds⟩ := HD4.out
        refine ⟨⟨k + 1, D', g', c', by omega, by go_num, ?_, HB4.out⟩, by simp [intOf]; omega⟩
        rw [HTK.out, HTop.out]
        exact hds
      · have hd' : deepF x = false := by simpa using hd
        have HCut : Hid (Calls Tryz.prog 47 #[.string x.pa, .string ⟨#[47]⟩] (wr.alloc (.cells #[.string x.pa, .string x.tx, .bool x.rn] 25)) fun e w' => e = .returned (.tuple #[.string x.pa, .string ⟨#[]⟩, .bool false]) ∧ Below (wr.heap.size + 1) (wr.alloc (.cells #[.string x.pa, .string x.tx, .bool x.rn] 25)) w') := by
          have := Cut_top x _ hd' HPS.out.1 (HEB.out.up hA)
          rw [hAz] at this
          exact this
        have HA : Hid (Below wr.heap.size wr (wr.alloc (.cells #[.string x.pa, .string x.tx, .bool x.rn] 25))) := hA
        have HAz : Hid ((wr.alloc (.cells #[.string x.pa, .string x.tx, .bool x.rn] 25)).heap.size = wr.heap.size + 1) := hAz
        have HAx : Hid ((wr.alloc (.cells #[.string x.pa, .string x.tx, .bool x.rn] 25)).heap[wr.heap.size]? = some (.cells #[.string x.pa, .string x.tx, .bool x.rn] 25 (0, 0))) := hAx
        have HTop : Hid (tops (Lk ++ [x]) = tops Lk ++ [x]) := by
          show _ = _
          rw [tops_snoc, if_neg hd]
        have HDT : Hid (deepF x = false) := hd'
        clear hA hAz hAx hd hd'
        go_wp2_with fail
        refine HCut.out.mono ?_
        rintro e w1 ⟨rfl, hb1⟩
        have d0 : w1.cell? ⟨wr.heap.size, 0, none⟩ = some (.string x.pa) := (hb1.cell (p := ⟨wr.heap.size, 0, none⟩) (by show wr.heap.size < _; omega)).trans (Lib.cell_of_heap HAx.out 0)
        have d1 : w1.cell? ⟨wr.heap.size, 1, none⟩ = some (.string x.tx) := (hb1.cell (p := ⟨wr.heap.size, 1, none⟩) (by show wr.heap.size < _; omega)).trans (Lib.cell_of_heap HAx.out 1)
        have d2 : w1.cell? ⟨wr.heap.size, 2, none⟩ = some (.bool x.rn) := (hb1.cell (p := ⟨wr.heap.size, 2, none⟩) (by show wr.heap.size < _; omega)).trans (Lib.cell_of_heap HAx.out 2)
        have hsz1 : wr.heap.size < w1.heap.size := by have := hb1.size; have := HAz.out; omega
        have HB1 : Hid (Below wr.heap.size wr w1) := HA.out.trans (hb1.mono (by omega))
        have HKi : Hid (∀ W, Calls Tryz.prog 48 #[.agg #[.string x.pa, .string x.tx, .bool x.rn]] W fun e w' => e = .returned (.int .i64 (kdF x.rn)) ∧ Below W.heap.size W w') := fun W => kindOf_any x W
        have HSu : Hid (∀ W, Below wr.heap.size wr W → Calls Tryz.prog 29 #[.string x.tx] W fun e w' => e = .returned (.string (smD x.tx)) ∧ Below W.heap.size W w') := fun W hW => Sm_any x.tx W (by have := HPS.out.2.1; omega) (HEB.out.up hW)
        have HNo : Hid (∀ W, Below wr.heap.size wr W → ∃ G C w', (appS #[81, 81] 81 #[u4, .slice (some ⟨W.heap.size, 0, none⟩) 1 1]).run Tryz.prog (W.alloc (.cells #[.string x.pa, .int .i64 (kdF x.rn), .string (smD x.tx)] 87)) = .ok (.slice (some ⟨G, 0, none⟩) (((tops Lk).map (ndF smD)).length + 1) C) w' ∧
            DS w.heap.size w.heap.size D g c Lk ((tops Lk).map (ndF smD) ++ [ndF smD x]) ((tops Lk).map Fl.tx) (.slice (some ⟨G, 0, none⟩) (((tops Lk).map (ndF smD)).length + 1) C) u5 w' ∧ Below w.heap.size W w' ∧ ∀ b, b < W.heap.size → u4.ownBlock ≠ some b → w'.heap[b]? = W.heap[b]? ∧ G ≠ b) := fun W hW =>
          (HD.out.below hW).node (ndF smD x) (by
            have h1 : (tops Lk).length ≤ Lk.length := List.length_filter_le _ _
            have := HPS.out.2.2
            rw [List.length_map]
            omega)
        have HU4 : Hid (∀ b, u4.ownBlock = some b → b < wr.heap.size) := fun b hb => (HD.out.nodes.lt b hb).2
        clear hb1 HCut HAx HAz HA HEB
        go_wp2_with fail
        go_region_held3 (fun w' => w'.cell? ⟨wr.heap.size, 0, none⟩ = some (.string x.pa) ∧ w'.cell? ⟨wr.heap.size, 1, none⟩ = some (.string x.tx) ∧ w'.cell? ⟨wr.heap.size, 2, none⟩ = some (.bool x.rn) ∧ wr.heap.size < w'.heap.size)
          (first | assumption | (exact ⟨s0, s1, s2, s3⟩) | (simp [go_sem, *]; done) | (go_split_ands; refine ⟨?_, ?_, ?_, ?_⟩ <;> first | (exact Nat.lt_of_lt_of_le (by assumption) hb3.size) | (rw [hb3.cell (p := ⟨wr.heap.size, _, none⟩) (by assumption)]; assumption) | (exact Nat.lt_of_lt_of_le (by assumption) hb2.size) | (rw [hb2.cell (p := ⟨wr.heap.size, _, none⟩) (by assumption)]; assumption)))
          (first
            | (go_at_call 48; refine (HKi.out _).mono ?_; rintro e w2 ⟨rfl, hb2⟩)
            | (go_at_call 29; refine (HSu.out _ (HB1.out.drew.trans (hb2.mono HB1.out.drew.size))).mono ?_; rintro e w3 ⟨rfl, hb3⟩; obtain ⟨G, C, w4, hap, s0, s1, s2, s3, HX4⟩ := top_ap HB1 hb2 hb3 d0 d1 d2 hsz1 HNo HU4)
            | fail)
        obtain ⟨W, hW1, hW2⟩ := HX4.out.2
        obtain ⟨G2, C2, w5, hap2, hds5, hb5, _⟩ := HX4.out.1.text x.tx (by
          have h1 : (tops Lk).length ≤ Lk.length := List.length_filter_le _ _
          have := HPS.out.2.2
          rw [List.length_map]
          omega)
        have HD5 : Hid (DS w.heap.size w.heap.size D g c (Lk ++ [x]) ((tops (Lk ++ [x])).map (ndF smD)) ((tops (Lk ++ [x])).map Fl.tx) (.slice (some ⟨G, 0, none⟩) ((tops Lk).length + 1) C) (.slice (some ⟨G2, 0, none⟩) ((tops Lk).length + 1) C2) w5) := by
          have := hds5.top HDT.out
          rw [List.length_map, List.length_map] at this
          rw [HTop.out, List.map_append, List.map_append]
          exact this
        have HB5 : Hid (Below w.heap.size w w5) := ((HB.out.trans (hW1.mono hwz)).trans hW2).trans hb5
        clear hb2 hb3 hap hW1 hW2 hds5 hb5 s0 s2 d0 d1 d2 HX4 HNo HSu HKi
        go_wp2
        refine ⟨⟨k + 1, D, g, c, by omega, by go_num, ?_, HB5.out⟩, by simp [intOf]; omega⟩
        rw [HTK.out]
        exact HD5.out
    · obtain rfl : k = L.length := by omega
      have hDL := HD.out
      rw [List.take_length] at hDL
      have HDL : Hid (DS w.heap.size w.heap.size D g c L ((tops L).map (ndF smD)) ((tops L).map Fl.tx) u4 u5 wr) := hDL
      have hki : ¬ (L.length : Int) < (L.length : Int) := by omega
      clear hDL HD HL HLB
      obtain ⟨w0, rfl⟩ : ∃ w0, w0 = wr := ⟨wr, rfl⟩
      have hKe := keysS_any (some w.heap.size) w0
      have hmz : Maps.size D ≤ L.length := HDL.out.own.size_le
      have hSo := sortedS_any w.heap.size L.length D slcE w0 HDL.out.own (by have := HK.out.1; unfold maxLen; omega) (by have := HK.out.1; omega)
      have HKe : Hid (Calls Tryz.prog 50 #[.map (some w.heap.size)] w0 fun e w' => e = .returned (.func (.func 83) #[] #[.pointer (some ⟨w0.heap.size, 0, none⟩)]) ∧ w' = w0.alloc (.cells #[.map (some w.heap.size)] 82)) := hKe
      have HSo : Hid (Calls Tryz.prog 49 #[.func (.func 83) #[] #[.pointer (some ⟨w0.heap.size, 0, none⟩)]] (w0.alloc (.cells #[.map (some w.heap.size)] 82)) fun e w' => ∃ ka kc, e = .returned (.slice ka (names L).length kc) ∧ w'.ownsRow (w0.heap.size + 1) 9 1 (.slice ka (names L).length kc) (names L).length ((names L).map encStr) ∧ Below w0.heap.size w0 w') := by
        refine hSo.mono ?_
        rintro e w' ⟨v, ss, rfl, hp, hrow, _, hb⟩
        have hl : ss.length = (names L).length := by
          have := congrArg List.length (sorted_keys HDL.out.str HDL.out.has hp)
          rwa [(List.mergeSort_perm ss _).length_eq] at this
        rw [sorted_keys HDL.out.str HDL.out.has hp, hl, World.size_alloc] at hrow
        obtain ⟨ka, kc, rfl⟩ := own_shape hrow
        have hA : Below w0.heap.size w0 (w0.alloc (.cells #[.map (some w.heap.size)] 82)) := (Below.refl _ w0).alloc (Nat.le_refl _) _
        exact ⟨ka, kc, rfl, hrow, hA.trans (hb.mono hA.size)⟩
      clear hKe hSo hmz
      go_wp2_with fail
      refine HKe.out.mono ?_
      rintro e w' ⟨rfl, rfl⟩
      go_wp2_with fail
      refine HSo.out.mono ?_
      rintro e w1 ⟨ka, kc, rfl, hkr, hkb⟩
      have HKR : Hid (w1.ownsRow (w0.heap.size + 1) 9 1 (.slice ka (names L).length kc) (names L).length ((names L).map encStr)) := hkr
      have HS0 : Hid (PkM w.heap.size w.heap.size D g c n L w w1 (.slice ka (names L).length kc) u4 u5 (.int .i64 ((0 : Nat) : Int)) w1) := by
        refine ⟨0, by omega, rfl, ?_, HB.out.trans (hkb.mono hwz), fun x hx => ⟨rfl, ?_, ?_, (hkr.lt x hx).2⟩⟩
        · have e1 : nsK n L 0 = (tops L).map (ndF smD) := by simp [nsK]
          have e2 : bsK n L 0 = (tops L).map Fl.tx := by simp [bsK]
          rw [e1, e2]
          exact HDL.out.below hkb
        · intro e
          have := (HDL.out.nodes.lt x e).2
          have := (hkr.lt x hx).1
          omega
        · intro e
          have := (HDL.out.blobs.lt x e).2
          have := (hkr.lt x hx).1
          omega
      have HBK : Hid (Below w0.heap.size w0 w1) := hkb
      have hnl : ((names L).length : Int) ≤ 60 := by have := names_len L; have := HK.out.1; omega
      clear hkr hkb HKe HSo HDL
      go_wp2
      go_loopw [4, 5, 63] (fun nv bv i wr => PkM w.heap.size w.heap.size D g c n L w w1 (.slice ka (names L).length kc) nv bv i wr) (fun _ _ i _ => (names L).length - (intOf i).toNat)
      case atStart => exact HS0.out
      case round =>
        clear HS0
        obtain ⟨k, hk, rfl, hds, hb, hkv⟩ := hrel
        have HD : Hid (DS w.heap.size w.heap.size D g c L (nsK n L k) (bsK n L k) u4 u5 wr) := hds
        have HB2 : Hid (Below w.heap.size w wr) := hb
        have hwz2 := hb.size
        have HEB2 : Hid (Env wr) := HE.out.up hb
        by_cases hlt : k < (names L).length
        · have hki : (k : Int) < ((names L).length : Int) := by omega
          rcases HKR.out.2 with ⟨_, h0⟩ | ⟨kg, kc2, cur, hkv2, _, hkh, _⟩
          · exfalso; omega
          injection hkv2 with hka hx1 hx2
          subst hka
          clear hx1 hx2
          have hkc : wr.cell? ⟨kg, k, none⟩ = some (.string ⟨(names L)[k].toArray⟩) := by
            have h1 := HKR.out.cells (show (Value.slice (some ⟨kg, 0, none⟩) (names L).length kc).ownBlock = some kg from rfl) k (encStr (names L)[k]) (by simp [hlt])
            rw [add0] at h1
            exact (World.cell?_of_block (w := w1) (a := ⟨kg, k, none⟩) (hkv kg rfl).1).trans h1
          have hnm : (names L)[k] ∈ names L := List.getElem_mem hlt
          have hnl : (names L)[k].length ≤ 100 := by
            obtain ⟨f, hf, hd, hh⟩ := (names_mem L _).1 hnm
            have e := congrArg List.length (deep_sl hd).2
            rw [List.length_append, hh] at e
            have e1 : (pth f).length = f.pa.size := Array.length_toList
            have := pathOk_size (flE_pa (HK.out.2.1 f hf)).1
            omega
          have hss : (⟨(names L)[k].toArray⟩ : ByteArray).size ≤ maxLen := by show (names L)[k].toArray.size ≤ _; simp; unfold maxLen; omega
          obtain ⟨la, lc, hlk, hrow, hcase⟩ := hds.look ⟨(names L)[k].toArray⟩ hss
          rw [show (⟨(names L)[k].toArray⟩ : ByteArray).data.toList = (names L)[k] from by simp] at hlk hrow hcase
          have hlk0 := hlk wr rfl
          have hsub : sub (names L)[k] L ≠ [] := by
            obtain ⟨f, hf, hd, hh⟩ := (names_mem L _).1 hnm
            intro e
            have : subF f ∈ sub (names L)[k] L := List.mem_map.2 ⟨f, List.mem_filter.2 ⟨hf, by rw [hd, hh]; simp⟩, rfl⟩
            rw [e] at this
            cases this
          obtain ⟨n2, rfl⟩ : ∃ n2, n = n2 + 1 := by
            cases n with
            | zero =>
              exfalso
              obtain ⟨f, hf⟩ := List.exists_mem_of_ne_nil _ hsub
              have := sub_less HZ.out _ f hf
              omega
            | succ n => exact ⟨n, rfl⟩
          have HP : Hid (Calls Tryz.prog 28 #[.slice la (sub (names L)[k] L).length lc] wr (PkP (dirF smD (n2 + 1) (sub (names L)[k] L)) wr)) := IH.out la lc _ wr hsub (okT_sub HK.out _) (sub_less HZ.out _) (own_files hrow rfl) HEB2.out
          have HTS : Hid ((dirF smD (n2 + 1) (sub (names L)[k] L)).1.size ≤ 200016008) := txN_size smD smD_dig n2 (okT_sub HK.out _)
          have HN1 : Hid (nsK (n2 + 1) L (k + 1) = nsK (n2 + 1) L k ++ [ndM smD (names L)[k] (dirF smD (n2 + 1) (sub (names L)[k] L)).1]) := nsK_succ _ L k hlt
          have HN2 : Hid (bsK (n2 + 1) L (k + 1) = bsK (n2 + 1) L k ++ (dirF smD (n2 + 1) (sub (names L)[k] L)).2) := bsK_succ _ L k hlt
          have HN3 : Hid ((nsK (n2 + 1) L k).length ≤ 60) := by have := nsK_len (n2 + 1) L k; have := HK.out.1; show _ ≤ _; omega
          have HN4 : Hid ((bsK (n2 + 1) L k).length ≤ 60 + 60 * 60001) := by
            have h1 := bsK_len (n2 + 1) L HNN.out HK.out.1 k
            have h2 : k * 60001 ≤ 60 * 60001 := Nat.mul_le_mul_right _ (by have := names_len L; have := HK.out.1; omega)
            exact Nat.le_trans h1 (Nat.add_le_add_left h2 60)
          have HN5 : Hid (0 < (dirF smD (n2 + 1) (sub (names L)[k] L)).2.length ∧ (dirF smD (n2 + 1) (sub (names L)[k] L)).2.length ≤ 1000 * 60 + 1) := by
            refine ⟨dirF_pos smD n2 _, Nat.le_trans (dirF_len smD _ _) (Nat.add_le_add_right (Nat.mul_le_mul HNN.out ?_) 1)⟩
            have := sub_len (names L)[k] L
            have := HK.out.1
            omega
          have HKV : Hid (∀ x, (Value.slice (some ⟨kg, 0, none⟩) (names L).length kc).ownBlock = some x → wr.heap[x]? = w1.heap[x]? ∧ u4.ownBlock ≠ some x ∧ u5.ownBlock ≠ some x ∧ x < wr.heap.size) := hkv
          generalize (names L)[k] = nm at *
          generalize dirF smD (n2 + 1) (sub nm L) = dr at *
          generalize (sub nm L).length = sbl at *
          clear hds hb hkv hnm hnl hss hlk hrow hcase hsub hkh IH
          go_wp2_with fail
          refine HP.out.mono ?_
          rintro e w2 ⟨mv, rfl, hmr, hb2⟩
          have HMR : Hid (w2.ownsRow wr.heap.size 9 1 mv dr.2.length (dr.2.map Value.string)) := hmr
          have HB3 : Hid (Below wr.heap.size wr w2) := hb2
          have HSu : Hid (Calls Tryz.prog 29 #[.string dr.1] w2 fun e w' => e = .returned (.string (smD dr.1)) ∧ Below w2.heap.size w2 w') := Sm_any dr.1 w2 (by have := HTS.out; omega) (HEB2.out.up hb2)
          clear hmr hb2
          go_wp2_with fail
          refine HSu.out.mono ?_
          rintro e w3 ⟨rfl, hb3⟩
          have hB3 : Below wr.heap.size wr w3 := HB3.out.trans (hb3.mono HB3.out.size)
          obtain ⟨G, C, w4, hap, hds4, hb4, hk4⟩ := (HD.out.below hB3).node (⟨nm.toArray⟩, 3, smD dr.1) (by have := HN3.out; omega)
          obtain ⟨gm, cm, rfl, hgm1, hgm2⟩ := HMR.out.form HN5.out.1
          have hm4 : w4.ownsRow wr.heap.size 9 1 (.slice (some ⟨gm, 0, none⟩) dr.2.length cm) dr.2.length (dr.2.map Value.string) := row_heap HMR.out fun x hx => by
            have e : gm = x := by injection hx
            subst e
            refine (hk4 gm (Nat.lt_of_lt_of_le hgm2 hb3.size) (fun e => ?_)).1.trans (hb3.block gm hgm2)
            have := (HD.out.nodes.lt gm e).2
            omega
          obtain ⟨G2, C2, w5, hap2, hds5, hb5, hk5⟩ := hds4.texts dr.2 hm4 HN5.out.1 (by
            have h1 := HN4.out
            have h2 := HN5.out.2
            omega)
          simp only at hap
          have HD5 : Hid (DS w.heap.size w.heap.size D g c L (nsK (n2 + 1) L (k + 1)) (bsK (n2 + 1) L (k + 1)) (.slice (some ⟨G, 0, none⟩) ((nsK (n2 + 1) L k).length + 1) C) (.slice (some ⟨G2, 0, none⟩) ((bsK (n2 + 1) L k).length + dr.2.length) C2) w5) := by
            show DS _ _ _ _ _ _ _ _ _ _ _
            rw [HN1.out, HN2.out]
            exact hds5
          have HB5 : Hid (Below w.heap.size w w5) := ((HB2.out.trans (hB3.mono hwz2)).trans hb4).trans hb5
          have HKV5 : Hid (∀ x, (Value.slice (some ⟨kg, 0, none⟩) (names L).length kc).ownBlock = some x → w5.heap[x]? = w1.heap[x]? ∧ (Value.slice (some ⟨G, 0, none⟩) ((nsK (n2 + 1) L k).length + 1) C).ownBlock ≠ some x ∧ (Value.slice (some ⟨G2, 0, none⟩) ((bsK (n2 + 1) L k).length + dr.2.length) C2).ownBlock ≠ some x ∧ x < w5.heap.size) := fun x hx => by
            obtain ⟨v1, v2, v3, v4⟩ := HKV.out x hx
            have x3 : x < w3.heap.size := Nat.lt_of_lt_of_le v4 hB3.size
            have x4 : x < w4.heap.size := Nat.lt_of_lt_of_le x3 hb4.size
            obtain ⟨a1, a2⟩ := hk4 x x3 v2
            obtain ⟨b1, b2⟩ := hk5 x x4 v3
            exact ⟨((b1.trans a1).trans (hB3.block x v4)).trans v1, fun e => a2 (by injection e), fun e => b2 (by injection e), Nat.lt_of_lt_of_le x4 hb5.size⟩
          generalize (nsK (n2 + 1) L k).length = nl at *
          generalize (bsK (n2 + 1) L k).length = bl at *
          clear hB3 hds4 hb4 hk4 hm4 hds5 hb5 hk5 hb3 HMR HSu HP HN1 HN2
          go_wp2
          exact ⟨⟨k + 1, by omega, by go_num, HD5.out, HB5.out, HKV5.out⟩, by simp [intOf]; omega⟩
        · have hki : ¬ (k : Int) < ((names L).length : Int) := by omega
          have hnsE : nsK n L k = nsF smD n L := by
            unfold nsK nsF
            rw [List.take_of_length_le (by omega)]
          have hbsE : bsK n L k = (tops L).map Fl.tx ++ (names L).flatMap fun m => (dirF smD n (sub m L)).2 := by
            unfold bsK
            rw [List.take_of_length_le (by omega)]
          rw [hnsE] at hds
          have hnlen : (nsF smD n L).length ≤ 60 := by have := nsF_len smD n L; have := HK.out.1; omega
          have HSF : Hid (Calls Tryz.prog 51 #[u4, .func (.func 52) #[] #[]] wr fun e w' => e = .returned (.tuple #[]) ∧ w'.ownsRow w.heap.size 87 3 u4 (nsF smD n L).length (ndCells (sortN (nsF smD n L))) ∧ wr.grownBy w' u4.ownBlock) := sortNodes hds.nodes (nsF_nodup smD n HK.out) (by omega)
          have HDE : Hid (DS w.heap.size w.heap.size D g c L (nsF smD n L) (bsK n L k) u4 u5 wr) := hds
          have HBE : Hid (bsK n L k = (tops L).map Fl.tx ++ (names L).flatMap fun m => (dirF smD n (sub m L)).2) := hbsE
          have HBL : Hid ((bsK n L k).length ≤ 60 + 60 * 60001) := by
            have h1 := bsK_len n L HNN.out HK.out.1 k
            have h2 : k * 60001 ≤ 60 * 60001 := Nat.mul_le_mul_right _ (by have := names_len L; have := HK.out.1; omega)
            exact Nat.le_trans h1 (Nat.add_le_add_left h2 60)
          have HOK : Hid (neC (sortN (nsF smD n L)) = 0) := nsF_ok smD smD_dig n HK.out
          clear hds hb hkv hnsE hbsE hnlen IH HKR
          go_wp2_with fail
          refine HSF.out.mono ?_
          rintro e w2 ⟨rfl, hrow2, hg2⟩
          have hds2 := HDE.out.turnN (ns' := sortN (nsF smD n L)) (by rw [(sortN_perm _).length_eq]; exact hrow2) hg2
          have hNo := Nodes_yes u4 (sortN (nsF smD n L)) w2 HOK.out (own_nodes hds2.nodes (neC_ok HOK.out).1.1 (fun x hx => by
            obtain ⟨o1, o2, o3, o4⟩ := (neC_ok HOK.out).1.2 x hx
            exact ⟨by omega, o2, by omega, by omega⟩))
          have HNo : Hid (Calls Tryz.prog 53 #[u4] w2 fun e w' => e = .returned (.tuple #[.string (txN (nsF smD n L)), .int .i64 0]) ∧ Below w2.heap.size w2 w') := hNo
          have HD2 : Hid (DS w.heap.size w.heap.size D g c L (sortN (nsF smD n L)) (bsK n L k) u4 u5 w2) := hds2
          have HB3 : Hid (Below w.heap.size w w2) := HB2.out.grown hg2 hwz2 fun x hx => (HDE.out.nodes.lt x hx).1
          clear hrow2 hg2 hds2 hNo HSF HDE
          go_wp2_with fail
          refine HNo.out.mono ?_
          rintro e w3 ⟨rfl, hb3⟩
          obtain ⟨G, C, w4, hap, hds4, hb4, _⟩ := (HD2.out.below hb3).text (txN (nsF smD n L)) (by have := HBL.out; omega)
          have HF : Hid (w4.ownsRow w.heap.size 9 1 (.slice (some ⟨G, 0, none⟩) ((bsK n L k).length + 1) C) (dirF smD (n + 1) L).2.length ((dirF smD (n + 1) L).2.map Value.string) ∧ Below w.heap.size w w4 ∧ (dirF smD (n + 1) L).1 = txN (nsF smD n L)) := by
            refine ⟨?_, (HB3.out.trans (hb3.mono HB3.out.size)).trans hb4, rfl⟩
            have e : (dirF smD (n + 1) L).2 = bsK n L k ++ [txN (nsF smD n L)] := by
              rw [HBE.out]
              rfl
            rw [e]
            exact hds4.blobs
          generalize (bsK n L k).length = bl at *
          clear hb3 hds4 hb4 HNo HD2 HB3
          go_wp2
          refine bodyPost_ret (v := .tuple #[.string (txN (nsF smD n L)), .slice (some ⟨G, 0, none⟩) (bl + 1) C]) (by simp [results, Tryz.results28, go_sem]) rfl ?_
          exact ⟨_, by rw [HF.out.2.2], HF.out.1, HF.out.2.1⟩

/-- Packing, at whatever tree. -/
theorem packed_any : ∀ (n : Nat), n ≤ 1000 → ∀ (ao : Option Addr) (cap : Nat) (L : List Fl) (w : World), okT L → (∀ f ∈ L, f.pa.size < n + 1) → IsFl w ao L → Env w → Calls Tryz.prog 28 #[.slice ao L.length cap] w (PkP (dirF smD (n + 1) L) w)
  | 0, hn, ao, cap, L, w, hok, hsz, hl, he => packed_step 0 (fun _ _ K _ hne _ hs _ _ => by
      exfalso
      obtain ⟨f, hf⟩ := List.exists_mem_of_ne_nil K hne
      have := hs f hf
      omega) ao cap L w hn hok hsz hl he
  | n + 1, hn, ao, cap, L, w, hok, hsz, hl, he => packed_step (n + 1) (fun ao cap K W _ hok hs hl he => packed_any n (by omega) ao cap K W hok hs hl he) ao cap L w hn hok hsz hl he
/-- How a tree is packed, and its texts. -/
def pkT1 (L : List Fl) : ByteArray × List ByteArray := dirF smD 101 L
theorem packed_tree (ao : Option Addr) (cap : Nat) (L : List Fl) (w : World) (hok : okT L) (hl : IsFl w ao L) (he : Env w) : Calls Tryz.prog 28 #[.slice ao L.length cap] w (PkP (pkT1 L) w) :=
  packed_any 100 (by decide) ao cap L w hok (fun f hf => by have := pathOk_size (flE_pa (hok.2.1 f hf)).1; omega) hl he
end Go.Proofs.YtkmlooepakinfaaGreatDoor
