/- What the digest's own sum of a text is. -/
import Derived.Test.YtagelkaenbdlaaaDoorMixed
import Derived.Test.YtagelkaenbdlaaaDoorEnding
namespace Go.Proofs.YtagelkaenbdlaaaDoor
open Go.RowKit

/-- The state behind so many blocks of a text. -/
def blocks (s : ByteArray) (ks : List Int) (q : S8) : Nat → S8
  | 0 => q
  | n + 1 => mixS (blocks s ks q n) (s.extract (64 * n) (64 * n + 64)) ks
def tailOf (s : ByteArray) : ByteArray := s.extract (s.size - s.size % 64) s.size ++ ⟨(endB s.size).toArray⟩
def sumS (s : ByteArray) (sq : S8) (ks : List Int) : S8 := blocks (tailOf s) ks (blocks s ks sq (s.size / 64)) ((tailOf s).size / 64)
def sumB (s : ByteArray) (sq : S8) (ks : List Int) : ByteArray := ⟨(dgs (sumS s sq ks).l).toArray⟩

theorem sub_str (s : ByteArray) (a b : Nat) (x y : Int) (hx : x = a) (hy : y = b) (h1 : a ≤ b) (h2 : b ≤ s.size) (W : World) : (Instr.slice 9 (.string s) (some (.int .i64 x)) (some (.int .i64 y)) none).run Tryd.prog W = .ok (.string (s.extract a b)) W := by
  subst hx hy
  have e1 : (a : Int) ≤ (b : Int) := by omega
  have e2 : (b : Int) ≤ (s.size : Int) := by omega
  simp [Instr.slice, Instr.sliceBounds, Instr.sliceBound, run_underlying Tryd.underlying9, asIntOf, h1, h2]
theorem sub_end (s : ByteArray) (a : Nat) (x : Int) (hx : x = a) (h1 : a ≤ s.size) (W : World) : (Instr.slice 9 (.string s) (some (.int .i64 x)) none none).run Tryd.prog W = .ok (.string (s.extract a s.size)) W := by
  subst hx
  simp [Instr.slice, Instr.sliceBounds, Instr.sliceBound, run_underlying Tryd.underlying9, asIntOf, h1]
theorem ArrAt.all8 {w : World} {b : Nat} {T : TypeId} {x0 x1 x2 x3 x4 x5 x6 x7 : Int} (h : ArrAt w b T [x0, x1, x2, x3, x4, x5, x6, x7]) (v0 v1 v2 v3 v4 v5 v6 v7 : Int) : ArrAt ((((((((w.setCell ⟨b, 0, none⟩ (.int .u32 v0)).setCell ⟨b, 1, none⟩ (.int .u32 v1)).setCell ⟨b, 2, none⟩ (.int .u32 v2)).setCell ⟨b, 3, none⟩ (.int .u32 v3)).setCell ⟨b, 4, none⟩ (.int .u32 v4)).setCell ⟨b, 5, none⟩ (.int .u32 v5)).setCell ⟨b, 6, none⟩ (.int .u32 v6)).setCell ⟨b, 7, none⟩ (.int .u32 v7)) b T [v0, v1, v2, v3, v4, v5, v6, v7] :=
  (((((((h.set 0 v0).set 1 v1).set 2 v2).set 3 v3).set 4 v4).set 5 v5).set 6 v6).set 7 v7

theorem ArrAt.lt {w : World} {b : Nat} {T : TypeId} {l : List Int} (h : ArrAt w b T l) : b < w.heap.size := (Array.getElem?_eq_some_iff.1 h).1
theorem endB_len (n : Nat) : (endB n).length = endQ n + 8 := by
  have : 1 ≤ endQ n := by unfold endQ; omega
  simp [endB, lenBs]
  omega
theorem tail_size (s : ByteArray) : (tailOf s).size = s.size % 64 + (endQ s.size + 8) := by
  have : (⟨(endB s.size).toArray⟩ : ByteArray).size = endQ s.size + 8 := by
    rw [← endB_len]
    rfl
  unfold tailOf
  rw [ByteArray.size_append, ByteArray.size_extract, this]
  omega
theorem ArrAt.is8 {w : World} {b : Nat} {T : TypeId} {x : S8} (h : ArrAt w b T x.l) : (w.cell? ⟨b, 0, none⟩ = some (.int .u32 x.a) ∧ w.cell? ⟨b, 1, none⟩ = some (.int .u32 x.b) ∧ w.cell? ⟨b, 2, none⟩ = some (.int .u32 x.c) ∧ w.cell? ⟨b, 3, none⟩ = some (.int .u32 x.d) ∧ w.cell? ⟨b, 4, none⟩ = some (.int .u32 x.e) ∧ w.cell? ⟨b, 5, none⟩ = some (.int .u32 x.f) ∧ w.cell? ⟨b, 6, none⟩ = some (.int .u32 x.g) ∧ w.cell? ⟨b, 7, none⟩ = some (.int .u32 x.h)) ∧
    w.frozen? ⟨b, 0, none⟩ = false ∧ w.frozen? ⟨b, 1, none⟩ = false ∧ w.frozen? ⟨b, 2, none⟩ = false ∧ w.frozen? ⟨b, 3, none⟩ = false ∧ w.frozen? ⟨b, 4, none⟩ = false ∧ w.frozen? ⟨b, 5, none⟩ = false ∧ w.frozen? ⟨b, 6, none⟩ = false ∧ w.frozen? ⟨b, 7, none⟩ = false :=
  ⟨⟨h.cell 0 (by simp [S8.l]), h.cell 1 (by simp [S8.l]), h.cell 2 (by simp [S8.l]), h.cell 3 (by simp [S8.l]), h.cell 4 (by simp [S8.l]), h.cell 5 (by simp [S8.l]), h.cell 6 (by simp [S8.l]), h.cell 7 (by simp [S8.l])⟩, h.fro 0, h.fro 1, h.fro 2, h.fro 3, h.fro 4, h.fro 5, h.fro 6, h.fro 7⟩

set_option maxHeartbeats 4000000 in
set_option maxRecDepth 100000 in
theorem sum_any (w : World) (s : ByteArray) (sq : S8) (ks : List Int) (hs : s.size ≤ 140737488355328) (hk : ks.length = 64) (hq : LaidAt 0 w sq.l) (hg : LaidAt 1 w ks) :
    Calls Tryd.prog 10 #[.string s] w fun e w' => e = .returned (.string (sumB s sq ks)) ∧ Below w.heap.size w w' := by
  have hz : 1 < w.heap.size := World.block_lt_of_cell? w ⟨1, 0, none⟩ (hg 0 (by omega))
  have HG : Hid (LaidAt 1 w ks) := hg
  have HQ : Hid (LaidAt 0 w sq.l) := hq
  clear hg hq
  obtain ⟨m, hm⟩ : ∃ m, m = s.size / 64 := ⟨_, rfl⟩
  have e0 : (s.size : Int) - (s.size : Int) % 64 = 64 * (m : Int) := by omega
  have hm1 : 64 * m ≤ s.size := by omega
  have HM : Hid (m = s.size / 64) := hm
  clear hm
  go_enter Tryd.func10, Tryd.ntmps10
  go_wp2_with fail
  refine (newState_any _ sq.l rfl HQ.out).mono ?_
  rintro e1 w1 ⟨rfl, hb1⟩
  have hz1 : w.heap.size ≤ w1.heap.size := hb1.size
  have HB1 : Hid (Below w.heap.size w w1) := hb1
  clear hb1
  simp only [arr, nums, S8.l, List.map]
  go_wp2
  go_loopw [5] (fun i wr => ∃ k : Nat, k ≤ m ∧ i = .int .i64 (64 * (k : Int)) ∧ ArrAt wr w1.heap.size 50 (blocks s ks sq k).l ∧ Below w1.heap.size w1 wr ∧ w1.heap.size < wr.heap.size) (fun i _ => 64 * m - (intOf i).toNat)
  case atStart => exact ⟨0, by omega, rfl, ArrAt.new w1 50 sq.l, (Below.refl _ _).alloc (Nat.le_refl _) _, by simp⟩
  case round =>
    obtain ⟨k, hkm, rfl, hA, hb, hsz⟩ := hrel
    have HA : Hid (ArrAt wr w1.heap.size 50 (blocks s ks sq k).l) := hA
    have HB : Hid (Below w1.heap.size w1 wr) := hb
    clear hA hb
    have c0 := HA.out.cell 0 (by simp [S8.l])
    have c1 := HA.out.cell 1 (by simp [S8.l])
    have c2 := HA.out.cell 2 (by simp [S8.l])
    have c3 := HA.out.cell 3 (by simp [S8.l])
    have c4 := HA.out.cell 4 (by simp [S8.l])
    have c5 := HA.out.cell 5 (by simp [S8.l])
    have c6 := HA.out.cell 6 (by simp [S8.l])
    have c7 := HA.out.cell 7 (by simp [S8.l])
    simp only [S8.l, List.getElem_cons_zero, List.getElem_cons_succ] at c0 c1 c2 c3 c4 c5 c6 c7
    have HGR : Hid (LaidAt 1 wr ks) := (HG.out.up HB1.out hz).up HB.out (by omega)
    by_cases hlt : k < m
    · have i1 : (64 * (k : Int)) < 64 * (m : Int) := by omega
      have i6 : IntKind.i64.wrap (64 * (k : Int) + 64) = 64 * (k : Int) + 64 := by rw [IntKind.wrap_i64]; omega
      have hsl : ∀ W : World, _ := sub_str s (64 * k) (64 * k + 64) (64 * (k : Int)) (64 * (k : Int) + 64) (by omega) (by omega) (by omega) (by omega)
      obtain ⟨x, hx⟩ : ∃ x, x = blocks s ks sq k := ⟨_, rfl⟩
      rw [← hx] at c0 c1 c2 c3 c4 c5 c6 c7
      have HX : Hid (x = blocks s ks sq k) := hx
      have HA2 : Hid (ArrAt wr w1.heap.size 50 x.l) := by show ArrAt _ _ _ _; rw [hx]; exact HA.out
      clear hx HA
      obtain ⟨t, ht⟩ : ∃ t, t = s.extract (64 * k) (64 * k + 64) := ⟨_, rfl⟩
      rw [← ht] at hsl
      have HT : Hid (t = s.extract (64 * k) (64 * k + 64)) := ht
      have ht64 : t.size = 64 := by rw [ht, ByteArray.size_extract]; omega
      clear ht
      have HMX : Hid (∀ W : World, LaidAt 1 W ks → _) := fun W => mixed_any W t x ks ht64 hk
      have HGD : Hid (LaidAt 1 wr.drew ks) := HGR.out
      have HAD : Hid (ArrAt wr.drew w1.heap.size 50 x.l) := HA2.out
      go_wp2_with fail
      go_region_with (go_at_call 30; refine (HMX.out wr.drew HGD.out).mono ?_; rintro e3 w3 ⟨rfl, hb3⟩; obtain ⟨⟨d0, d1, d2, d3, d4, d5, d6, d7⟩, k0, k1, k2, k3, k4, k5, k6, k7⟩ := (HAD.out.up hb3 hsz).is8)
      go_wp2
      have A4 := (HAD.out.up hb3 hsz).all8 (mixS x t ks).a (mixS x t ks).b (mixS x t ks).c (mixS x t ks).d (mixS x t ks).e (mixS x t ks).f (mixS x t ks).g (mixS x t ks).h
      refine ⟨⟨k + 1, by omega, by congr 1, ?_, below8 (HB.out.drew.trans (hb3.mono HB.out.size)) (Nat.le_refl _) _ _ _ _ _ _ _ _, A4.lt⟩, by simp [intOf]; omega⟩
      show ArrAt _ _ _ (mixS (blocks s ks sq k) (s.extract (64 * k) (64 * k + 64)) ks).l
      rw [← HX.out, ← HT.out]
      exact A4
    · obtain rfl : k = m := by omega
      clear c0 c1 c2 c3 c4 c5 c6 c7
      have hsl : ∀ W : World, _ := sub_end s (64 * k) (64 * (k : Int)) (by omega) (by omega)
      have hts := tail_size s
      have hq1 : 1 ≤ endQ s.size ∧ endQ s.size ≤ 64 ∧ (s.size % 64 + (endQ s.size + 8)) % 64 = 0 := by unfold endQ; omega
      have hadd : ∀ W : World, (Op.stringOp .add (s.extract (64 * k) s.size) ⟨(endB s.size).toArray⟩).run Tryd.prog W = .ok (.string (tailOf s)) W := fun W => by
        have e5 : (⟨(endB s.size).toArray⟩ : ByteArray).size = endQ s.size + 8 := by rw [← endB_len]; rfl
        refine (run_string_add_sum (w := W) _ _ (by rw [ByteArray.size_extract, e5]; omega)).trans ?_
        unfold tailOf
        rw [show s.size - s.size % 64 = 64 * k by omega]
      obtain ⟨tl, htl⟩ : ∃ tl, tl = tailOf s := ⟨_, rfl⟩
      rw [← htl] at hadd hts
      have HTL : Hid (tl = tailOf s) := htl
      have hts64 : tl.size % 64 = 0 ∧ tl.size ≤ 192 := by omega
      clear htl hts hq1
      have HE : Hid (∀ W : World, _) := fun W => ending_any W s.size hs
      obtain ⟨x, hx⟩ : ∃ x, x = blocks s ks sq k := ⟨_, rfl⟩
      rw [← hx] at HA
      have HX : Hid (x = blocks s ks sq (s.size / 64)) := by show _ = _; rw [hx, HM.out]
      clear hx
      go_wp2_with fail
      go_region_with (go_at_call 31; refine (HE.out wr.drew).mono ?_; rintro e4 w4 ⟨rfl, hb4⟩)
      have hz4 : w1.heap.size < w4.heap.size := Nat.lt_of_lt_of_le hsz hb4.size
      have A5 : Hid (ArrAt w4 w1.heap.size 50 x.l) := (show ArrAt wr.drew w1.heap.size 50 x.l from HA.out).up hb4 hsz
      have B5 : Hid (Below w1.heap.size w1 w4) := HB.out.drew.trans (hb4.mono HB.out.size)
      clear hb4 HA HB HGR hsl hadd HE
      obtain ⟨m2, hm2⟩ : ∃ m2, tl.size = 64 * m2 := ⟨tl.size / 64, by omega⟩
      have e6 : (tl.size : Int) = 64 * (m2 : Int) := by omega
      go_wp2
      go_loopw [7] (fun i wr => ∃ j : Nat, j ≤ m2 ∧ i = .int .i64 (64 * (j : Int)) ∧ ArrAt wr w1.heap.size 50 (blocks tl ks x j).l ∧ Below w1.heap.size w1 wr ∧ w1.heap.size < wr.heap.size) (fun i _ => 64 * m2 - (intOf i).toNat)
      case atStart => exact ⟨0, by omega, rfl, A5.out, B5.out, hz4⟩
      case round =>
        clear A5 B5 hz4 hsz
        obtain ⟨j, hj, rfl, hA, hb, hsz⟩ := hrel
        obtain ⟨z, hzz⟩ : ∃ z, z = blocks tl ks x j := ⟨_, rfl⟩
        rw [← hzz] at hA
        have HA : Hid (ArrAt wr w1.heap.size 50 z.l) := hA
        have HB : Hid (Below w1.heap.size w1 wr) := hb
        have HZ : Hid (z = blocks tl ks x j) := hzz
        clear hA hb hzz
        obtain ⟨⟨c0, c1, c2, c3, c4, c5, c6, c7⟩, _⟩ := HA.out.is8
        by_cases hlt : j < m2
        · have i1 : (64 * (j : Int)) < 64 * (m2 : Int) := by omega
          have i6 : IntKind.i64.wrap (64 * (j : Int) + 64) = 64 * (j : Int) + 64 := by rw [IntKind.wrap_i64]; omega
          have hsl : ∀ W : World, _ := sub_str tl (64 * j) (64 * j + 64) (64 * (j : Int)) (64 * (j : Int) + 64) (by omega) (by omega) (by omega) (by omega)
          obtain ⟨t, ht⟩ : ∃ t, t = tl.extract (64 * j) (64 * j + 64) := ⟨_, rfl⟩
          rw [← ht] at hsl
          have HT : Hid (t = tl.extract (64 * j) (64 * j + 64)) := ht
          have ht64 : t.size = 64 := by rw [ht, ByteArray.size_extract]; omega
          clear ht
          have HMX : Hid (∀ W : World, LaidAt 1 W ks → _) := fun W => mixed_any W t z ks ht64 hk
          have HGD : Hid (LaidAt 1 wr.drew ks) := LaidAt.up (LaidAt.up HG.out HB1.out hz) HB.out.drew (by omega)
          have HAD : Hid (ArrAt wr.drew w1.heap.size 50 z.l) := HA.out
          go_wp2_with fail
          go_region_with (go_at_call 30; refine (HMX.out wr.drew HGD.out).mono ?_; rintro e3 w3 ⟨rfl, hb3⟩; obtain ⟨⟨d0, d1, d2, d3, d4, d5, d6, d7⟩, k0, k1, k2, k3, k4, k5, k6, k7⟩ := (HAD.out.up hb3 hsz).is8)
          go_wp2
          have A4 := (HAD.out.up hb3 hsz).all8 (mixS z t ks).a (mixS z t ks).b (mixS z t ks).c (mixS z t ks).d (mixS z t ks).e (mixS z t ks).f (mixS z t ks).g (mixS z t ks).h
          refine ⟨⟨j + 1, by omega, by congr 1, ?_, below8 (HB.out.drew.trans (hb3.mono HB.out.size)) (Nat.le_refl _) _ _ _ _ _ _ _ _, A4.lt⟩, by simp [intOf]; omega⟩
          show ArrAt _ _ _ (mixS (blocks tl ks x j) (tl.extract (64 * j) (64 * j + 64)) ks).l
          rw [← HZ.out, ← HT.out]
          exact A4
        · obtain rfl : j = m2 := by omega
          have HS : Hid (sumS s sq ks = z) := by
            show _ = _
            unfold sumS
            rw [← HX.out, ← HTL.out, HZ.out, show tl.size / 64 = j by omega]
          go_wp2_with fail
          refine (digits_any _ z.a z.b z.c z.d z.e z.f z.g z.h).mono ?_
          rintro e5 w5 ⟨rfl, hb5⟩
          go_wp2
          go_ret
          refine ⟨?_, HB1.out.trans ((HB.out.trans (hb5.mono HB.out.size)).mono HB1.out.size)⟩
          unfold sumB
          rw [HS.out]
          rfl
end Go.Proofs.YtagelkaenbdlaaaDoor
