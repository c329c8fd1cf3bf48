/- What comes behind a text, to make whole blocks. -/
import Derived.Test.YtapiedeekbfpnaaGreatDoorRows
import Derived.Shelf.Strconv.Itoa3
import Derived.Maps.Ext
import Derived.Lib.ItoaNum
import Derived.Lib.SlMapMerge
import Derived.Deep.LoopGhost
import Derived.Test.YtapiedeekbfpnaaGreatDoorChecked
import Derived.Below
import Derived.ProofKit
import Derived.Lib.Builder
import Derived.Lib.AppendStr
import Derived.Lib.UnsafeStr
import Derived.Lib.Strings
import Derived.Lib.Slices
import Derived.Lib.Walk
import Derived.Lib.OthersKept
import Derived.Laws.Externs
import Derived.WalkKit
import Derived.WalkSpells
import Derived.WalkLawsBesides
import Derived.Test.YtapiedeekbfpnaaGreatDoorTr4
namespace Go.Proofs.YtapiedeekbfpnaaGreatDoor
open Go.RowKit

/-- How many bytes there are ahead of the length. -/
def endQ (n : Nat) : Nat := 64 - (n + 8) % 64
def lenB (n j : Nat) : UInt8 := UInt8.ofNat (8 * n / 2 ^ (56 - 8 * j) % 256)
def lenBs (n j : Nat) : List UInt8 := (List.range j).map (lenB n)
def endB (n : Nat) : List UInt8 := 128 :: (List.replicate (endQ n - 1) 0 ++ lenBs n 8)

set_option maxHeartbeats 4000000 in
set_option maxRecDepth 100000 in
theorem ending_any (w : World) (n : Nat) (hn : n ≤ 140737488355328) :
    Calls Tryz.prog 121 #[.int .i64 n] w fun e w' => e = .returned (.string ⟨(endB n).toArray⟩) ∧ Below w.heap.size w w' := by
  obtain ⟨i0, hi, hz0, hz1, hz2⟩ := info_p infB
  obtain ⟨q, hq⟩ : ∃ q, q = endQ n := ⟨_, rfl⟩
  have hq1 : 1 ≤ q ∧ q ≤ 64 := by rw [hq]; unfold endQ; omega
  have e1 : (63 : Int) - ((n : Int) + 8) % 64 = (q : Int) - 1 := by rw [hq]; unfold endQ; omega
  have hmk : (Instr.makeSlice 82 (.int .i64 (q : Int)) (.int .i64 ((q : Int) + 8))).run Tryz.prog w = .ok (.slice (some ⟨w.heap.size, 0, none⟩) q (q + 8)) (w.alloc (.cells (madeCells #[.int .u8 0] (q + 8)) 5)) := by
    have := run_make (P := Tryz.prog) w 82 5 i0 (.int .u8 0) Tryz.underlying82 hi hz0 .i64 .i64 (q : Int) ((q : Int) + 8) (by omega) (by omega) (by rw [hz2]; omega) (by omega)
    rw [hz1, show ((q : Int) + 8).toNat = q + 8 by omega, show (q : Int).toNat = q by omega, Nat.mul_one] at this
    exact this
  have ho : (w.alloc (.cells (madeCells #[.int .u8 0] (q + 8)) 5)).ownsRow w.heap.size 5 1 (.slice (some ⟨w.heap.size, 0, none⟩) q (q + 8)) q (bcs (List.replicate q 0)) := by
    refine ⟨by simp [bcs], Or.inr ⟨w.heap.size, q + 8, madeCells #[.int .u8 0] (q + 8), rfl, Nat.le_refl _, heap_alloc_new w _, by omega, by unfold maxLen; omega, by simp [madeCells], ?_⟩⟩
    rw [toList_madeCells_one]
    simp [bcs, List.take_replicate]
  have HO : Hid _ := ho
  have HQ : Hid (q = endQ n) := hq
  have e2 : (1 : Int) + ((q : Int) - 1) = q := by omega
  have c0 : (w.alloc (.cells (madeCells #[.int .u8 0] (q + 8)) 5)).cell? ⟨w.heap.size, 0, none⟩ = some (.int .u8 0) := by
    have := ho.cells rfl 0 (.int .u8 0) (by simp only [bcs, List.map_replicate]; rw [List.getElem?_replicate, if_pos (by omega)]; rfl)
    simpa [Addr.add] using this
  have f0 : (w.alloc (.cells (madeCells #[.int .u8 0] (q + 8)) 5)).frozen? ⟨w.heap.size, 0, none⟩ = false := ho.frozenAt 0
  have hq2 : (1 : Int) ≤ (q : Int) := by omega
  have hq3 : (q : Int) ≤ 64 := by omega
  have HO2 : Hid ((w.alloc (.cells ((madeCells #[.int .u8 0] (q + 8)).setIfInBounds 0 (.int .u8 128)) 5)).ownsRow w.heap.size 5 1 (.slice (some ⟨w.heap.size, 0, none⟩) q (q + 8)) (q + 0) (bcs (128 :: (List.replicate (q - 1) 0 ++ lenBs n 0)))) := by
    show World.ownsRow _ _ _ _ _ _ _
    refine ⟨by simp [bcs, lenBs]; omega, Or.inr ⟨w.heap.size, q + 8, _, rfl, Nat.le_refl _, heap_alloc_new w _, by omega, by unfold maxLen; omega, by simp [madeCells], ?_⟩⟩
    rw [Array.toList_setIfInBounds, toList_madeCells_one]
    obtain ⟨r, rfl⟩ : ∃ r, q = r + 1 := ⟨q - 1, by omega⟩
    rw [show r + 1 + 8 = (r + 8) + 1 by omega, List.replicate_succ, List.set_cons_zero, Nat.add_zero, Nat.mul_one, List.take_succ_cons, List.take_replicate, Nat.min_eq_left (by omega)]
    simp [bcs, lenBs]
  clear ho hq hq1 HO
  go_enter Tryz.func121, Tryz.ntmps121
  go_wp2
  go_loopw [4, 6] (fun v sh wr => ∃ j : Nat, j ≤ 8 ∧ sh = .int .i64 (56 - 8 * (j : Int)) ∧ wr.ownsRow w.heap.size 5 1 v (q + j) (bcs (128 :: (List.replicate (q - 1) 0 ++ lenBs n j))) ∧ Below w.heap.size w wr) (fun _ sh _ => (intOf sh + 8).toNat)
  case atStart => exact ⟨0, by omega, rfl, HO2.out, (Below.refl _ _).alloc (Nat.le_refl _) _⟩
  case round =>
    clear HO2
    obtain ⟨j, hj, rfl, hown, hb⟩ := hrel
    have HO : Hid (wr.ownsRow w.heap.size 5 1 u4 (q + j) (bcs (128 :: (List.replicate (q - 1) 0 ++ lenBs n j)))) := hown
    have HB : Hid (Below w.heap.size w wr) := hb
    clear hown hb c0 f0 hmk
    by_cases hjt : j < 8
    · obtain ⟨m, hm⟩ : ∃ m : Nat, m = 56 - 8 * j := ⟨_, rfl⟩
      have hm2 : (56 : Int) - 8 * (j : Int) = (m : Int) := by omega
      have hsr : Op.shift .shr .u64 ((n : Int) * 8) .i64 (m : Int) = pure (.int .u64 ((n : Int) * 8 / 2 ^ m)) := by
        rw [shift_shr _ _ _ _ (by omega) (by show (m : Int) ≤ 64; omega)]
        rfl
      have m0 : (0 : Int) ≤ (m : Int) := by omega
      have HC : Hid (((lenB n j).toNat : Int) = (n : Int) * 8 / 2 ^ m % 256) := by
        show _ = _
        unfold lenB
        rw [← hm, UInt8.toNat_ofNat', Nat.mod_mod]
        push_cast
        rw [Int.mul_comm]
      have HM : Hid (m = 56 - 8 * j) := hm
      clear hm
      go_wp2_with (at_builtin; refine wpList_append_own _ rfl _ _ 82 rfl w.heap.size 5 i0 (.int .u8 0) 1 1 Tryz.underlying82 hi hz0 hz1 hz2 rfl (by decide) _ _ _ rfl (HO.out.alloc _) ⟨_, 0, none⟩ 1 1 [.int .u8 ((n : Int) * 8 / 2 ^ m % 256)] rfl rfl ?c1 ?c2 ?c3 ?c4 ?c5 ?_)
      case c1 =>
        intro j u hj
        match j, hj with
        | 0, hj => simp at hj; subst hj; simp [Addr.add]
      case c2 => intro u hu; simp at hu; subst hu; rfl
      case c3 => unfold maxLen; omega
      case c4 => omega
      case c5 => have := HB.out.size; simp; omega
      intro v' w4 hown4 hg4 _
      have hrow : ∀ j, Value.ownBlock _ = some j → w.heap.size ≤ j := fun j hj => (HO.out.lt j hj).1
      have HB4 : Hid (Below w.heap.size w w4) := (HB.out.alloc HB.out.size _).grown hg4 (by have := HB.out.size; simp; omega) hrow
      have HO4 : Hid (w4.ownsRow w.heap.size 5 1 v' (q + j + 1) (bcs (128 :: (List.replicate (q - 1) 0 ++ lenBs n j)) ++ [.int .u8 ((n : Int) * 8 / 2 ^ m % 256)])) := hown4
      clear hown4 hg4 hrow
      go_wp2
      refine ⟨⟨j + 1, by omega, ?_, ?_, HB4.out⟩, by simp [intOf]; omega⟩
      · have := HM.out
        congr 1
        omega
      · have e1 : bcs (128 :: (List.replicate (q - 1) 0 ++ lenBs n (j + 1))) = bcs (128 :: (List.replicate (q - 1) 0 ++ lenBs n j)) ++ [.int .u8 ((n : Int) * 8 / 2 ^ m % 256)] := by
          rw [← HC.out]
          simp [bcs, lenBs, List.range_succ]
        rw [e1]
        exact HO4.out
    · obtain rfl : j = 8 := by omega
      obtain ⟨l, hl⟩ : ∃ l : List UInt8, l = 128 :: (List.replicate (q - 1) 0 ++ lenBs n 8) := ⟨_, rfl⟩
      have HL : Hid (endB n = l) := by show _ = _; unfold endB; rw [← HQ.out, hl]
      have ho := HO.out
      rw [← hl] at ho
      have h64 : l.length = q + 8 := by
        have := ho.1
        simpa [bcs] using this
      obtain ⟨g, cap, rfl, hcells⟩ : ∃ g cap, u4 = .slice (some ⟨g, 0, none⟩) (q + 8) cap ∧ ∀ j (hj : j < l.length), wr.cell? ((⟨g, 0, none⟩ : Addr).add j) = some (.int .u8 (l[j].toNat : Int)) := by
        have hc := fun (g : Nat) (hg : u4.ownBlock = some g) => ho.cells hg
        rcases ho.2 with ⟨_, h⟩ | ⟨g, cap, cur, hv, _⟩
        · omega
        · exact ⟨g, cap, hv, fun j hj => hc g (by rw [hv]; rfl) j _ (by simp [bcs, hj])⟩
      have hcv : (convert 82 9 (.slice (some ⟨g, 0, none⟩) (q + 8) cap)).run Tryz.prog wr = .ok (.string ⟨l.toArray⟩) wr := by
        rw [show q + 8 = l.length from h64.symm]
        exact run_convert_bytes_back wr 82 9 5 ⟨g, 0, none⟩ cap l Tryz.underlying82 Tryz.underlying5 Tryz.underlying9 hcells
      clear ho hcells h64 HO hl
      go_wp2
      go_ret
      exact ⟨by rw [HL.out]; rfl, HB.out⟩
end Go.Proofs.YtapiedeekbfpnaaGreatDoor

/- What the digest's own sum of a text is. -/
namespace Go.Proofs.YtapiedeekbfpnaaGreatDoor
open Go.RowKit

/-- The state behind so many blocks of a text. -/
def blocks (s : ByteArray) (ks : List Int) (q : S8) : Nat → S8
  | 0 => q
  | n + 1 => mixS (blocks s ks q n) (s.extract (64 * n) (64 * n + 64)) ks
def tailOf (s : ByteArray) : ByteArray := s.extract (s.size - s.size % 64) s.size ++ ⟨(endB s.size).toArray⟩
def sumS (s : ByteArray) (sq : S8) (ks : List Int) : S8 := blocks (tailOf s) ks (blocks s ks sq (s.size / 64)) ((tailOf s).size / 64)
def sumB (s : ByteArray) (sq : S8) (ks : List Int) : ByteArray := ⟨(dgs (sumS s sq ks).l).toArray⟩

theorem sub_str (s : ByteArray) (a b : Nat) (x y : Int) (hx : x = a) (hy : y = b) (h1 : a ≤ b) (h2 : b ≤ s.size) (W : World) : (Instr.slice 9 (.string s) (some (.int .i64 x)) (some (.int .i64 y)) none).run Tryz.prog W = .ok (.string (s.extract a b)) W := by
  subst hx hy
  have e1 : (a : Int) ≤ (b : Int) := by omega
  have e2 : (b : Int) ≤ (s.size : Int) := by omega
  simp [Instr.slice, Instr.sliceBounds, Instr.sliceBound, run_underlying Tryz.underlying9, asIntOf, h1, h2]
theorem sub_end (s : ByteArray) (a : Nat) (x : Int) (hx : x = a) (h1 : a ≤ s.size) (W : World) : (Instr.slice 9 (.string s) (some (.int .i64 x)) none none).run Tryz.prog W = .ok (.string (s.extract a s.size)) W := by
  subst hx
  simp [Instr.slice, Instr.sliceBounds, Instr.sliceBound, run_underlying Tryz.underlying9, asIntOf, h1]
theorem ArrAt.all8 {w : World} {b : Nat} {T : TypeId} {x0 x1 x2 x3 x4 x5 x6 x7 : Int} (h : ArrAt w b T [x0, x1, x2, x3, x4, x5, x6, x7]) (v0 v1 v2 v3 v4 v5 v6 v7 : Int) : ArrAt ((((((((w.setCell ⟨b, 0, none⟩ (.int .u32 v0)).setCell ⟨b, 1, none⟩ (.int .u32 v1)).setCell ⟨b, 2, none⟩ (.int .u32 v2)).setCell ⟨b, 3, none⟩ (.int .u32 v3)).setCell ⟨b, 4, none⟩ (.int .u32 v4)).setCell ⟨b, 5, none⟩ (.int .u32 v5)).setCell ⟨b, 6, none⟩ (.int .u32 v6)).setCell ⟨b, 7, none⟩ (.int .u32 v7)) b T [v0, v1, v2, v3, v4, v5, v6, v7] :=
  (((((((h.set 0 v0).set 1 v1).set 2 v2).set 3 v3).set 4 v4).set 5 v5).set 6 v6).set 7 v7

theorem ArrAt.lt {w : World} {b : Nat} {T : TypeId} {l : List Int} (h : ArrAt w b T l) : b < w.heap.size := (Array.getElem?_eq_some_iff.1 h).1
theorem endB_len (n : Nat) : (endB n).length = endQ n + 8 := by
  have : 1 ≤ endQ n := by unfold endQ; omega
  simp [endB, lenBs]
  omega
theorem tail_size (s : ByteArray) : (tailOf s).size = s.size % 64 + (endQ s.size + 8) := by
  have : (⟨(endB s.size).toArray⟩ : ByteArray).size = endQ s.size + 8 := by
    rw [← endB_len]
    rfl
  unfold tailOf
  rw [ByteArray.size_append, ByteArray.size_extract, this]
  omega
theorem ArrAt.is8 {w : World} {b : Nat} {T : TypeId} {x : S8} (h : ArrAt w b T x.l) : (w.cell? ⟨b, 0, none⟩ = some (.int .u32 x.a) ∧ w.cell? ⟨b, 1, none⟩ = some (.int .u32 x.b) ∧ w.cell? ⟨b, 2, none⟩ = some (.int .u32 x.c) ∧ w.cell? ⟨b, 3, none⟩ = some (.int .u32 x.d) ∧ w.cell? ⟨b, 4, none⟩ = some (.int .u32 x.e) ∧ w.cell? ⟨b, 5, none⟩ = some (.int .u32 x.f) ∧ w.cell? ⟨b, 6, none⟩ = some (.int .u32 x.g) ∧ w.cell? ⟨b, 7, none⟩ = some (.int .u32 x.h)) ∧
    w.frozen? ⟨b, 0, none⟩ = false ∧ w.frozen? ⟨b, 1, none⟩ = false ∧ w.frozen? ⟨b, 2, none⟩ = false ∧ w.frozen? ⟨b, 3, none⟩ = false ∧ w.frozen? ⟨b, 4, none⟩ = false ∧ w.frozen? ⟨b, 5, none⟩ = false ∧ w.frozen? ⟨b, 6, none⟩ = false ∧ w.frozen? ⟨b, 7, none⟩ = false :=
  ⟨⟨h.cell 0 (by simp [S8.l]), h.cell 1 (by simp [S8.l]), h.cell 2 (by simp [S8.l]), h.cell 3 (by simp [S8.l]), h.cell 4 (by simp [S8.l]), h.cell 5 (by simp [S8.l]), h.cell 6 (by simp [S8.l]), h.cell 7 (by simp [S8.l])⟩, h.fro 0, h.fro 1, h.fro 2, h.fro 3, h.fro 4, h.fro 5, h.fro 6, h.fro 7⟩

set_option maxHeartbeats 4000000 in
set_option maxRecDepth 100000 in
theorem sum_any (w : World) (s : ByteArray) (sq : S8) (ks : List Int) (hs : s.size ≤ 140737488355328) (hk : ks.length = 64) (hq : LaidAt 0 w sq.l) (hg : LaidAt 1 w ks) :
    Calls Tryz.prog 79 #[.string s] w fun e w' => e = .returned (.string (sumB s sq ks)) ∧ Below w.heap.size w w' := by
  have hz : 1 < w.heap.size := World.block_lt_of_cell? w ⟨1, 0, none⟩ (hg 0 (by omega))
  have HG : Hid (LaidAt 1 w ks) := hg
  have HQ : Hid (LaidAt 0 w sq.l) := hq
  clear hg hq
  obtain ⟨m, hm⟩ : ∃ m, m = s.size / 64 := ⟨_, rfl⟩
  have e0 : (s.size : Int) - (s.size : Int) % 64 = 64 * (m : Int) := by omega
  have hm1 : 64 * m ≤ s.size := by omega
  have HM : Hid (m = s.size / 64) := hm
  clear hm
  go_enter Tryz.func79, Tryz.ntmps79
  go_wp2_with fail
  refine (newState_any _ sq.l rfl HQ.out).mono ?_
  rintro e1 w1 ⟨rfl, hb1⟩
  have hz1 : w.heap.size ≤ w1.heap.size := hb1.size
  have HB1 : Hid (Below w.heap.size w w1) := hb1
  clear hb1
  simp only [arr, nums, S8.l, List.map]
  go_wp2
  go_loopw [5] (fun i wr => ∃ k : Nat, k ≤ m ∧ i = .int .i64 (64 * (k : Int)) ∧ ArrAt wr w1.heap.size 127 (blocks s ks sq k).l ∧ Below w1.heap.size w1 wr ∧ w1.heap.size < wr.heap.size) (fun i _ => 64 * m - (intOf i).toNat)
  case atStart => exact ⟨0, by omega, rfl, ArrAt.new w1 127 sq.l, (Below.refl _ _).alloc (Nat.le_refl _) _, by simp⟩
  case round =>
    obtain ⟨k, hkm, rfl, hA, hb, hsz⟩ := hrel
    have HA : Hid (ArrAt wr w1.heap.size 127 (blocks s ks sq k).l) := hA
    have HB : Hid (Below w1.heap.size w1 wr) := hb
    clear hA hb
    have c0 := HA.out.cell 0 (by simp [S8.l])
    have c1 := HA.out.cell 1 (by simp [S8.l])
    have c2 := HA.out.cell 2 (by simp [S8.l])
    have c3 := HA.out.cell 3 (by simp [S8.l])
    have c4 := HA.out.cell 4 (by simp [S8.l])
    have c5 := HA.out.cell 5 (by simp [S8.l])
    have c6 := HA.out.cell 6 (by simp [S8.l])
    have c7 := HA.out.cell 7 (by simp [S8.l])
    simp only [S8.l, List.getElem_cons_zero, List.getElem_cons_succ] at c0 c1 c2 c3 c4 c5 c6 c7
    have HGR : Hid (LaidAt 1 wr ks) := (HG.out.up HB1.out hz).up HB.out (by omega)
    by_cases hlt : k < m
    · have i1 : (64 * (k : Int)) < 64 * (m : Int) := by omega
      have i6 : IntKind.i64.wrap (64 * (k : Int) + 64) = 64 * (k : Int) + 64 := by rw [IntKind.wrap_i64]; omega
      have hsl : ∀ W : World, _ := sub_str s (64 * k) (64 * k + 64) (64 * (k : Int)) (64 * (k : Int) + 64) (by omega) (by omega) (by omega) (by omega)
      obtain ⟨x, hx⟩ : ∃ x, x = blocks s ks sq k := ⟨_, rfl⟩
      rw [← hx] at c0 c1 c2 c3 c4 c5 c6 c7
      have HX : Hid (x = blocks s ks sq k) := hx
      have HA2 : Hid (ArrAt wr w1.heap.size 127 x.l) := by show ArrAt _ _ _ _; rw [hx]; exact HA.out
      clear hx HA
      obtain ⟨t, ht⟩ : ∃ t, t = s.extract (64 * k) (64 * k + 64) := ⟨_, rfl⟩
      rw [← ht] at hsl
      have HT : Hid (t = s.extract (64 * k) (64 * k + 64)) := ht
      have ht64 : t.size = 64 := by rw [ht, ByteArray.size_extract]; omega
      clear ht
      have HMX : Hid (∀ W : World, LaidAt 1 W ks → _) := fun W => mixed_any W t x ks ht64 hk
      have HGD : Hid (LaidAt 1 wr.drew ks) := HGR.out
      have HAD : Hid (ArrAt wr.drew w1.heap.size 127 x.l) := HA2.out
      go_wp2_with fail
      go_region_with (go_at_call 120; refine (HMX.out wr.drew HGD.out).mono ?_; rintro e3 w3 ⟨rfl, hb3⟩; obtain ⟨⟨d0, d1, d2, d3, d4, d5, d6, d7⟩, k0, k1, k2, k3, k4, k5, k6, k7⟩ := (HAD.out.up hb3 hsz).is8)
      go_wp2
      have A4 := (HAD.out.up hb3 hsz).all8 (mixS x t ks).a (mixS x t ks).b (mixS x t ks).c (mixS x t ks).d (mixS x t ks).e (mixS x t ks).f (mixS x t ks).g (mixS x t ks).h
      refine ⟨⟨k + 1, by omega, by congr 1, ?_, below8 (HB.out.drew.trans (hb3.mono HB.out.size)) (Nat.le_refl _) _ _ _ _ _ _ _ _, A4.lt⟩, by simp [intOf]; omega⟩
      show ArrAt _ _ _ (mixS (blocks s ks sq k) (s.extract (64 * k) (64 * k + 64)) ks).l
      rw [← HX.out, ← HT.out]
      exact A4
    · obtain rfl : k = m := by omega
      clear c0 c1 c2 c3 c4 c5 c6 c7
      have hsl : ∀ W : World, _ := sub_end s (64 * k) (64 * (k : Int)) (by omega) (by omega)
      have hts := tail_size s
      have hq1 : 1 ≤ endQ s.size ∧ endQ s.size ≤ 64 ∧ (s.size % 64 + (endQ s.size + 8)) % 64 = 0 := by unfold endQ; omega
      have hadd : ∀ W : World, (Op.stringOp .add (s.extract (64 * k) s.size) ⟨(endB s.size).toArray⟩).run Tryz.prog W = .ok (.string (tailOf s)) W := fun W => by
        have e5 : (⟨(endB s.size).toArray⟩ : ByteArray).size = endQ s.size + 8 := by rw [← endB_len]; rfl
        refine (run_string_add_sum (w := W) _ _ (by rw [ByteArray.size_extract, e5]; omega)).trans ?_
        unfold tailOf
        rw [show s.size - s.size % 64 = 64 * k by omega]
      obtain ⟨tl, htl⟩ : ∃ tl, tl = tailOf s := ⟨_, rfl⟩
      rw [← htl] at hadd hts
      have HTL : Hid (tl = tailOf s) := htl
      have hts64 : tl.size % 64 = 0 ∧ tl.size ≤ 192 := by omega
      clear htl hts hq1
      have HE : Hid (∀ W : World, _) := fun W => ending_any W s.size hs
      obtain ⟨x, hx⟩ : ∃ x, x = blocks s ks sq k := ⟨_, rfl⟩
      rw [← hx] at HA
      have HX : Hid (x = blocks s ks sq (s.size / 64)) := by show _ = _; rw [hx, HM.out]
      clear hx
      go_wp2_with fail
      go_region_with (go_at_call 121; refine (HE.out wr.drew).mono ?_; rintro e4 w4 ⟨rfl, hb4⟩)
      have hz4 : w1.heap.size < w4.heap.size := Nat.lt_of_lt_of_le hsz hb4.size
      have A5 : Hid (ArrAt w4 w1.heap.size 127 x.l) := (show ArrAt wr.drew w1.heap.size 127 x.l from HA.out).up hb4 hsz
      have B5 : Hid (Below w1.heap.size w1 w4) := HB.out.drew.trans (hb4.mono HB.out.size)
      clear hb4 HA HB HGR hsl hadd HE
      obtain ⟨m2, hm2⟩ : ∃ m2, tl.size = 64 * m2 := ⟨tl.size / 64, by omega⟩
      have e6 : (tl.size : Int) = 64 * (m2 : Int) := by omega
      go_wp2
      go_loopw [7] (fun i wr => ∃ j : Nat, j ≤ m2 ∧ i = .int .i64 (64 * (j : Int)) ∧ ArrAt wr w1.heap.size 127 (blocks tl ks x j).l ∧ Below w1.heap.size w1 wr ∧ w1.heap.size < wr.heap.size) (fun i _ => 64 * m2 - (intOf i).toNat)
      case atStart => exact ⟨0, by omega, rfl, A5.out, B5.out, hz4⟩
      case round =>
        clear A5 B5 hz4 hsz
        obtain ⟨j, hj, rfl, hA, hb, hsz⟩ := hrel
        obtain ⟨z, hzz⟩ : ∃ z, z = blocks tl ks x j := ⟨_, rfl⟩
        rw [← hzz] at hA
        have HA : Hid (ArrAt wr w1.heap.size 127 z.l) := hA
        have HB : Hid (Below w1.heap.size w1 wr) := hb
        have HZ : Hid (z = blocks tl ks x j) := hzz
        clear hA hb hzz
        obtain ⟨⟨c0, c1, c2, c3, c4, c5, c6, c7⟩, _⟩ := HA.out.is8
        by_cases hlt : j < m2
        · have i1 : (64 * (j : Int)) < 64 * (m2 : Int) := by omega
          have i6 : IntKind.i64.wrap (64 * (j : Int) + 64) = 64 * (j : Int) + 64 := by rw [IntKind.wrap_i64]; omega
          have hsl : ∀ W : World, _ := sub_str tl (64 * j) (64 * j + 64) (64 * (j : Int)) (64 * (j : Int) + 64) (by omega) (by omega) (by omega) (by omega)
          obtain ⟨t, ht⟩ : ∃ t, t = tl.extract (64 * j) (64 * j + 64) := ⟨_, rfl⟩
          rw [← ht] at hsl
          have HT : Hid (t = tl.extract (64 * j) (64 * j + 64)) := ht
          have ht64 : t.size = 64 := by rw [ht, ByteArray.size_extract]; omega
          clear ht
          have HMX : Hid (∀ W : World, LaidAt 1 W ks → _) := fun W => mixed_any W t z ks ht64 hk
          have HGD : Hid (LaidAt 1 wr.drew ks) := LaidAt.up (LaidAt.up HG.out HB1.out hz) HB.out.drew (by omega)
          have HAD : Hid (ArrAt wr.drew w1.heap.size 127 z.l) := HA.out
          go_wp2_with fail
          go_region_with (go_at_call 120; refine (HMX.out wr.drew HGD.out).mono ?_; rintro e3 w3 ⟨rfl, hb3⟩; obtain ⟨⟨d0, d1, d2, d3, d4, d5, d6, d7⟩, k0, k1, k2, k3, k4, k5, k6, k7⟩ := (HAD.out.up hb3 hsz).is8)
          go_wp2
          have A4 := (HAD.out.up hb3 hsz).all8 (mixS z t ks).a (mixS z t ks).b (mixS z t ks).c (mixS z t ks).d (mixS z t ks).e (mixS z t ks).f (mixS z t ks).g (mixS z t ks).h
          refine ⟨⟨j + 1, by omega, by congr 1, ?_, below8 (HB.out.drew.trans (hb3.mono HB.out.size)) (Nat.le_refl _) _ _ _ _ _ _ _ _, A4.lt⟩, by simp [intOf]; omega⟩
          show ArrAt _ _ _ (mixS (blocks tl ks x j) (tl.extract (64 * j) (64 * j + 64)) ks).l
          rw [← HZ.out, ← HT.out]
          exact A4
        · obtain rfl : j = m2 := by omega
          have HS : Hid (sumS s sq ks = z) := by
            show _ = _
            unfold sumS
            rw [← HX.out, ← HTL.out, HZ.out, show tl.size / 64 = j by omega]
          go_wp2_with fail
          refine (digits_any _ z.a z.b z.c z.d z.e z.f z.g z.h).mono ?_
          rintro e5 w5 ⟨rfl, hb5⟩
          go_wp2
          go_ret
          refine ⟨?_, HB1.out.trans ((HB.out.trans (hb5.mono HB.out.size)).mono HB1.out.size)⟩
          unfold sumB
          rw [HS.out]
          rfl
end Go.Proofs.YtapiedeekbfpnaaGreatDoor

/- The digest's laid numbers, and what it sums to of one text. -/
namespace Go.Proofs.YtapiedeekbfpnaaGreatDoor
open Go.RowKit

def litInts : DataW Unit → List Int
  | .agg l => l.map fun d => match d with | .lit (.int _ n) => n | _ => 0
  | _ => []
def sqL : List Int := litInts Rows.laid_foundry_digest_squareRoots
def cuL : List Int := litInts Rows.laid_foundry_digest_cubeRoots
theorem sqL_eq : (Rows.laid_foundry_digest_squareRoots : DataW Unit) = .agg (sqL.map fun n => .lit (.int .u32 n)) := by kernel_rfl
theorem cuL_eq : (Rows.laid_foundry_digest_cubeRoots : DataW Unit) = .agg (cuL.map fun n => .lit (.int .u32 n)) := by kernel_rfl
theorem sqL_len : sqL.length = 8 := by kernel_rfl
theorem cuL_len : cuL.length = 64 := by kernel_rfl
def sq8 : S8 := ⟨sqL.getD 0 0, sqL.getD 1 0, sqL.getD 2 0, sqL.getD 3 0, sqL.getD 4 0, sqL.getD 5 0, sqL.getD 6 0, sqL.getD 7 0⟩
theorem sq8_l : sq8.l = sqL := by kernel_rfl

/-- The block of "abc", its words. -/
def abcB : ByteArray := ⟨#[97, 98, 99, 128, 0, 0, 0, 0, 0, 0, 0, 0, 0, 0, 0, 0, 0, 0, 0, 0, 0, 0, 0, 0, 0, 0, 0, 0, 0, 0, 0, 0, 0, 0, 0, 0, 0, 0, 0, 0, 0, 0, 0, 0, 0, 0, 0, 0, 0, 0, 0, 0, 0, 0, 0, 0, 0, 0, 0, 0, 0, 0, 0, 24]⟩
def abcW : List Int := [1633837952, 0, 0, 0, 0, 0, 0, 0, 0, 0, 0, 0, 0, 0, 0, 24, 1633837952, 983040, 2108187653, 1610613702, 1050508152, 25426944, 316456923, 3806512014, 3357629466, 3073800610, 3854317833, 845560923, 2636160359, 3968280267, 1881225380, 3552024379, 2482346367, 996719219, 2952069057, 4043988066, 176896406, 1924104970, 2483675966, 610538786, 2672279444, 4037431130, 1042573945, 657669027, 206005234, 2215296807, 2049510749, 106709978, 4215179723, 3430291419, 3118885940, 2845390439, 2226839261, 3256115900, 344409900, 2987358873, 4015503821, 3957764664, 2682456414, 2025622859, 2755645205, 1720397816, 4004225740, 313650667]
theorem abcW_len : abcW.length = 64 := by kernel_rfl
theorem abcW_ok : ((List.range 64).all fun i => wnext abcB (abcW.take i) i == abcW.getD i 0) = true := by kernel_rfl
theorem ws_of (s : ByteArray) (L : List Int) (n : Nat) (hn : n ≤ L.length) (h : ∀ i, i < n → wnext s (L.take i) i = L.getD i 0) : ws s n = L.take n := by
  induction n with
  | zero => rfl
  | succ n ih =>
    show ws s n ++ [wnext s (ws s n) n] = _
    rw [ih (by omega) fun i hi => h i (by omega), h n (by omega), List.take_add_one, List.getD_eq_getElem?_getD, List.getElem?_eq_getElem (by omega)]
    rfl
theorem abc_ws : ws abcB 64 = abcW := by
  have h := ws_of abcB abcW 64 (by rw [abcW_len]; decide) fun i hi => by simpa using List.all_eq_true.1 abcW_ok i (List.mem_range.2 hi)
  rw [h, List.take_of_length_le (by rw [abcW_len]; decide)]

/-- A number is reckoned before it is handed on. -/
def force {α : Type} (n : Nat) (k : Nat → α) : α := match n with | 0 => k 0 | m + 1 => k (m + 1)
theorem force_eq {α : Type} (n : Nat) (k : Nat → α) : force n k = k n := by cases n <;> rfl
def forceI {α : Type} (x : Int) (k : Int → α) : α := match x with | .ofNat n => force n fun m => k (.ofNat m) | .negSucc n => k (.negSucc n)
theorem forceI_eq {α : Type} (x : Int) (k : Int → α) : forceI x k = k x := by
  cases x with
  | ofNat n =>
    show force n (fun m => k (.ofNat m)) = _
    rw [force_eq]
  | negSucc n => rfl
def goF : List (Int × Int) → S8 → S8
  | [], s => s
  | p :: r, s => forceI (s.step p.1 p.2).a fun a => forceI (s.step p.1 p.2).e fun e => goF r ⟨a, s.a, s.b, s.c, e, s.e, s.f, s.g⟩
theorem goF_eq (l : List (Int × Int)) (s : S8) : goF l s = l.foldl (fun s p => s.step p.1 p.2) s := by
  induction l generalizing s with
  | nil => rfl
  | cons p r ih =>
    rw [goF, forceI_eq, forceI_eq, ih, List.foldl_cons]
    rfl
theorem rounds8_fold (wl ks : List Int) (s : S8) (n : Nat) (h1 : n ≤ wl.length) (h2 : n ≤ ks.length) : rounds8 wl ks n s = ((ks.zip wl).take n).foldl (fun s p => s.step p.1 p.2) s := by
  induction n with
  | zero => rfl
  | succ n ih =>
    have h3 : n < (ks.zip wl).length := by rw [List.length_zip]; omega
    rw [rounds8, ih (by omega) (by omega), List.take_add_one, List.foldl_append, List.getElem?_eq_getElem h3]
    simp [List.getElem_zip, List.getD_eq_getElem?_getD, List.getElem?_eq_getElem (show n < wl.length by omega), List.getElem?_eq_getElem (show n < ks.length by omega)]
def abcS : S8 := goF (cuL.zip abcW) sq8
theorem abc_rounds : rounds8 abcW cuL 64 sq8 = abcS := by
  rw [rounds8_fold _ _ _ _ (by rw [abcW_len]; decide) (by rw [cuL_len]; decide), List.take_of_length_le (by rw [List.length_zip, abcW_len, cuL_len]; decide), ← goF_eq]
  rfl
def abcH : S8 := ⟨3128432319, 2399260650, 1094795486, 1571693091, 2953011619, 2518121116, 3021012833, 4060091821⟩
theorem abc_mix : mixS sq8 abcB cuL = abcH := by
  unfold mixS
  rw [abc_ws, abc_rounds]
  kernel_rfl
theorem abc_sum : sumB ⟨#[97, 98, 99]⟩ sq8 cuL = ⟨#[98, 97, 55, 56, 49, 54, 98, 102, 56, 102, 48, 49, 99, 102, 101, 97, 52, 49, 52, 49, 52, 48, 100, 101, 53, 100, 97, 101, 50, 50, 50, 51, 98, 48, 48, 51, 54, 49, 97, 51, 57, 54, 49, 55, 55, 97, 57, 99, 98, 52, 49, 48, 102, 102, 54, 49, 102, 50, 48, 48, 49, 53, 97, 100]⟩ := by
  have h1 : (tailOf ⟨#[97, 98, 99]⟩).extract (64 * 0) (64 * 0 + 64) = abcB := by kernel_rfl
  have h2 : (tailOf ⟨#[97, 98, 99]⟩).size / 64 = 1 := by kernel_rfl
  have h3 : (⟨#[97, 98, 99]⟩ : ByteArray).size / 64 = 0 := rfl
  unfold sumB sumS
  rw [h2, h3]
  show ByteArray.mk (dgs (mixS (blocks ⟨#[97, 98, 99]⟩ cuL sq8 0) ((tailOf ⟨#[97, 98, 99]⟩).extract (64 * 0) (64 * 0 + 64)) cuL).l).toArray = _
  rw [h1]
  show ByteArray.mk (dgs (mixS sq8 abcB cuL).l).toArray = _
  rw [abc_mix]
  kernel_rfl
end Go.Proofs.YtapiedeekbfpnaaGreatDoor

/- What stands ready in the world where a command runs: the digest's numbers, the library's own number, and its table of powers of ten. -/
namespace Go.Proofs.YtapiedeekbfpnaaGreatDoor
open Go.RowKit Go.Shelf

/-- The two variables lie as they were laid. -/
def Roots (w : World) : Prop := LaidAt 0 w sq8.l ∧ LaidAt 1 w cuL
theorem Roots.lt {w : World} (h : Roots w) : 0 < w.heap.size ∧ 1 < w.heap.size :=
  ⟨World.block_lt_of_cell? w ⟨0, 0, none⟩ (h.1 0 (by decide)), World.block_lt_of_cell? w ⟨1, 0, none⟩ (h.2 0 (by rw [cuL_len]; decide))⟩
theorem Roots.up {w w' : World} (h : Roots w) (hb : Below w.heap.size w w') : Roots w' := ⟨h.1.up hb h.lt.1, h.2.up hb h.lt.2⟩
theorem Sum_any (s : ByteArray) (w : World) (hs : s.size ≤ 140737488355328) (h : Roots w) :
    Calls Tryz.prog 79 #[.string s] w fun e w' => e = .returned (.string (sumB s sq8 cuL)) ∧ Below w.heap.size w w' :=
  sum_any w s sq8 cuL hs cuL_len h.1 h.2
theorem dgs_len (l : List Int) : (dgs l).length = 8 * l.length := by
  induction l with
  | nil => rfl
  | cons a r ih =>
    show (dg a 8 ++ dgs r).length = _
    rw [List.length_append, ih]
    simp [dg]
    omega

/-- The sum of a text. -/
def smD (s : ByteArray) : ByteArray := sumB s sq8 cuL
theorem smD_size (s : ByteArray) : (smD s).size = 64 := (dgs_len (sumS s sq8 cuL).l).trans rfl
/-- What the calls lean on. -/
def Env (w : World) : Prop := MaxIs w ∧ Roots w ∧ Lib.TabIs Tryz.prog w "internal/strconv.uint64pow10" .u64 Lib.pow10Tab
theorem tab_up {w w' : World} (h : Lib.TabIs Tryz.prog w "internal/strconv.uint64pow10" .u64 Lib.pow10Tab) (hb : Below w.heap.size w w') : Lib.TabIs Tryz.prog w' "internal/strconv.uint64pow10" .u64 Lib.pow10Tab := by
  have hg : Tryz.prog.globalNamed "internal/strconv.uint64pow10" = some 3 := by kernel_rfl
  unfold Lib.TabIs World.var? at *
  rw [hg] at h ⊢
  simp only [Option.bind_some] at h ⊢
  have hlt : 3 < w.heap.size := by
    rcases Nat.lt_or_ge 3 w.heap.size with h1 | h1
    · exact h1
    · rw [Array.getElem?_eq_none h1] at h; cases h
  rw [hb.block _ hlt]
  exact h
theorem Env.up {w w' : World} (h : Env w) (hb : Below w.heap.size w w') : Env w' := ⟨h.1.up hb, h.2.1.up hb, tab_up h.2.2 hb⟩
theorem Sm_any (s : ByteArray) (w : World) (hs : s.size ≤ 140737488355328) (h : Env w) :
    Calls Tryz.prog 79 #[.string s] w fun e w' => e = .returned (.string (smD s)) ∧ Below w.heap.size w w' := Sum_any s w hs h.2.1
end Go.Proofs.YtapiedeekbfpnaaGreatDoor

/- What a machine comes to, plain: each line's deed, and all of them, one behind the other. -/
namespace Go.Proofs.YtapiedeekbfpnaaGreatDoor
open Go.RowKit Go.Shelf Go.Maps Go.WideMaps Go.Sort

/-- Which word a line begins with. -/
def wrdL : List (List UInt8) := frmL.map (·.1)
def wkF (l : Ln) : Nat := wrdL.idxOf l.wd.data.toList
def txF (m : Mc) (i : Nat) : ByteArray := m.tx.getD i ⟨#[]⟩
/-- The file of a path. -/
def fndF (F : List Fl) (p : ByteArray) : Option Fl := F.find? fun f => decide (pth f = p.data.toList)
/-- The paths inside a directory. -/
def lstL (F : List Fl) (d : ByteArray) : List UInt8 := F.flatMap fun f => if d.data.toList = [46] ∨ inB f.pa d = true then pth f ++ [10] else []
def lstF (F : List Fl) (d : ByteArray) : ByteArray := bA (lstL F d)
def jnF (t u : ByteArray) : ByteArray := bA (t.data.toList ++ u.data.toList)
def szF (t : ByteArray) : ByteArray := bA (Lib.decDigits t.size)
def mkL (m : Mc) (L : List Fl) (f : Fl) : List Fl := if mayF L f.pa = true ∧ (burnM m f.tx.size).2 = true then putF L f else L
/-- What a line's deed comes to: the machine; the files. -/
def doM (F L : List Fl) (m : Mc) (l : Ln) : Mc := match wkF l with
  | 0 => putM m l.r l.tx
  | 1 => match fndF F l.pa with
    | none => endM m 101
    | some f => putM m l.r f.tx
  | 2 => putM m l.r (lstF F l.pa)
  | 3 => putM m l.r (jnF (txF m l.r) (txF m l.s))
  | 4 => putM m l.r (cutM (txF m l.r) l.n l.m)
  | 5 => putM m l.r (szF (txF m l.s))
  | 6 => putM m l.r (smD (txF m l.r))
  | 7 => mkM m L ⟨l.pa, txF m l.r, false⟩
  | 8 => mkM m L ⟨l.pa, txF m l.r, true⟩
  | 9 => goM m (decide ((txF m l.r).data.toList = (txF m l.s).data.toList)) l.n
  | 10 => goM m (decide ((txF m l.r).data.toList < (txF m l.s).data.toList)) l.n
  | 11 => goM m true l.n
  | _ => endM m l.n
def doL (L : List Fl) (m : Mc) (l : Ln) : List Fl := match wkF l with
  | 7 => mkL m L ⟨l.pa, txF m l.r, false⟩
  | 8 => mkL m L ⟨l.pa, txF m l.r, true⟩
  | _ => L
/-- Is there no line left to be done? -/
def stp (ls : List Ln) (m : Mc) : Bool := m.ended || decide (ls.length ≤ m.next)
def lnAt (ls : List Ln) (m : Mc) : Ln := ls.getD m.next Ln.none
def nxM (m : Mc) : Mc := { m with next := m.next + 1 }
/-- So many lines are done, or as many as there are to be done. -/
def runM (F : List Fl) (ls : List Ln) : Nat → Mc → List Fl → Mc × List Fl
  | 0, m, L => (m, L)
  | k + 1, m, L => if stp ls m = true then (m, L) else runM F ls k (doM F L (nxM m) (lnAt ls m)) (doL L (nxM m) (lnAt ls m))

theorem do_goes (F L : List Fl) (m : Mc) (l : Ln) : Goes m (doM F L m l) := by
  unfold doM
  split
  · exact put_goes _ _ _
  · split
    · exact end_goes _ _
    · exact put_goes _ _ _
  · exact put_goes _ _ _
  · exact put_goes _ _ _
  · exact put_goes _ _ _
  · exact put_goes _ _ _
  · exact put_goes _ _ _
  · exact mk_goes _ _ _
  · exact mk_goes _ _ _
  · exact go_goes _ _ _
  · exact go_goes _ _ _
  · exact go_goes _ _ _
  · exact end_goes _ _
theorem runM_stp (F : List Fl) (ls : List Ln) (m : Mc) (L : List Fl) (h : stp ls m = true) : ∀ k, runM F ls k m L = (m, L)
  | 0 => rfl
  | k + 1 => by unfold runM; rw [if_pos h]
theorem runM_go (F : List Fl) (ls : List Ln) (m : Mc) (L : List Fl) (h : stp ls m = false) (k : Nat) : runM F ls (k + 1) m L = runM F ls k (doM F L (nxM m) (lnAt ls m)) (doL L (nxM m) (lnAt ls m)) := by
  show (if stp ls m = true then _ else _) = _
  rw [if_neg (by rw [h]; simp)]

/-- What a line that was taken has. -/
structure LnOk (l : Ln) : Prop where
  r : l.r < 8
  s : l.s < 8
  n : l.n ≤ 999999
  m : l.m ≤ 999999
  pa : l.pa.size ≤ 100000
  tx : l.tx.size ≤ 100000
theorem takP_okL {lines k : Nat} {l l' : Ln} {g : List UInt8} (h : LnOk l) (hg : g.length ≤ 100000) (e : takP lines k l g = some l') : LnOk l' ∧ l'.wd = l.wd := by
  have hb : (bA g).size = g.length := by simp [bA, ByteArray.size]
  unfold takP at e
  split at e
  · obtain ⟨v, hv, rfl⟩ := Option.map_eq_some_iff.1 e
    exact ⟨⟨regF_lt hv, h.s, h.n, h.m, h.pa, h.tx⟩, rfl⟩
  split at e
  · obtain ⟨v, hv, rfl⟩ := Option.map_eq_some_iff.1 e
    exact ⟨⟨h.r, regF_lt hv, h.n, h.m, h.pa, h.tx⟩, rfl⟩
  split at e
  · obtain ⟨v, hv, rfl⟩ := Option.map_eq_some_iff.1 e
    exact ⟨⟨h.r, h.s, numF_le hv, h.m, h.pa, h.tx⟩, rfl⟩
  split at e
  · obtain ⟨v, hv, rfl⟩ := Option.map_eq_some_iff.1 e
    exact ⟨⟨h.r, h.s, h.n, numF_le hv, h.pa, h.tx⟩, rfl⟩
  split at e
  · obtain ⟨v, hv, e⟩ := Option.bind_eq_some_iff.1 e
    split at e
    · obtain rfl := Option.some.inj e
      exact ⟨⟨h.r, h.s, numF_le hv, h.m, h.pa, h.tx⟩, rfl⟩
    · cases e
  split at e
  · obtain ⟨v, hv, e⟩ := Option.bind_eq_some_iff.1 e
    split at e
    · obtain rfl := Option.some.inj e
      exact ⟨⟨h.r, h.s, numF_le hv, h.m, h.pa, h.tx⟩, rfl⟩
    · cases e
  split at e
  · obtain rfl := Option.some.inj e
    exact ⟨⟨h.r, h.s, h.n, h.m, h.pa, by rw [hb]; exact hg⟩, rfl⟩
  split at e
  · split at e
    · obtain rfl := Option.some.inj e
      exact ⟨⟨h.r, h.s, h.n, h.m, by rw [hb]; exact hg, h.tx⟩, rfl⟩
    · cases e
  · split at e
    · obtain rfl := Option.some.inj e
      exact ⟨⟨h.r, h.s, h.n, h.m, by rw [hb]; exact hg, h.tx⟩, rfl⟩
    · cases e
theorem foldP_okL (lines : Nat) : ∀ (ks : List Nat) (gs : List (List UInt8)) (l l' : Ln), LnOk l → (∀ g ∈ gs, g.length ≤ 100000) → foldP lines ks gs l = some l' → LnOk l' ∧ l'.wd = l.wd := by
  intro ks
  induction ks with
  | nil => intro gs l l' h _ e; obtain rfl := Option.some.inj e; exact ⟨h, rfl⟩
  | cons k ks ih =>
    intro gs l l' h hg e
    cases gs with
    | nil => obtain rfl := Option.some.inj e; exact ⟨h, rfl⟩
    | cons g gs =>
      obtain ⟨l1, e1, e2⟩ := Option.bind_eq_some_iff.1 (show (takP lines k l g).bind (fun l' => foldP lines ks gs l') = some l' from e)
      have h1 := takP_okL h (hg g (by simp)) e1
      have h2 := ih gs l1 l' h1.1 (fun x hx => hg x (by simp [hx])) e2
      exact ⟨h2.1, h2.2.trans h1.2⟩
theorem splitK_len : ∀ (k : Nat) (s : List UInt8), ∀ g ∈ wdN k s, g.length ≤ s.length := by
  intro k
  induction k with
  | zero => intro s g hg; obtain rfl := List.mem_singleton.1 (show g ∈ [s] from hg); exact Nat.le_refl _
  | succ k ih =>
    intro s g hg
    unfold wdN Lib.splitK at hg
    split at hg
    · obtain rfl := List.mem_singleton.1 hg; exact Nat.le_refl _
    · rcases List.mem_cons.1 hg with rfl | hg
      · simp; omega
      · have := ih _ g hg
        simp at this
        omega
theorem linF_ok {lines : Nat} {s : List UInt8} {l : Ln} (hs : s.length ≤ 100000) (h : linF lines s = some l) : LnOk l ∧ ∃ f, frmF (Lib.cut s [32]).1 = some f ∧ l.wd = bA (Lib.cut s [32]).1 := by
  unfold linF at h
  split at h
  · cases h
  · rename_i f hf
    split at h
    · cases h
    · have := foldP_okL lines f _ _ l ⟨Nat.zero_lt_succ 7, Nat.zero_lt_succ 7, Nat.zero_le _, Nat.zero_le _, Nat.zero_le _, Nat.zero_le _⟩ (fun g hg => Nat.le_trans (splitK_len _ _ g (List.mem_of_mem_tail hg)) hs) h
      exact ⟨this.1, f, hf, this.2⟩
theorem lookup_idx (w : List UInt8) (f : List Nat) (h : frmF w = some f) : wrdL.idxOf w < 13 := by
  have h1 : w ∈ wrdL := List.mem_map.2 ⟨(w, f), lookup_mem w _ h, rfl⟩
  exact List.idxOf_lt_length_of_mem h1
end Go.Proofs.YtapiedeekbfpnaaGreatDoor

/- What holds of a machine all the way, plain: its texts are short, and what it makes is a tree. -/
namespace Go.Proofs.YtapiedeekbfpnaaGreatDoor
open Go.RowKit Go.Shelf Go.Maps Go.WideMaps Go.Sort

theorem inB_lst (p d : ByteArray) : inB p d = true ↔ ∃ r, p.data.toList = d.data.toList ++ 47 :: r := by
  rw [inB_iff]
  constructor
  · rintro ⟨i, h1, h2, h3⟩
    have h1' : i < p.data.toList.length := by rw [Array.length_toList]; exact h1
    refine ⟨p.data.toList.drop (i + 1), ?_⟩
    rw [h3, show (p.extract 0 i).data.toList = p.data.toList.take i from by simp]
    rw [List.getD_eq_getElem?_getD, List.getElem?_eq_getElem h1'] at h2
    have h4 : p.data.toList[i] = 47 := h2
    rw [← h4, List.getElem_cons_drop, List.take_append_drop]
  · rintro ⟨r, h⟩
    have hl := congrArg List.length h
    rw [List.length_append, List.length_cons, Array.length_toList, Array.length_toList] at hl
    refine ⟨d.size, by show d.data.size < p.data.size; omega, ?_, ?_⟩
    · rw [h, List.getD_eq_getElem?_getD, List.getElem?_append_right (by rw [Array.length_toList]; exact Nat.le_refl _)]
      rw [Array.length_toList]
      show (47 :: r)[d.data.size - d.data.size]?.getD 0 = 47
      rw [Nat.sub_self]
      rfl
    · show d.data.toList = (p.extract 0 d.data.size).data.toList
      rw [show (p.extract 0 d.data.size).data.toList = p.data.toList.take d.data.size from by simp, h, List.take_append_of_le_length (by rw [Array.length_toList]; exact Nat.le_refl _), ← Array.length_toList, List.take_length]
theorem inB_self (p : ByteArray) : inB p p = false := by
  unfold inB
  rw [decide_eq_false (Nat.lt_irrefl _)]
  rfl
theorem ba_ext {a b : ByteArray} (h : a.data.toList = b.data.toList) : a = b := by
  obtain ⟨x⟩ := a
  obtain ⟨y⟩ := b
  exact congrArg ByteArray.mk (Array.toList_inj.1 h)
/-- Files that are a tree. -/
structure TrOk (L : List Fl) : Prop where
  up : L.Pairwise fun f g => pth f < pth g
  ln : L.length ≤ 60
  fl : ∀ f ∈ L, flE f = 0
  no : ∀ f ∈ L, ∀ g ∈ L, inB f.pa g.pa = false
theorem TrOk.ch {L : List Fl} (h : TrOk L) : chF L = 0 := by
  unfold chF
  rw [if_neg (by have := h.ln; omega), if_pos (flEs_yes L fun j hj => h.fl _ (List.getElem_mem hj))]
  have h1 : upF L = true := decide_eq_true h.up
  have h2 : thruF L L = false := by
    unfold thruF
    rw [List.any_eq_false]
    intro f hf
    rw [Bool.not_eq_true, List.any_eq_false]
    intro g hg
    rw [h.no f hf g hg]
    simp
  rw [h1, h2]
  rfl
theorem TrOk.of {L : List Fl} (h : chF L = 0) : TrOk L := by
  unfold chF at h
  split at h
  · cases h
  · rename_i hl
    split at h
    · rename_i hf
      split at h
      · rename_i hb
        rw [Bool.and_eq_true] at hb
        refine ⟨up_pw hb.1, by omega, flEs_all hf, fun f hf g hg => ?_⟩
        have h2 : thruF L L = false := by simpa using hb.2
        unfold thruF at h2
        rw [List.any_eq_false] at h2
        have h3 := h2 f hf
        rw [Bool.not_eq_true, List.any_eq_false] at h3
        have h4 := h3 g hg
        simpa using h4
      · cases h
    · rename_i hf
      exact absurd h hf
theorem TrOk.nil : TrOk [] := ⟨List.Pairwise.nil, by decide, fun _ h => by simp at h, fun _ h => by simp at h⟩
theorem TrOk.nodup {L : List Fl} (h : TrOk L) : (L.map pth).Nodup := List.pairwise_map.2 (h.up.imp fun hh e => by rw [e] at hh; exact List.lt_irrefl _ hh)
theorem mayF_put {L : List Fl} {f : Fl} (h : TrOk L) (hf : flE f = 0) (hm : mayF L f.pa = true) : TrOk (putF L f) := by
  unfold mayF at hm
  rw [Bool.or_eq_true] at hm
  have key : ∀ g ∈ L, pth g ≠ pth f → inB f.pa g.pa = false ∧ inB g.pa f.pa = false := by
    intro g hg hne
    rcases hm with hm | hm
    · obtain ⟨x, hx, e⟩ := List.any_eq_true.1 hm
      have e : pth x = pth f := of_decide_eq_true e
      rw [← ba_ext (show x.pa.data.toList = f.pa.data.toList from e)]
      exact ⟨h.no x hx g hg, h.no g hg x hx⟩
    · rw [Bool.and_eq_true] at hm
      have h2 : (L.any fun g => meetB f.pa g.pa) = false := by simpa using hm.2
      rw [List.any_eq_false] at h2
      have h3 := h2 g hg
      unfold meetB at h3
      simp only [Bool.not_eq_true, Bool.or_eq_false_iff] at h3
      exact ⟨h3.1.2, h3.2⟩
  refine ⟨putF_up L f h.up, ?_, fun x hx => ?_, fun x hx y hy => ?_⟩
  · unfold putF
    split
    · rw [List.length_map]; exact h.ln
    · rename_i hno
      have hlen : (insF f L).length = L.length + 1 := by
        have : ∀ L : List Fl, (insF f L).length = L.length + 1 := by
          intro L
          induction L with
          | nil => rfl
          | cons g l ih => unfold insF; split <;> simp [ih]
        exact this L
      rw [hlen]
      rcases hm with hm | hm
      · exact absurd hm hno
      · rw [Bool.and_eq_true] at hm
        have h1 : L.length ≠ 60 := by simpa using hm.1
        have := h.ln
        omega
  · rcases (putF_mem L f x).1 hx with rfl | ⟨hx, _⟩
    · exact hf
    · exact h.fl x hx
  · rcases (putF_mem L f x).1 hx with ex | ⟨hx2, hxn⟩
    · rw [ex]
      rcases (putF_mem L f y).1 hy with ey | ⟨hy2, hyn⟩
      · rw [ey]; exact inB_self _
      · exact (key y hy2 hyn).1
    · rcases (putF_mem L f y).1 hy with ey | ⟨hy2, hyn⟩
      · rw [ey]; exact (key x hx2 hxn).2
      · exact h.no x hx2 y hy2

/-- What holds of a machine all the way. -/
structure MOk (m : Mc) (L : List Fl) : Prop where
  len : m.tx.length = 8
  tx : ∀ t ∈ m.tx, t.size ≤ 100000
  tr : TrOk L
theorem burn_tx (m : Mc) (b : Nat) : (burnM m b).1.tx = m.tx := by unfold burnM; split <;> rfl
theorem txF_size {m : Mc} {L : List Fl} (h : MOk m L) (i : Nat) : (txF m i).size ≤ 100000 := by
  unfold txF
  rw [List.getD_eq_getElem?_getD]
  cases hx : m.tx[i]? with
  | none => show (0 : Nat) ≤ _; omega
  | some t => exact h.tx t (List.mem_of_getElem? hx)
theorem txF_get {m : Mc} {L : List Fl} (h : MOk m L) {i : Nat} (hi : i < 8) : m.tx[i]? = some (txF m i) := by
  unfold txF
  rw [List.getD_eq_getElem?_getD, List.getElem?_eq_getElem (by rw [h.len]; exact hi)]
  rfl
theorem MOk.tx_same {m m' : Mc} {L : List Fl} (h : MOk m L) (e : m'.tx = m.tx) : MOk m' L := ⟨by rw [e]; exact h.len, by rw [e]; exact h.tx, h.tr⟩
theorem MOk.put {m : Mc} {L : List Fl} (h : MOk m L) (r : Nat) (t : ByteArray) : MOk (putM m r t) L := by
  unfold putM
  split
  · exact h.tx_same (endM_tx m 102)
  · rename_i ht
    split
    · refine ⟨?_, ?_, h.tr⟩
      · show ((burnM m t.size).1.tx.set r t).length = 8
        rw [List.length_set, burn_tx]
        exact h.len
      · intro x hx
        have hx : x ∈ (burnM m t.size).1.tx.set r t := hx
        rw [burn_tx] at hx
        rcases List.mem_or_eq_of_mem_set hx with hx | rfl
        · exact h.tx x hx
        · omega
    · exact h.tx_same (burn_tx m _)
theorem go_tx (m : Mc) (b : Bool) (n : Nat) : (goM m b n).tx = m.tx := by
  unfold goM
  split
  · exact burn_tx m 0
  · exact burn_tx m 0
theorem MOk.make {m : Mc} {L : List Fl} (h : MOk m L) (f : Fl) (hf : flE f = 0) : MOk (mkM m L f) (mkL m L f) := by
  refine ⟨by rw [mkM_tx]; exact h.len, by rw [mkM_tx]; exact h.tx, ?_⟩
  unfold mkL
  split
  · rename_i hm
    exact mayF_put h.tr hf hm.1
  · exact h.tr
/-- A line makes at a path alone. -/
def PaOk (l : Ln) : Prop := wkF l = 7 ∨ wkF l = 8 → pathOk l.pa = true
theorem MOk.do {F L : List Fl} {m : Mc} (h : MOk m L) (l : Ln) (hp : PaOk l) : MOk (doM F L m l) (doL L m l) := by
  have hfl : ∀ b, pathOk l.pa = true → flE ⟨l.pa, txF m l.r, b⟩ = 0 := fun b hp => by
    unfold flE
    rw [if_neg (by rw [hp]; simp), if_neg (by have := txF_size h l.r; simpa using this)]
  unfold doM doL
  split <;> rename_i hk <;> simp only [hk]
  · exact h.put _ _
  · split
    · exact h.tx_same (endM_tx _ _)
    · exact h.put _ _
  · exact h.put _ _
  · exact h.put _ _
  · exact h.put _ _
  · exact h.put _ _
  · exact h.put _ _
  · exact h.make _ (hfl false (hp (.inl hk)))
  · exact h.make _ (hfl true (hp (.inr hk)))
  · exact h.tx_same (go_tx _ _ _)
  · exact h.tx_same (go_tx _ _ _)
  · exact h.tx_same (go_tx _ _ _)
  · exact h.tx_same (endM_tx _ _)
theorem run_ok {F : List Fl} {ls : List Ln} (hl : ∀ l ∈ ls, PaOk l) : ∀ (k : Nat) (m : Mc) (L : List Fl), MOk m L → MOk (runM F ls k m L).1 (runM F ls k m L).2
  | 0, m, L, h => h
  | k + 1, m, L, h => by
    unfold runM
    split
    · exact h
    · rename_i hs
      refine run_ok hl k _ _ (MOk.do (show MOk (nxM m) L from h.tx_same rfl) _ ?_)
      unfold stp at hs
      have hn : m.next < ls.length := by
        simp at hs
        omega
      unfold lnAt
      rw [List.getD_eq_getElem?_getD, List.getElem?_eq_getElem hn]
      exact hl _ (List.getElem_mem hn)
theorem takP_pa7 {lines : Nat} {l l' : Ln} {g : List UInt8} (e : takP lines 7 l g = some l') : pathOk l'.pa = true := by
  have e : (if pathOk (bA g) = true then some { l with pa := bA g } else Option.none) = some l' := e
  split at e
  · rename_i h
    obtain rfl := Option.some.inj e
    exact h
  · cases e
theorem takP_pa0 {lines : Nat} {l l' : Ln} {g : List UInt8} (e : takP lines 0 l g = some l') : l'.pa = l.pa := by
  have e : (regF g).map (fun v => { l with r := v }) = some l' := e
  obtain ⟨v, _, rfl⟩ := Option.map_eq_some_iff.1 e
  rfl
theorem wrd_at {w : List UInt8} {j : Nat} (h : wrdL.idxOf w = j) (hj : j < 13) : wrdL[j]? = some w := by
  subst h
  rw [List.getElem?_eq_getElem (show wrdL.idxOf w < wrdL.length from hj)]
  exact congrArg some (List.getElem_idxOf hj)
theorem lin_pa {lines : Nat} {s : List UInt8} {l : Ln} (hs : s.length ≤ 100000) (h : linF lines s = some l) : PaOk l := by
  intro hk
  obtain ⟨_, f, hf, hw⟩ := linF_ok hs h
  have e7 : f = [7, 0] := by
    have hwk : wkF l = wrdL.idxOf (Lib.cut s [32]).1 := by unfold wkF; rw [hw]; simp [bA]
    rw [hwk] at hk
    rcases hk with hk | hk
    · have := Option.some.inj (show some [109, 97, 107, 101] = some (Lib.cut s [32]).1 from wrd_at hk (by decide))
      rw [← this] at hf
      exact (Option.some.inj hf).symm
    · have := Option.some.inj (show some [114, 117, 110] = some (Lib.cut s [32]).1 from wrd_at hk (by decide))
      rw [← this] at hf
      exact (Option.some.inj hf).symm
  unfold linF at h
  rw [hf] at h
  subst e7
  simp only at h
  split at h
  · cases h
  · rename_i hlen
    cases hg : (wdN [7, 0].length s).tail with
    | nil =>
      have := congrArg List.length hg
      rw [List.length_tail] at this
      simp at this hlen
      omega
    | cons g gs =>
      rw [hg] at h
      obtain ⟨l1, e1, e2⟩ := Option.bind_eq_some_iff.1 (show (takP lines 7 _ g).bind (fun l' => foldP lines [0] gs l') = some l from h)
      have h1 := takP_pa7 e1
      cases gs with
      | nil => obtain rfl := Option.some.inj e2; exact h1
      | cons g2 gs =>
        obtain ⟨l2, e3, e4⟩ := Option.bind_eq_some_iff.1 (show (takP lines 0 l1 g2).bind (fun l' => foldP lines [] gs l') = some l from e2)
        obtain rfl := Option.some.inj e4
        rw [takP_pa0 e3]
        exact h1

def isS (l : Lit) : Prop := ∃ s, l = .string s
theorem kindS : OneKind isS := ⟨fun h => by obtain ⟨s, rfl⟩ := h; trivial, fun ha hb hne => ChangeMaps.before_total ha hb hne⟩
theorem byD_ck (L : List Fl) : CanonK isS (byD L) := by
  refine snocInd (P := fun L => CanonK isS (byD L)) ⟨[], rfl, List.Pairwise.nil, fun p hp => by simp at hp⟩ (fun l a ih => ?_) L
  rw [byD_snoc]
  exact canonK_put kindS ⟨_, rfl⟩ _ ih
theorem has_kind {D : DataW Unit} (h : CanonK isS D) {k : Lit} (hk : Maps.has D k = true) : isS k := by
  obtain ⟨es, rfl, _, ks⟩ := h
  obtain ⟨p, hp, hs⟩ := List.any_eq_true.1 hk
  have e : p.1 = k := WideAt.sameKey_eq hs
  rw [← e]
  exact ks p hp
/-- A file is put into the map of what is made. -/
theorem byD_put {L : List Fl} (h : L.Pairwise fun f g => pth f < pth g) (f : Fl) : (byD L).put (.string (pth f)) (fD f) = byD (putF L f) := by
  have hn : (L.map pth).Nodup := List.pairwise_map.2 (h.imp fun hh e => by rw [e] at hh; exact List.lt_irrefl _ hh)
  have hn2 : ((putF L f).map pth).Nodup := List.pairwise_map.2 ((putF_up L f h).imp fun hh e => by rw [e] at hh; exact List.lt_irrefl _ hh)
  have c1 : CanonK isS ((byD L).put (.string (pth f)) (fD f)) := canonK_put kindS ⟨_, rfl⟩ _ (byD_ck L)
  have c2 := byD_ck (putF L f)
  have hm := (byD_tidy L).isMap
  have hh : ∀ k : List UInt8, Maps.has ((byD L).put (.string (pth f)) (fD f)) (.string k) = Maps.has (byD (putF L f)) (.string k) := by
    intro k
    rw [has_byD]
    by_cases e : k = pth f
    · subst e
      rw [has_put_same hm (by exact trivial), eq_comm, List.any_eq_true]
      exact ⟨f, (putF_mem L f f).2 (.inl rfl), by simp⟩
    · rw [has_put_other (fun e2 => e (by injection e2)), has_byD, Bool.eq_iff_iff, List.any_eq_true, List.any_eq_true]
      constructor
      · rintro ⟨g, hg, e2⟩
        have e2 : pth g = k := of_decide_eq_true e2
        exact ⟨g, (putF_mem L f g).2 (.inr ⟨hg, by rw [e2]; exact e⟩), by simp [e2]⟩
      · rintro ⟨g, hg, e2⟩
        have e2 : pth g = k := of_decide_eq_true e2
        rcases (putF_mem L f g).1 hg with rfl | ⟨hg, _⟩
        · exact absurd e2.symm e
        · exact ⟨g, hg, by simp [e2]⟩
  refine Maps.ext (c1.canon kindS) (c2.canon kindS) (fun k => ?_) (fun k z hk => ?_)
  · cases h1 : Maps.has ((byD L).put (.string (pth f)) (fD f)) k with
    | true => obtain ⟨s, rfl⟩ := has_kind c1 h1; rw [← hh s, h1]
    | false =>
      cases h2 : Maps.has (byD (putF L f)) k with
      | false => rfl
      | true => obtain ⟨s, rfl⟩ := has_kind c2 h2; rw [hh s, h2] at h1; cases h1
  · obtain ⟨s, rfl⟩ := has_kind c1 hk
    by_cases e : s = pth f
    · subst e
      rw [atKey_put_same hm (by exact trivial), at_byD hn2 ((putF_mem L f f).2 (.inl rfl))]
    · rw [atKey_put_other (fun e2 => e (by injection e2))]
      rw [has_put_other (fun e2 => e (by injection e2)), has_byD, List.any_eq_true] at hk
      obtain ⟨g, hg, e2⟩ := hk
      have e2 : pth g = s := of_decide_eq_true e2
      subst e2
      rw [at_byD hn hg, at_byD hn2 ((putF_mem L f g).2 (.inr ⟨hg, e⟩))]
theorem mkD_byD {m : Mc} {L : List Fl} (h : L.Pairwise fun f g => pth f < pth g) (f : Fl) : mkD m L f (byD L) = byD (mkL m L f) := by
  unfold mkD mkL
  split
  · exact byD_put h f
  · rfl
end Go.Proofs.YtapiedeekbfpnaaGreatDoor

/- A machine reads a file: it is searched for among files that rise. -/
namespace Go.Proofs.YtapiedeekbfpnaaGreatDoor
open Go.RowKit Go.Shelf Go.Maps Go.WideMaps Go.Sort

set_option maxHeartbeats 1000000 in
set_option maxRecDepth 100000 in
theorem readCmp_any (f : Fl) (p : ByteArray) (w : World) :
    Calls Tryz.prog 113 #[.agg #[.string f.pa, .string f.tx, .bool f.rn], .string p] w fun e w' => e = .returned (.int .i64 (cmpB f.pa p)) ∧ Below w.heap.size w w' := by
  obtain ⟨q, t, r⟩ := f
  have HC : Hid (∀ W, Calls Tryz.prog 40 #[.string q, .string p] W fun e w' => e = .returned (.int .i64 (cmpB q p)) ∧ w' = W) := Compare_s q p
  have HB : Hid (∀ o, Below w.heap.size w (w.alloc o)) := fun o => (Below.refl _ w).alloc (Nat.le_refl _) o
  simp only
  generalize cmpB q p = r9 at *
  go_enter Tryz.func113, Tryz.ntmps113
  go_wp2_with (first | (go_at_call 40; refine (HC.out _).mono ?_; rintro e w1 ⟨rfl, hw⟩; subst w1) | go_in)
  go_ret
  exact ⟨rfl, HB.out _⟩

theorem cmpB_zero (x y : ByteArray) : cmpB x y = 0 ↔ x.data.toList = y.data.toList := by
  unfold cmpB
  rw [Lib.toList_data, Lib.toList_data, tlt]
  by_cases h : x.data.toList < y.data.toList
  · simp only [h, decide_true, if_true]
    constructor
    · intro h; cases h
    · intro e; rw [e] at h; exact absurd h (List.lt_irrefl _)
  · by_cases h2 : x.data.toList = y.data.toList
    · simp [h2, List.lt_irrefl]
    · simp [h, h2]
/-- How the search ends. -/
def SeaP (F : List Fl) (p : ByteArray) (w : World) (e : Ending) (w' : World) : Prop :=
  ∃ (i : Nat) (b : Bool), e = .returned (.tuple #[.int .i64 (i : Int), .bool b]) ∧ Hid ((b = true → ∃ hi : i < F.length, fndF F p = some F[i]) ∧ (b = false → fndF F p = none)) ∧ Hid (Below w.heap.size w w')
theorem sea_yes {F : List Fl} {p : ByteArray} {i : Nat} (hi : i < F.length) (h : fndF F p = some F[i]) : Hid ((true = true → ∃ hi : i < F.length, fndF F p = some F[i]) ∧ (true = false → fndF F p = none)) := by
  refine (show (true = true → ∃ hi : i < F.length, fndF F p = some F[i]) ∧ (true = false → fndF F p = none) from ⟨fun _ => ⟨hi, h⟩, fun e => ?_⟩)
  cases e
theorem sea_no {F : List Fl} {p : ByteArray} {i : Nat} (h : fndF F p = none) : Hid ((false = true → ∃ hi : i < F.length, fndF F p = some F[i]) ∧ (false = false → fndF F p = none)) := by
  refine (show (false = true → ∃ hi : i < F.length, fndF F p = some F[i]) ∧ (false = false → fndF F p = none) from ⟨fun e => ?_, fun _ => h⟩)
  cases e
theorem fnd_yes {F : List Fl} {p : ByteArray} (hu : F.Pairwise fun f g => pth f < pth g) {i : Nat} (hi : i < F.length) (h : pth F[i] = p.data.toList) : fndF F p = some F[i] := by
  unfold fndF
  rw [List.find?_eq_some_iff_getElem]
  refine ⟨by simp [h], i, hi, rfl, fun j hj => ?_⟩
  have := List.pairwise_iff_getElem.1 hu j i (by omega) hi hj
  simp only [Bool.not_eq_true']
  refine decide_eq_false fun e => ?_
  rw [e, ← h] at this
  exact List.lt_irrefl _ this
theorem fnd_no {F : List Fl} {p : ByteArray} {k : Nat} (h1 : ∀ t (ht : t < F.length), t < k → pth F[t] < p.data.toList) (h2 : ∀ t (ht : t < F.length), k ≤ t → p.data.toList < pth F[t]) : fndF F p = none := by
  unfold fndF
  rw [List.find?_eq_none]
  intro f hf
  obtain ⟨t, ht, rfl⟩ := List.getElem_of_mem hf
  simp only [decide_eq_true_eq]
  intro e
  by_cases hk : t < k
  · have := h1 t ht hk
    rw [e] at this
    exact List.lt_irrefl _ this
  · have := h2 t ht (by omega)
    rw [e] at this
    exact List.lt_irrefl _ this

set_option maxHeartbeats 4000000 in
set_option maxRecDepth 100000 in
theorem search_any (ao : Option Addr) (cap : Nat) (F : List Fl) (p : ByteArray) (w : World) (hn : F.length ≤ 1000000) (hl : IsFl w ao F) (hu : F.Pairwise fun f g => pth f < pth g) :
    Calls Tryz.prog 112 #[.slice ao F.length cap, .string p, .func (.func 113) #[] #[]] w (SeaP F p w) := by
  have HL : Hid (IsFl w ao F) := hl
  have HU : Hid (F.Pairwise fun f g => pth f < pth g) := hu
  have HC0 : Hid (∀ (f : Fl) W, Calls Tryz.prog 113 #[.agg #[.string f.pa, .string f.tx, .bool f.rn], .string p] W fun e w' => e = .returned (.int .i64 (cmpB f.pa p)) ∧ Below W.heap.size W w') := fun f W => readCmp_any f p W
  have hn1 : (F.length : Int) ≤ 1000000 := by omega
  clear hl hu
  go_enter Tryz.func112, Tryz.ntmps112
  go_wp2
  go_loopg [9, 10] F.length (fun kx s9 s10 wr => ∃ lo hi : Nat, s9 = .int .i64 lo ∧ s10 = .int .i64 hi ∧ lo ≤ hi ∧ hi ≤ F.length ∧ hi - lo ≤ kx ∧ Hid (Below w.heap.size w wr) ∧
    Hid ((∀ t (ht : t < F.length), t < lo → pth F[t] < p.data.toList) ∧ (∀ t (ht : t < F.length), hi ≤ t → ¬ pth F[t] < p.data.toList)))
  case atStart =>
    refine ⟨0, F.length, rfl, rfl, Nat.zero_le _, Nat.le_refl _, by omega, Below.refl _ _, ?_⟩
    exact (⟨fun t _ ht => absurd ht (Nat.not_lt_zero _), fun t h1 h2 => by omega⟩ : (∀ t (ht : t < F.length), t < 0 → pth F[t] < p.data.toList) ∧ (∀ t (ht : t < F.length), F.length ≤ t → ¬ pth F[t] < p.data.toList))
  case round =>
    obtain ⟨lo, hi, rfl, rfl, hlh, hin, hg, HB, HI⟩ := hrel
    by_cases hlt : lo < hi
    · have HLB := HL.out.below HB.out (Nat.le_refl _)
      rcases HLB with h | ⟨g, o, rfl, hgr, hc⟩
      · exfalso; rw [h] at hin; simp at hin; omega
      obtain ⟨md, hmd⟩ : ∃ md : Nat, (lo + hi) / 2 = md := ⟨_, rfl⟩
      have hml : md < F.length := by omega
      obtain ⟨a0, a1, a2⟩ := hc md hml
      generalize hx : F[md] = x at a0 a1 a2
      have HX : Hid (F[md] = x) := hx
      obtain ⟨cv, hcv⟩ : ∃ cv, cv = cmpB x.pa p := ⟨_, rfl⟩
      have HC : Hid (∀ W, Calls Tryz.prog 113 #[.agg #[.string x.pa, .string x.tx, .bool x.rn], .string p] W fun e w' => e = .returned (.int .i64 cv) ∧ Below W.heap.size W w') := by rw [hcv]; exact HC0.out x
      have HD : Hid (decide (cv < 0) = decide (pth F[md] < p.data.toList)) := by
        show _ = _
        rw [hcv, cmpB_neg, HX.out]
        rfl
      clear hcv hx hc
      rw [← hmd] at a0 a1 a2
      have HMD : Hid ((lo + hi) / 2 = md) := hmd
      clear hmd
      by_cases hls : cv < 0
      · go_wp2_with (first | (go_at_call 113; refine (HC.out _).mono ?_; rintro e w1 ⟨rfl, hb1⟩) | go_in)
        have hmd := HMD.out
        go_roundg (hi - (md + 1))
        case measure => omega
        case rel =>
          have h2 := HD.out
          rw [decide_eq_true hls] at h2
          have h3 : pth F[md] < p.data.toList := of_decide_eq_true h2.symm
          refine ⟨md + 1, hi, by rw [show ((lo : Int) + (hi : Int)) / 2 + 1 = ((md + 1 : Nat) : Int) by omega], rfl, by omega, hin, Nat.le_refl _, below_low HB.out hb1 HB.out.size, ?_⟩
          refine (⟨fun t ht hlt => ?_, HI.out.2⟩ : (∀ t (ht : t < F.length), t < md + 1 → pth F[t] < p.data.toList) ∧ (∀ t (ht : t < F.length), hi ≤ t → ¬ pth F[t] < p.data.toList))
          by_cases e : t = md
          · subst e; exact h3
          · exact List.lt_trans (List.pairwise_iff_getElem.1 HU.out t md ht hml (by omega)) h3
      · have HLS : Hid (¬ cv < 0) := hls
        go_wp2_with (first | (go_at_call 113; refine (HC.out _).mono ?_; rintro e w1 ⟨rfl, hb1⟩) | go_in)
        have hmd := HMD.out
        go_roundg (md - lo)
        case measure => omega
        case rel =>
          have h2 := HD.out
          rw [decide_eq_false (Int.not_lt.2 HLS.out)] at h2
          have h3 : ¬ pth F[md] < p.data.toList := of_decide_eq_false h2.symm
          refine ⟨lo, md, rfl, by rw [show ((lo : Int) + (hi : Int)) / 2 = (md : Int) by omega], by omega, by omega, Nat.le_refl _, below_low HB.out hb1 HB.out.size, ?_⟩
          refine (⟨HI.out.1, fun t ht hlt => ?_⟩ : (∀ t (ht : t < F.length), t < lo → pth F[t] < p.data.toList) ∧ (∀ t (ht : t < F.length), md ≤ t → ¬ pth F[t] < p.data.toList))
          by_cases e : t = md
          · subst e; exact h3
          · intro h4
            exact h3 (List.lt_trans (List.pairwise_iff_getElem.1 HU.out md t hml ht (by omega)) h4)
    · obtain rfl : hi = lo := by omega
      by_cases hnn : hi < F.length
      · have HLB := HL.out.below HB.out (Nat.le_refl _)
        rcases HLB with h | ⟨g, o, rfl, hgr, hc⟩
        · exfalso; rw [h] at hnn; simp at hnn
        obtain ⟨a0, a1, a2⟩ := hc hi hnn
        generalize hx : F[hi] = x at a0 a1 a2
        have HX : Hid (F[hi] = x) := hx
        obtain ⟨cv, hcv⟩ : ∃ cv, cv = cmpB x.pa p := ⟨_, rfl⟩
        have HC : Hid (∀ W, Calls Tryz.prog 113 #[.agg #[.string x.pa, .string x.tx, .bool x.rn], .string p] W fun e w' => e = .returned (.int .i64 cv) ∧ Below W.heap.size W w') := by rw [hcv]; exact HC0.out x
        have HZ : Hid (cv = 0 ↔ pth F[hi] = p.data.toList) := by
          show _ ↔ _
          rw [hcv, cmpB_zero, HX.out]
          rfl
        clear hcv hx hc
        by_cases hyx : cv = 0
        · have HE : Hid (pth F[hi] = p.data.toList) := HZ.out.1 hyx
          subst hyx
          go_wp2_with (first | (go_at_call 113; refine (HC.out _).mono ?_; rintro e w1 ⟨rfl, hb1⟩) | go_in)
          go_ret2
          refine ⟨hi, true, rfl, ?_, below_low HB.out hb1 HB.out.size⟩
          exact sea_yes hnn (fnd_yes HU.out hnn HE.out)
        · go_wp2_with (first | (go_at_call 113; refine (HC.out _).mono ?_; rintro e w1 ⟨rfl, hb1⟩) | go_in)
          go_ret2
          refine ⟨hi, false, by simp [hyx], ?_, below_low HB.out hb1 HB.out.size⟩
          refine sea_no ?_
          have hgt : p.data.toList < pth F[hi] := by
            have h1 := HI.out.2 hi hnn (Nat.le_refl _)
            rcases Decidable.em (p.data.toList < pth F[hi]) with h2 | h2
            · exact h2
            · exact absurd (HZ.out.2 (List.le_antisymm (List.not_lt.1 h2) (List.not_lt.1 h1))) hyx
          refine fnd_no (k := hi) HI.out.1 fun t ht hk => ?_
          by_cases e : t = hi
          · subst e; exact hgt
          · exact List.lt_trans hgt (List.pairwise_iff_getElem.1 HU.out hi t hnn ht (by omega))
      · go_wp2
        go_ret2
        refine ⟨hi, false, rfl, ?_, HB⟩
        exact sea_no (fnd_no (k := hi) HI.out.1 fun t ht hk => by omega)

/-- A file is read. -/
def rdM (F : List Fl) (m : Mc) (r : Nat) (p : ByteArray) : Mc := match fndF F p with
  | none => endM m 101
  | some f => putM m r f.tx
theorem McAt.c0 {w : World} {P : Nat} {m : Mc} (h : McAt w P m) : w.cell? ⟨P, 0, none⟩ = some m.fv := h.cell 0

set_option maxHeartbeats 2000000 in
set_option maxRecDepth 100000 in
theorem mread_any (m : Mc) (P r : Nat) (p : ByteArray) (ao : Option Addr) (cap : Nat) (F : List Fl) (w : World) (h : McAt w P m) (hfv : m.fv = .slice ao F.length cap) (hl : IsFl w ao F) (hu : F.Pairwise fun f g => pth f < pth g) (hn : F.length ≤ 1000000) (hf : m.fuel ≤ 1000000) (hr : r < 8) (htx : ∀ f ∈ F, f.tx.size ≤ 1000000) :
    Calls Tryz.prog 70 #[.pointer (some ⟨P, 0, none⟩), .int .i64 (r : Int), .string p] w fun e w' => e = .returned (.tuple #[]) ∧ McAt w' P (rdM F m r p) ∧ UpB P w w' := by
  have c0 := h.c0
  rw [hfv] at c0
  have HS : Hid (Calls Tryz.prog 112 #[.slice ao F.length cap, .string p, .func (.func 113) #[] #[]] w (SeaP F p w)) := search_any ao cap F p w hn hl hu
  have HK : Hid (McAt w P m ∧ m.fv = .slice ao F.length cap ∧ IsFl w ao F ∧ m.fuel ≤ 1000000 ∧ r < 8 ∧ ∀ f ∈ F, f.tx.size ≤ 1000000) := ⟨h, hfv, hl, hf, hr, htx⟩
  clear h hfv hl hu hn hf hr htx
  generalize hL : F.length = n at *
  have HN : Hid (F.length = n) := hL
  clear hL
  go_enter Tryz.func70, Tryz.ntmps70
  go_wp2_with fail
  refine HS.out.mono ?_
  rintro e w1 ⟨i, b, rfl, HI, HB⟩
  have m1 := HK.out.1.below HB.out
  have d0 := m1.c0
  rw [HK.out.2.1] at d0
  cases b with
  | false =>
    have HE : Hid (Calls Tryz.prog 88 #[.pointer (some ⟨P, 0, none⟩), .int .i64 (101 : Int)] w1 fun e w' => e = .returned (.tuple #[]) ∧ Hid (McAt w' P (rdM F m r p) ∧ UpB P w w')) := (end_any m P 101 w1 m1 HK.out.2.2.2.1).mono fun e w' q => by
      refine ⟨q.1, ?_, (UpB.of_below HB.out).trans q.2.2⟩
      unfold rdM
      rw [HI.out.2 rfl]
      exact q.2.1
    clear m1 d0
    go_wp2_with (first
      | (go_at_call 88; refine HE.out.mono ?_; rintro e w2 ⟨rfl, H2⟩)
      | go_in)
    refine bodyPost_ret (v := .tuple #[]) (by simp [results, Tryz.results70]) rfl ?_
    exact ⟨rfl, H2.out⟩
  | true =>
    obtain ⟨hi, hfd⟩ := HI.out.1 rfl
    obtain ⟨g, o, hao, hg, hc⟩ : ∃ g o, ao = some ⟨g, o, none⟩ ∧ g < w1.heap.size ∧ FlAt g o F w1 := by
      rcases HK.out.2.2.1.below HB.out (Nat.le_refl _) with h | h
      · rw [h] at hi; simp at hi
      · exact h
    have t1 := (hc i hi).2.1
    have hmem : F[i] ∈ F := List.getElem_mem hi
    have HP : Hid (Calls Tryz.prog 68 #[.pointer (some ⟨P, 0, none⟩), .int .i64 (r : Int), .string F[i].tx] w1 fun e w' => e = .returned (.tuple #[]) ∧ Hid (McAt w' P (rdM F m r p) ∧ UpB P w w')) := (put_any m P r F[i].tx w1 m1 HK.out.2.2.2.1 HK.out.2.2.2.2.1 (HK.out.2.2.2.2.2 _ hmem)).mono fun e w' q => by
      refine ⟨q.1, ?_, (UpB.of_below HB.out).trans q.2.2⟩
      unfold rdM
      rw [hfd]
      exact q.2.1
    generalize F[i].tx = tx at *
    have hin : (i : Int) < (n : Int) := by have := HN.out; omega
    subst hao
    clear m1 hc hmem hfd
    go_wp2_with (first
      | (go_at_call 68; refine HP.out.mono ?_; rintro e w2 ⟨rfl, H2⟩)
      | go_in)
    go_end0
    exact ⟨rfl, H2.out⟩
end Go.Proofs.YtapiedeekbfpnaaGreatDoor

/- strings.Builder, in a block of its own. -/
namespace Go.Proofs.YtapiedeekbfpnaaGreatDoor
open Go.RowKit

theorem szB : (Tryz.prog.info? 119).map (·.size) = some 2 := by kernel_rfl
theorem celB : Tryz.prog.cellsOf 5 = 1 := by kernel_rfl
theorem info_parts {i : Option TypeInfo} {z : Value} {s b : Nat} (h : i.map (fun i => (i.zero, i.size, i.bytes)) = some (some z, s, b)) : ∃ i0, i = some i0 ∧ i0.zero = some z ∧ i0.size = s ∧ i0.bytes = b := by
  cases i with
  | none => cases h
  | some i0 =>
    simp at h
    exact ⟨i0, rfl, h.1, h.2.1, h.2.2⟩
/-- What a write leaves: below B all is as it was; of the rest all but the builder's block b and rows of bytes. -/
def Kp (B b : Nat) (w w' : World) : Prop := Below B w w' ∧ Lib.OthersKept 5 (some b) w w'
theorem Kp.bel {B b : Nat} {w w' : World} (h : Kp B b w w') : Below B w w' := h.1
theorem Kp.size {B b : Nat} {w w' : World} (h : Kp B b w w') : w.heap.size ≤ w'.heap.size := h.1.size
theorem Kp.refl (B b : Nat) (w : World) : Kp B b w w := ⟨Below.refl _ _, Lib.OthersKept.refl _ _ _⟩
theorem Kp.trans {B b : Nat} {a c d : World} (h : Kp B b a c) (k : Kp B b c d) : Kp B b a d := ⟨h.1.trans k.1, h.2.trans k.2⟩
theorem own_kind {w : World} {B : Nat} {e : TypeId} {v : Value} {n : Nat} {xs : List Value} (h : w.ownsRow B e 1 v n xs) : ∀ g, v.ownBlock = some g → ∃ c fz, w.heap[g]? = some (.cells c e fz) := by
  intro g hg
  rcases h.2 with ⟨hv, _⟩ | ⟨g', cap, cur, hv, _, hh, _⟩
  · rw [hv] at hg; cases hg
  · rw [hv] at hg
    obtain rfl : g' = g := by simpa [Value.ownBlock] using hg
    exact ⟨_, _, hh⟩

set_option maxHeartbeats 1000000 in
set_option maxRecDepth 100000 in
theorem cc_used (b : Nat) (w : World) (h0 : w.cell? ⟨b, 0, none⟩ = some (.pointer (some ⟨b, 0, none⟩))) :
    Calls Tryz.prog 136 #[.pointer (some ⟨b, 0, none⟩)] w fun e w' => e = .returned (.tuple #[]) ∧ w' = w := by
  obtain ⟨j, hj, _⟩ := Option.map_eq_some_iff.1 szB
  go_enter Tryz.func136, Tryz.ntmps136
  go_wp2
  rw [Lib.run_neq_ptr_same w _ Tryz.underlying117 hj]
  go_wp2
  go_end0
  exact ⟨rfl, rfl⟩

theorem lieL : liesAt Tryz.prog Tryz.prog.depth 119 (2 / Tryz.prog.cellsOf 119) 0 119 1 = true := by kernel_rfl
abbrev BdAt (B b : Nat) (p : Value) (bs : List Value) (w : World) : Prop := Lib.BuilderAt 119 5 B b p bs w
abbrev BdIs (B b : Nat) (bs : List Value) (w : World) : Prop := Lib.IsBuilder 119 5 B b bs w

set_option maxHeartbeats 1000000 in
set_option maxRecDepth 100000 in
theorem ccL_fresh (b : Nat) (w : World) (h0 : w.cell? ⟨b, 0, none⟩ = some (.pointer none)) (hsh : w.shape? b = some (119, 2)) (hfz : w.frozen? ⟨b, 0, none⟩ = false) :
    Calls Tryz.prog 136 #[.pointer (some ⟨b, 0, none⟩)] w fun e w' => e = .returned (.tuple #[]) ∧ w' = w.setCell ⟨b, 0, none⟩ (.pointer (some ⟨b, 0, none⟩)) := by
  obtain ⟨j, hj, hjs⟩ := Option.map_eq_some_iff.1 szB
  go_enter Tryz.func136, Tryz.ntmps136
  go_wp2
  rw [Lib.run_to_unsafe w ⟨b, 0, none⟩ Tryz.underlying117 Tryz.underlying156 hj (by rw [hjs]; decide) hsh (Nat.zero_lt_succ 1)]
  simp only [Result.andThen]
  rw [Oper.upon_value]
  go_wp2
  rw [run_callFunc_extern Tryz.func158 (by kernel_rfl) (by kernel_rfl) (by kernel_rfl) (e := Extern.AbiNoEscape.same) (by kernel_rfl)]
  rw [Lib.run_noEscape]
  simp only [Result.andThen]
  rw [Oper.upon_value]
  go_wp2
  rw [Lib.run_from_unsafe w ⟨b, 0, none⟩ Tryz.underlying156 Tryz.underlying117 hj hsh lieL]
  simp only [Result.andThen]
  rw [Oper.upon_value]
  go_wp2
  go_end0
  exact ⟨rfl, rfl⟩

theorem ccL_any (B b : Nat) (bs : List Value) (w : World) (h : BdIs B b bs w) :
    Calls Tryz.prog 136 #[.pointer (some ⟨b, 0, none⟩)] w fun e w' => e = .returned (.tuple #[]) ∧ (BdAt B b (.pointer (some ⟨b, 0, none⟩)) bs w' ∧ Kp B b w w') := by
  rcases h with h | h
  · refine (ccL_fresh b w h.cell0 h.shape h.frozen0).mono ?_
    rintro e w' ⟨rfl, rfl⟩
    exact ⟨rfl, h.used _, (Below.refl B w).setCell (p := ⟨b, 0, none⟩) h.1 _, (Lib.OthersKept.refl _ _ _).setCell ⟨b, 0, none⟩ rfl _⟩
  · refine (cc_used b w h.cell0).mono ?_
    rintro e w' ⟨rfl, rfl⟩
    exact ⟨rfl, h, Kp.refl _ _ _⟩

set_option maxHeartbeats 1000000 in
set_option maxRecDepth 100000 in
theorem wbL_any (B b : Nat) (bs : List Value) (c : Int) (w : World) (h : BdIs B b bs w) (hlen : bs.length + 1 ≤ 140737488355328) (hBw : B ≤ w.heap.size) :
    Calls Tryz.prog 116 #[.pointer (some ⟨b, 0, none⟩), .int .u8 c] w fun e w' => e = .returned .nilIface ∧ (BdAt B b (.pointer (some ⟨b, 0, none⟩)) (bs ++ [.int .u8 c]) w' ∧ Kp B b w w') := by
  obtain ⟨i0, hi, hz0, hz1, hz2⟩ := info_parts infB
  go_enter Tryz.func116, Tryz.ntmps116
  go_wp2_with (go_at_call 136; refine (ccL_any B b bs _ h).mono ?_)
  rintro e w1 ⟨rfl, h1, hb1, hk1⟩
  obtain ⟨hB, v, hbk, hown, hne⟩ := h1
  have c0 : w1.cell? ⟨b, 0, none⟩ = some (.pointer (some ⟨b, 0, none⟩)) := by rw [Lib.cell_of_heap hbk]; rfl
  have c1 : w1.cell? ⟨b, 1, none⟩ = some v := by rw [Lib.cell_of_heap hbk]; rfl
  go_wp2_with (at_builtin; refine wpList_append_own _ rfl _ _ 82 rfl B 5 i0 (.int .u8 0) 1 1 Tryz.underlying82 hi hz0 hz1 hz2 rfl (by decide) _ _ _ rfl (hown.alloc _) ⟨w1.heap.size, 0, none⟩ 1 1 [.int .u8 c] rfl rfl ?c1 ?c2 ?c3 ?c4 ?c5 ?_)
  case c1 =>
    intro j u hj
    match j, hj with
    | 0, hj => simp at hj; subst hj; simp [Addr.add]
  case c2 => intro u hu; simp at hu; subst hu; rfl
  case c3 => unfold maxLen; omega
  case c4 => omega
  case c5 => have := hb1.size; simp; omega
  intro v' w2 hown' hgrow _
  have hlt : b < w1.heap.size := by
    rcases Nat.lt_or_ge b w1.heap.size with h' | h'
    · exact h'
    · simp [Array.getElem?_eq_none h'] at hbk
  have hb2 : w2.heap[b]? = some (.cells #[.pointer (some ⟨b, 0, none⟩), v] 119 (0, 0)) := by
    rw [hgrow.block b (by simp; omega) (fun e => hne e.symm), Lib.alloc_old w1 _ b hlt]
    exact hbk
  have d0 : w2.cell? ⟨b, 0, none⟩ = some (.pointer (some ⟨b, 0, none⟩)) := by rw [Lib.cell_of_heap hb2]; rfl
  have d1 : w2.cell? ⟨b, 1, none⟩ = some v := by rw [Lib.cell_of_heap hb2]; rfl
  have f1 : w2.frozen? ⟨b, 1, none⟩ = false := Lib.frozen_of_heap hb2 1
  obtain ⟨g, cap, rfl⟩ : ∃ g cap, v' = .slice (some ⟨g, 0, none⟩) (bs.length + 1) cap := by
    rcases hown'.2 with ⟨_, h0⟩ | ⟨g, cap, cur, hv, _⟩
    · omega
    · exact ⟨g, cap, hv⟩
  go_wp2
  go_ret
  refine ⟨rfl, ?_, ?_, ((hk1.alloc _).grown hgrow (own_kind (hown.alloc _))).setCell ⟨b, 1, none⟩ rfl _⟩
  · exact Lib.BuilderAt.put (T := 119) (e := 5) hB hb2 (bs' := bs ++ [.int .u8 c]) (by simpa using hown') (by decide)
  · exact ((hb1.alloc (by have := hb1.size; omega) _).grown hgrow (by have := hb1.size; simp; omega) (fun k hk => (hown.lt k hk).1)).setCell (p := ⟨b, 1, none⟩) hB _

set_option maxHeartbeats 2000000 in
set_option maxRecDepth 100000 in
theorem wsL_any (B b : Nat) (bs : List Value) (s : ByteArray) (w : World) (h : BdIs B b bs w) (hlen : bs.length + s.size ≤ 140737488355328) (hBw : B ≤ w.heap.size) :
    Calls Tryz.prog 115 #[.pointer (some ⟨b, 0, none⟩), .string s] w fun e w' => e = .returned (.tuple #[.int .i64 s.size, .nilIface]) ∧ (BdAt B b (.pointer (some ⟨b, 0, none⟩)) (bs ++ Lib.strCells s) w' ∧ Kp B b w w') := by
  obtain ⟨i0, hi, hz0, hz1, hz2⟩ := info_parts infB
  go_enter Tryz.func115, Tryz.ntmps115
  go_wp2_with (go_at_call 136; refine (ccL_any B b bs _ h).mono ?_)
  rintro e w1 ⟨rfl, h1, hb1, hk1⟩
  obtain ⟨hB, v, hbk, hown, hne⟩ := h1
  have c0 : w1.cell? ⟨b, 0, none⟩ = some (.pointer (some ⟨b, 0, none⟩)) := by rw [Lib.cell_of_heap hbk]; rfl
  have c1 : w1.cell? ⟨b, 1, none⟩ = some v := by rw [Lib.cell_of_heap hbk]; rfl
  go_wp2_with (at_builtin; refine Lib.wpList_append_own_string _ rfl _ _ 82 9 rfl B 5 i0 Tryz.underlying82 Tryz.underlying9 hi hz0 hz1 hz2 _ _ _ rfl hown s rfl ?c3 ?c4 ?c5 ?_)
  case c3 => unfold maxLen; omega
  case c4 => omega
  case c5 => have := hb1.size; omega
  intro v' w2 hown' hgrow _
  have hlt : b < w1.heap.size := by
    rcases Nat.lt_or_ge b w1.heap.size with h' | h'
    · exact h'
    · simp [Array.getElem?_eq_none h'] at hbk
  have hb2 : w2.heap[b]? = some (.cells #[.pointer (some ⟨b, 0, none⟩), v] 119 (0, 0)) := by
    rw [hgrow.block b hlt (fun e => hne e.symm)]
    exact hbk
  have d0 : w2.cell? ⟨b, 0, none⟩ = some (.pointer (some ⟨b, 0, none⟩)) := by rw [Lib.cell_of_heap hb2]; rfl
  have d1 : w2.cell? ⟨b, 1, none⟩ = some v := by rw [Lib.cell_of_heap hb2]; rfl
  have f1 : w2.frozen? ⟨b, 1, none⟩ = false := Lib.frozen_of_heap hb2 1
  obtain ⟨ao, n', cap, rfl⟩ : ∃ ao n' cap, v' = .slice ao n' cap := by
    rcases hown'.2 with ⟨hv, _⟩ | ⟨g, cap, cur, hv, _⟩
    · exact ⟨_, _, _, hv⟩
    · exact ⟨_, _, _, hv⟩
  go_wp2
  go_ret2
  refine ⟨rfl, ?_, ?_, (hk1.grown hgrow (own_kind hown)).setCell ⟨b, 1, none⟩ rfl _⟩
  · exact Lib.BuilderAt.put (T := 119) (e := 5) hB hb2 (bs' := bs ++ Lib.strCells s) (by simpa [Lib.strCells_length] using hown') (by decide)
  · exact (hb1.grown hgrow (by have := hb1.size; omega) (fun k hk => (hown.lt k hk).1)).setCell (p := ⟨b, 1, none⟩) hB _

set_option maxHeartbeats 2000000 in
set_option maxRecDepth 100000 in
theorem stL_any (B b : Nat) (l : List UInt8) (w : World) (h : BdIs B b (Lib.byteCells l) w) (h0 : l ≠ []) :
    Calls Tryz.prog 117 #[.pointer (some ⟨b, 0, none⟩)] w fun e w' => e = .returned (.string ⟨l.toArray⟩) ∧ Below B w w' := by
  obtain ⟨p, hB, v, hbk, hown, hne⟩ : ∃ p, BdAt B b p (Lib.byteCells l) w := by
    rcases h with h | h
    · exact ⟨_, h⟩
    · exact ⟨_, h⟩
  have hl0 : l.length ≠ 0 := by simpa using h0
  rw [Lib.byteCells_length] at hown
  obtain ⟨g, cap, cur, rfl, hbg, hg, hnc, hcm, hcs, htake⟩ : ∃ g cap cur, v = .slice (some ⟨g, 0, none⟩) l.length cap ∧ B ≤ g ∧ w.heap[g]? = some (.cells cur 5 (0, 0)) ∧ l.length ≤ cap ∧ cap ≤ maxLen ∧ cur.size = cap * 1 ∧ cur.toList.take (l.length * 1) = Lib.byteCells l := by
    rcases hown.2 with ⟨_, hz⟩ | ⟨g, cap, cur, hv, r⟩
    · exact absurd hz hl0
    · exact ⟨g, cap, cur, hv, r⟩
  have c1 : w.cell? ⟨b, 1, none⟩ = some (.slice (some ⟨g, 0, none⟩) l.length cap) := by rw [Lib.cell_of_heap hbk]; rfl
  have hSD : (Builtin.unsafeSliceData_ #[82] 137 #[.slice (some ⟨g, 0, none⟩) l.length cap]).run Tryz.prog w.drew = .ok (.pointer (some ⟨g, 0, none⟩)) w.drew :=
    Lib.run_unsafeSliceData_row _ _ _ _ _ _ (by omega)
  have hUS : (Builtin.unsafeString_ #[137, 3] 9 #[.pointer (some ⟨g, 0, none⟩), .int .i64 l.length]).run Tryz.prog w.drew = .ok (.string ⟨l.toArray⟩) (w.drew.freeze ⟨g, 0, none⟩ l.length) := by
    refine Lib.run_unsafeString_row w.drew 137 3 9 5 Tryz.underlying137 celB g cur.size (by have hg' : w.drew.heap[g]? = some (.cells cur 5 (0, 0)) := hg; simp [World.shape?, hg']) l h0 (by omega) (by unfold maxLen at hcm; omega) ?_
    intro j x hx
    have := hown.cells (g := g) rfl j (.int .u8 x.toNat) (by simp [Lib.byteCells, hx])
    exact this
  go_enter Tryz.func117, Tryz.ntmps117
  go_wp2
  go_region
  all_goals (go_wp2; go_ret; exact ⟨rfl, Lib.below_freeze (Below.drew (Below.refl B w)) (p := ⟨g, 0, none⟩) hbg _⟩)

set_option maxHeartbeats 2000000 in
set_option maxRecDepth 100000 in
theorem stL_zero (B b : Nat) (w : World) (h : BdIs B b [] w) (hBw : B ≤ w.heap.size) :
    Calls Tryz.prog 117 #[.pointer (some ⟨b, 0, none⟩)] w fun e w' => e = .returned (.string ⟨#[]⟩) ∧ Below B w w' := by
  obtain ⟨p, hB, v, hbk, hown, hne⟩ : ∃ p, BdAt B b p [] w := by
    rcases h with h | h
    · exact ⟨_, h⟩
    · exact ⟨_, h⟩
  have hown' : w.ownsRow B 5 1 v 0 [] := hown
  have c1 : w.cell? ⟨b, 1, none⟩ = some v := by rw [Lib.cell_of_heap hbk]; rfl
  rcases hown'.2 with ⟨rfl, _⟩ | ⟨g, cap, cur, rfl, hbg, hg, _, _, hcs, _⟩
  · have hSD : (Builtin.unsafeSliceData_ #[82] 137 #[.slice none 0 0]).run Tryz.prog w.drew = .ok (.pointer none) w.drew := Lib.run_unsafeSliceData_nil _ _ _ _ _
    have hUS : (Builtin.unsafeString_ #[137, 3] 9 #[.pointer none, .int .i64 0]).run Tryz.prog w.drew = .ok (.string ⟨#[]⟩) w.drew := Lib.run_unsafeString_none _ _ _ _ _
    clear hown hown' hbk hne
    go_enter Tryz.func117, Tryz.ntmps117
    go_wp2
    go_region
    all_goals (go_wp2; go_ret; exact ⟨rfl, (Below.refl B w).drew⟩)
  · by_cases hc0 : cap = 0
    · subst hc0
      have hsh : w.drew.shape? g = some (5, cur.size) := by
        have hg' : w.drew.heap[g]? = some (.cells cur 5 (0, 0)) := hg
        simp [World.shape?, hg']
      have hSD : (Builtin.unsafeSliceData_ #[82] 137 #[.slice (some ⟨g, 0, none⟩) 0 0]).run Tryz.prog w.drew = .ok (.pointer (some ⟨w.heap.size, 0, none⟩)) (w.drew.alloc (.view ⟨g, 0, none⟩ 5)) := Lib.run_unsafeSliceData_zero _ _ _ _ Tryz.underlying137 _ _ _ hsh
      have hUS : ∀ W : World, (Builtin.unsafeString_ #[137, 3] 9 #[.pointer (some ⟨w.heap.size, 0, none⟩), .int .i64 0]).run Tryz.prog W = .ok (.string ⟨#[]⟩) W := fun W => Lib.run_unsafeString_none _ _ _ _ _
      have hc1 : w.drew.cell? ⟨b, 1, none⟩ = some (.slice (some ⟨g, 0, none⟩) 0 0) := c1
      have hbl : b < w.heap.size := World.block_lt_of_cell? w ⟨b, 1, none⟩ c1
      have hc2 : (w.alloc (.view ⟨g, 0, none⟩ 5)).drew.cell? ⟨b, 1, none⟩ = some (.slice (some ⟨g, 0, none⟩) 0 0) := (World.cell?_alloc_lt w _ ⟨b, 1, none⟩ hbl).trans c1
      clear hown hown' hbk hne
      go_enter Tryz.func117, Tryz.ntmps117
      go_wp2
      go_region
      all_goals (go_wp2; go_ret; exact ⟨rfl, ((Below.refl B w).alloc hBw _).drew⟩)
    · have hSD : (Builtin.unsafeSliceData_ #[82] 137 #[.slice (some ⟨g, 0, none⟩) 0 cap]).run Tryz.prog w.drew = .ok (.pointer (some ⟨g, 0, none⟩)) w.drew := Lib.run_unsafeSliceData_row _ _ _ _ _ _ hc0
      have hUS : (Builtin.unsafeString_ #[137, 3] 9 #[.pointer (some ⟨g, 0, none⟩), .int .i64 0]).run Tryz.prog w.drew = .ok (.string ⟨#[]⟩) w.drew := Lib.run_unsafeString_none _ _ _ _ _
      clear hown hown' hbk hne
      go_enter Tryz.func117, Tryz.ntmps117
      go_wp2
      go_region
      all_goals (go_wp2; go_ret; exact ⟨rfl, (Below.refl B w).drew⟩)
end Go.Proofs.YtapiedeekbfpnaaGreatDoor

/- A machine lists the files of a directory. -/
namespace Go.Proofs.YtapiedeekbfpnaaGreatDoor
open Go.RowKit Go.Shelf Go.Maps Go.WideMaps Go.Sort

theorem bd_up {B b : Nat} {bs : List Value} {w w' : World} (h : BdIs B b bs w) (hb : Below w.heap.size w w') : BdIs B b bs w' := by
  rcases h with ⟨hB, v, hbk, hown, hne⟩ | ⟨hB, v, hbk, hown, hne⟩
  · exact Or.inl ⟨hB, v, (hb.block b (Array.getElem?_eq_some_iff.1 hbk).1).trans hbk, row_up hown hb, hne⟩
  · exact Or.inr ⟨hB, v, (hb.block b (Array.getElem?_eq_some_iff.1 hbk).1).trans hbk, row_up hown hb, hne⟩
theorem stL_sb (B b : Nat) (l : List UInt8) (w : World) (h : BdIs B b (Lib.byteCells l) w) (hBw : B ≤ w.heap.size) :
    Calls Tryz.prog 117 #[.pointer (some ⟨b, 0, none⟩)] w fun e w' => e = .returned (.string (bA l)) ∧ Below B w w' := by
  by_cases h0 : l = []
  · subst h0
    exact stL_zero B b w h hBw
  · exact stL_any B b l w h h0
theorem catB (x y z : ByteArray) (h : x.data.toList ++ y.data.toList = z.data.toList) (hl : x.size + y.size ≤ 9223372036854775807) (W : World) : (Op.stringOp .add x y).run Tryz.prog W = .ok (.string z) W := by
  have e : x ++ y = z := ba_ext (by rw [← h]; simp)
  have hl2 : (x.size : Int) + (y.size : Int) ≤ 9223372036854775807 := by omega
  simp [Op.stringOp, e, hl2]

set_option maxHeartbeats 2000000 in
theorem pre_in (s t : ByteArray) (w : World) (hs : s.size ≤ 281474976710656) (ht : t.size ≤ 281474976710656) (b : Bool) (hb : b = true ↔ ∃ r, s.data.toList = t.data.toList ++ r) :
    Calls Tryz.prog 135 #[.string s, .string t] w fun e w' => e = .returned (.bool b) ∧ w' = w := by
  have i1 : (s.size : Int) ≤ 281474976710656 := by omega
  have i2 : (t.size : Int) ≤ 281474976710656 := by omega
  by_cases h0 : t.size ≤ s.size
  · have h1 : (t.size : Int) ≤ s.size := by omega
    have hsl : (Instr.slice 9 (.string s) none (some (.int .i64 (t.size : Int))) none).run Tryz.prog w = .ok (.string (s.extract 0 t.size)) w := by
      have h9 : ¬ s.size < t.size := by omega
      simp [Instr.slice, Instr.sliceBounds, Instr.sliceBound, run_underlying Tryz.underlying9, asIntOf, h9]
    have heq : ((s.extract 0 t.size).toList == t.toList) = b := by
      rw [Lib.toList_data, Lib.extract_data, Lib.toList_data, Bool.eq_iff_iff, hb, beq_iff_eq]
      have el : t.size = t.data.toList.length := by rw [Array.length_toList]; rfl
      constructor
      · intro e
        refine ⟨s.data.toList.drop t.size, ?_⟩
        rw [← e]
        simp
      · rintro ⟨r, e⟩
        rw [e, el]
        simp
    generalize s.extract 0 t.size = x at hsl heq
    clear hb h0
    go_enter Tryz.func135, Tryz.ntmps135
    go_wp2
    go_ret
    exact ⟨by simp, rfl⟩
  · have h1 : (s.size : Int) < t.size := by omega
    have hbf : b = false := by
      cases b with
      | false => rfl
      | true =>
        obtain ⟨r, e⟩ := hb.1 rfl
        have e := congrArg List.length e
        rw [List.length_append, Array.length_toList, Array.length_toList] at e
        have e1 : s.data.size = s.size := rfl
        have e2 : t.data.size = t.size := rfl
        omega
    subst hbf
    clear hb h0
    go_enter Tryz.func135, Tryz.ntmps135
    go_wp2
    go_ret
    exact ⟨rfl, rfl⟩

set_option maxHeartbeats 1000000 in
theorem pre_any (s t : ByteArray) (w : World) (hs : s.size ≤ 281474976710656) (ht : t.size ≤ 281474976710656) (b : Bool) (hb : b = true ↔ ∃ r, s.data.toList = t.data.toList ++ r) :
    Calls Tryz.prog 114 #[.string s, .string t] w fun e w' => e = .returned (.bool b) ∧ w' = w := by
  have HC : Hid (Calls Tryz.prog 135 #[.string s, .string t] w fun e w' => e = .returned (.bool b) ∧ w' = w) := pre_in s t w hs ht b hb
  clear hb hs ht
  go_enter Tryz.func114, Tryz.ntmps114
  go_wp2_with (first | (go_at_call 135; refine HC.out.mono ?_; rintro e w1 ⟨rfl, hw⟩; subst w1) | go_in)
  go_ret
  exact ⟨rfl, rfl⟩

def lst1 (f : Fl) (d : ByteArray) : List UInt8 := if d.data.toList = [46] ∨ inB f.pa d = true then pth f ++ [10] else []
theorem lstL_snoc (F : List Fl) (d : ByteArray) (k : Nat) (hk : k < F.length) : lstL (F.take (k + 1)) d = lstL (F.take k) d ++ lst1 F[k] d := by
  unfold lstL lst1
  rw [List.take_succ_eq_append_getElem hk, List.flatMap_append]
  simp
theorem lstL_len (F : List Fl) (d : ByteArray) (h : ∀ f ∈ F, f.pa.size ≤ 100) : (lstL F d).length ≤ F.length * 101 := by
  induction F with
  | nil => simp [lstL]
  | cons f l ih =>
    have e : lstL (f :: l) d = lst1 f d ++ lstL l d := by simp [lstL, lst1]
    have h1 : (lst1 f d).length ≤ 101 := by
      unfold lst1
      split
      · rw [List.length_append]
        have : (pth f).length = f.pa.size := by unfold pth; rw [Array.length_toList]; rfl
        have := h f (by simp)
        simp
        omega
      · simp
    have h2 := ih fun x hx => h x (by simp [hx])
    rw [e, List.length_append, List.length_cons]
    omega

set_option maxHeartbeats 4000000 in
set_option maxRecDepth 100000 in
theorem mlist_any (m : Mc) (P : Nat) (p : ByteArray) (ao : Option Addr) (cap : Nat) (F : List Fl) (w : World) (h : McAt w P m) (hfv : m.fv = .slice ao F.length cap) (hl : IsFl w ao F) (hn : F.length ≤ 1000) (hpa : ∀ f ∈ F, f.pa.size ≤ 100) (hp : p.size ≤ 1000000) :
    Calls Tryz.prog 72 #[.pointer (some ⟨P, 0, none⟩), .string p] w fun e w' => e = .returned (.string (lstF F p)) ∧ Below w.heap.size w w' := by
  obtain ⟨w0, hw0⟩ : ∃ w0, w0 = w.alloc (.cells #[.pointer none, .slice none 0 0] 119) := ⟨_, rfl⟩
  have hb0 : Below w.heap.size w w0 := by rw [hw0]; exact (Below.refl _ w).alloc (Nat.le_refl _) _
  have H0 : Hid (BdIs w.heap.size w.heap.size (Lib.byteCells (lstL (F.take 0) p)) w0 ∧ Below w.heap.size w w0) := by
    refine ⟨?_, hb0⟩
    rw [hw0]
    exact Lib.fresh_isBuilder _ _ w
  have c0 : w0.cell? ⟨P, 0, none⟩ = some (.slice ao F.length cap) := by rw [← hfv]; exact (h.below hb0).c0
  have HL : Hid (IsFl w ao F ∧ ∀ f ∈ F, f.pa.size ≤ 100) := ⟨hl, hpa⟩
  obtain ⟨ps, hps⟩ : ∃ ps : ByteArray, ps.data.toList = p.data.toList ++ [47] := ⟨bA (p.data.toList ++ [47]), by simp [bA]⟩
  have hpsz : ps.size ≤ 1000001 := by
    have e := congrArg List.length hps
    rw [List.length_append, Array.length_toList, Array.length_toList] at e
    have e1 : ps.data.size = ps.size := rfl
    have e2 : p.data.size = p.size := rfl
    simp at e
    omega
  have hcat : ∀ W : World, (Op.stringOp .add p ⟨#[47]⟩).run Tryz.prog W = .ok (.string ps) W := fun W => catB p ⟨#[47]⟩ ps hps.symm (by have : (⟨#[47]⟩ : ByteArray).size = 1 := rfl; omega) W
  obtain ⟨dot, hdot⟩ : ∃ dot, (p.toList == [46]) = dot := ⟨_, rfl⟩
  have HDT : Hid (dot = true ↔ p.data.toList = [46]) := by
    show _ ↔ _
    rw [← hdot, beq_iff_eq, Lib.toList_data]
  have HPR : Hid (∀ (f : Fl) (W : World), f.pa.size ≤ 100 → Calls Tryz.prog 114 #[.string f.pa, .string ps] W fun e w' => e = .returned (.bool (inB f.pa p)) ∧ w' = W) := fun f W hf => pre_any f.pa ps W (by omega) (by omega) _ (by
    rw [inB_lst, hps]
    simp)
  have hn1 : (F.length : Int) ≤ 1000 := by omega
  have HX : Hid (F.length ≤ 1000) := hn
  clear h hfv hl hpa hp hps hpsz hb0
  subst hw0
  go_enter Tryz.func72, Tryz.ntmps72
  go_wp2
  go_loopw [13] (fun i wr => ∃ k : Nat, k ≤ F.length ∧ i = .int .i64 (k : Int) ∧ Hid (BdIs w.heap.size w.heap.size (Lib.byteCells (lstL (F.take k) p)) wr ∧ Below w.heap.size w wr)) (fun i _ => F.length - (intOf i).toNat)
  case atStart => exact ⟨0, Nat.zero_le _, rfl, H0⟩
  case round =>
    obtain ⟨k, hk, rfl, HI⟩ := hrel
    by_cases hlt : k < F.length
    · have hki : (k : Int) < (F.length : Int) := by omega
      rcases HL.out.1.below HI.out.2 (Nat.le_refl _) with h | ⟨g, o, rfl, hgr, hc⟩
      · exfalso; rw [h] at hlt; simp at hlt
      obtain ⟨a0, a1, a2⟩ := hc k hlt
      have hfs := HL.out.2 F[k] (List.getElem_mem hlt)
      have HSN : Hid (lstL (F.take (k + 1)) p = lstL (F.take k) p ++ lst1 F[k] p) := lstL_snoc F p k hlt
      have hPR := HPR.out F[k]
      have HLN : Hid ((lstL (F.take k) p).length ≤ 1000 * 101) := by
        show _ ≤ _
        have := lstL_len (F.take k) p fun f hf => HL.out.2 f (List.mem_of_mem_take hf)
        rw [List.length_take] at this
        have := HX.out
        omega
      generalize F[k] = x at *
      obtain ⟨xp, xt, xr⟩ := x
      simp only at a0 a1 a2 hfs hPR
      have HPS : Hid (∀ W : World, Calls Tryz.prog 114 #[.string xp, .string ps] W fun e w' => e = .returned (.bool (inB xp p)) ∧ w' = W) := fun W => hPR W hfs
      obtain ⟨V, hV⟩ : ∃ V, V = wr.alloc (.cells #[.string xp, .string xt, .bool xr] 35) := ⟨_, rfl⟩
      have hbV : Below wr.heap.size wr V := by rw [hV]; exact (Below.refl _ wr).alloc (Nat.le_refl _) _
      have HVB : Hid (BdIs w.heap.size w.heap.size (Lib.byteCells (lstL (F.take k) p)) V ∧ Below w.heap.size w V) := ⟨bd_up HI.out.1 hbV, below_low HI.out.2 hbV HI.out.2.size⟩
      have HWS : Hid (Calls Tryz.prog 115 #[.pointer (some ⟨w.heap.size, 0, none⟩), .string xp] V fun e w' => e = .returned (.tuple #[.int .i64 xp.size, .nilIface]) ∧ Hid (BdIs w.heap.size w.heap.size (Lib.byteCells (lstL (F.take k) p ++ xp.data.toList)) w' ∧ Below w.heap.size w w')) := (wsL_any w.heap.size w.heap.size _ xp V HVB.out.1 (by rw [Lib.byteCells_length]; have := HLN.out; omega) HVB.out.2.size).mono fun e w' q => ⟨q.1, .inr (by rw [Lib.byteCells_append]; exact q.2.1), HVB.out.2.trans q.2.2.1⟩
      have HWB : Hid (∀ W, Hid (BdIs w.heap.size w.heap.size (Lib.byteCells (lstL (F.take k) p ++ xp.data.toList)) W ∧ Below w.heap.size w W) → Calls Tryz.prog 116 #[.pointer (some ⟨w.heap.size, 0, none⟩), .int .u8 10] W fun e w' => e = .returned .nilIface ∧ Hid (BdIs w.heap.size w.heap.size (Lib.byteCells ((lstL (F.take k) p ++ xp.data.toList) ++ [10])) w' ∧ Below w.heap.size w w')) := fun W hW => (wbL_any w.heap.size w.heap.size _ 10 W hW.out.1 (by rw [Lib.byteCells_length, List.length_append]; have := HLN.out; have e1 : xp.data.toList.length = xp.size := Array.length_toList; omega) hW.out.2.size).mono fun e w' q => ⟨q.1, .inr (by rw [Lib.byteCells_append]; exact q.2.1), hW.out.2.trans q.2.2.1⟩
      rw [hV] at HVB HWS
      clear hV hbV hc hPR hfs
      cases hd : dot with
      | true =>
        rw [hd] at hdot
        have HE : Hid (lstL (F.take k) p ++ xp.data.toList ++ [10] = lstL (F.take (k + 1)) p) := by
          show _ = _
          rw [HSN.out]
          unfold lst1
          rw [if_pos (.inl (HDT.out.1 hd)), List.append_assoc]
          rfl
        go_wp2_with (first
          | (go_at_call 115; refine HWS.out.mono ?_; rintro e w1 ⟨rfl, H1⟩)
          | (go_at_call 116; refine (HWB.out _ H1).mono ?_; rintro e w2 ⟨rfl, H2⟩)
          | go_in)
        refine ⟨⟨k + 1, hlt, by go_num, ?_⟩, ?_⟩
        · rw [← HE.out]; exact H2
        · simp [intOf]; omega
      | false =>
        rw [hd] at hdot
        have hnd : ¬ p.data.toList = [46] := fun e => by have := HDT.out.2 e; rw [hd] at this; cases this
        cases hin : inB xp p with
        | true =>
          rw [hin] at HPS
          have HE : Hid (lstL (F.take k) p ++ xp.data.toList ++ [10] = lstL (F.take (k + 1)) p) := by
            show _ = _
            rw [HSN.out]
            unfold lst1
            rw [if_pos (.inr hin), List.append_assoc]
            rfl
          clear hin hnd
          go_wp2_with (first
            | (go_at_call 114; refine (HPS.out _).mono ?_; rintro e w1 ⟨rfl, hw⟩; subst w1)
            | (go_at_call 115; refine HWS.out.mono ?_; rintro e w1 ⟨rfl, H1⟩)
            | (go_at_call 116; refine (HWB.out _ H1).mono ?_; rintro e w2 ⟨rfl, H2⟩)
            | go_in)
          refine ⟨⟨k + 1, hlt, by go_num, ?_⟩, ?_⟩
          · rw [← HE.out]; exact H2
          · simp [intOf]; omega
        | false =>
          rw [hin] at HPS
          have HE : Hid (lstL (F.take k) p = lstL (F.take (k + 1)) p) := by
            show _ = _
            rw [HSN.out]
            unfold lst1
            rw [if_neg (fun e => e.elim hnd (fun e => by rw [hin] at e; cases e)), List.append_nil]
          clear hin hnd
          go_wp2_with (first
            | (go_at_call 114; refine (HPS.out _).mono ?_; rintro e w1 ⟨rfl, hw⟩; subst w1)
            | go_in)
          refine ⟨⟨k + 1, hlt, by go_num, ?_⟩, ?_⟩
          · rw [← HE.out]; exact HVB
          · simp [intOf]; omega
    · obtain rfl : k = F.length := by omega
      have HST : Hid (Calls Tryz.prog 117 #[.pointer (some ⟨w.heap.size, 0, none⟩)] wr fun e w' => e = .returned (.string (lstF F p)) ∧ Hid (Below w.heap.size w w')) := (stL_sb w.heap.size w.heap.size _ wr HI.out.1 HI.out.2.size).mono fun e w' q => ⟨by rw [q.1, List.take_length]; rfl, HI.out.2.trans q.2⟩
      go_wp2_with (first
        | (go_at_call 117; refine HST.out.mono ?_; rintro e w1 ⟨rfl, H1⟩)
        | go_in)
      go_ret
      exact ⟨rfl, H1.out⟩
end Go.Proofs.YtapiedeekbfpnaaGreatDoor

/- The shelf's contracts, laid at this program. -/
namespace Go.Proofs.YtapiedeekbfpnaaGreatDoor
open Go.RowKit Go.Shelf

def laysI_ren : Go.Shelf.Ren := ⟨fun | 171 => 77 | 243 => 118 | 246 => 137 | 283 => 159 | 284 => 160 | 285 => 161 | 286 => 162 | 129 => 150 | 317 => 173 | 318 => 174 | 319 => 175 | 320 => 176 | 337 => 178 | 338 => 179 | n => n, fun | 3 => 3 | 9 => 9 | 2 => 2 | 4 => 4 | 171 => 158 | 0 => 0 | 53 => 142 | 37 => 82 | 5 => 5 | 173 => 160 | 212 => 171 | 51 => 126 | 20 => 20 | 213 => 172 | 46 => 134 | 232 => 180 | 233 => 181 | n => n, fun | 17 => 3 | 18 => 6 | 19 => 7 | n => n⟩
theorem laysI : Go.Proofs.LaysM.n171 Tryz.prog laysI_ren := {
  mixed := by kernel_rfl
  f129 := Tryz.func150.trans (congrArg some (by kernel_rfl))
  f171 := Tryz.func77.trans (congrArg some (by kernel_rfl))
  f243 := Tryz.func118.trans (congrArg some (by kernel_rfl))
  f246 := Tryz.func137.trans (congrArg some (by kernel_rfl))
  f283 := Tryz.func159.trans (congrArg some (by kernel_rfl))
  f284 := Tryz.func160.trans (congrArg some (by kernel_rfl))
  f285 := Tryz.func161.trans (congrArg some (by kernel_rfl))
  f286 := Tryz.func162.trans (congrArg some (by kernel_rfl))
  f317 := Tryz.func173.trans (congrArg some (by kernel_rfl))
  f318 := Tryz.func174.trans (congrArg some (by kernel_rfl))
  f319 := Tryz.func175.trans (congrArg some (by kernel_rfl))
  f320 := Tryz.func176.trans (congrArg some (by kernel_rfl))
  f337 := Tryz.func178.trans (congrArg some (by kernel_rfl))
  f338 := Tryz.func179.trans (congrArg some (by kernel_rfl))
  t0 := Tryz.underlying0
  a0 := Tryz.isAgg0
  z0 := Tryz.sizeOf0
  v0 := Tryz.zeroValue0
  t2 := Tryz.underlying2
  a2 := Tryz.isAgg2
  z2 := Tryz.sizeOf2
  v2 := Tryz.zeroValue2
  t3 := Tryz.underlying3
  a3 := Tryz.isAgg3
  z3 := Tryz.sizeOf3
  v3 := Tryz.zeroValue3
  t4 := Tryz.underlying4
  a4 := Tryz.isAgg4
  z4 := Tryz.sizeOf4
  v4 := Tryz.zeroValue4
  t5 := Tryz.underlying5
  a5 := Tryz.isAgg5
  z5 := Tryz.sizeOf5
  v5 := Tryz.zeroValue5
  t9 := Tryz.underlying9
  a9 := Tryz.isAgg9
  z9 := Tryz.sizeOf9
  v9 := Tryz.zeroValue9
  t20 := Tryz.underlying20
  a20 := Tryz.isAgg20
  z20 := Tryz.sizeOf20
  v20 := Tryz.zeroValue20
  t37 := Tryz.underlying82
  a37 := Tryz.isAgg82
  z37 := Tryz.sizeOf82
  v37 := Tryz.zeroValue82
  t46 := Tryz.underlying134
  a46 := Tryz.isAgg134
  z46 := Tryz.sizeOf134
  v46 := Tryz.zeroValue134
  t51 := Tryz.underlying126
  a51 := Tryz.isAgg126
  z51 := Tryz.sizeOf126
  v51 := Tryz.zeroValue126
  t53 := Tryz.underlying142
  a53 := Tryz.isAgg142
  z53 := Tryz.sizeOf142
  v53 := Tryz.zeroValue142
  t171 := Tryz.underlying158
  a171 := Tryz.isAgg158
  z171 := Tryz.sizeOf158
  v171 := Tryz.zeroValue158
  t173 := Tryz.underlying160
  a173 := Tryz.isAgg160
  z173 := Tryz.sizeOf160
  v173 := Tryz.zeroValue160
  t212 := Tryz.underlying171
  a212 := Tryz.isAgg171
  z212 := Tryz.sizeOf171
  v212 := Tryz.zeroValue171
  t213 := Tryz.underlying172
  a213 := Tryz.isAgg172
  z213 := Tryz.sizeOf172
  t232 := Tryz.underlying180
  a232 := Tryz.isAgg180
  z232 := Tryz.sizeOf180
  v232 := Tryz.zeroValue180
  t233 := Tryz.underlying181
  a233 := Tryz.isAgg181
  z233 := Tryz.sizeOf181
  v233 := Tryz.zeroValue181
  g17 := by kernel_rfl
  g18 := by kernel_rfl
  g19 := by kernel_rfl
  i0 := by kernel_rfl
  i2 := by kernel_rfl
  i3 := by kernel_rfl
  i4 := by kernel_rfl
  i5 := by kernel_rfl
  i9 := by kernel_rfl
  i20 := by kernel_rfl
  i37 := by kernel_rfl
  i46 := by kernel_rfl
  i51 := by kernel_rfl
  i53 := by kernel_rfl
  i171 := by kernel_rfl
  i173 := by kernel_rfl
  i212 := by kernel_rfl
  i232 := by kernel_rfl
  i233 := by kernel_rfl
  m17 := by kernel_rfl
  m18 := by kernel_rfl
  m19 := by kernel_rfl }
end Go.Proofs.YtapiedeekbfpnaaGreatDoor

/- A machine does a line: it reads, it lists, it tells a size, a sum. -/
namespace Go.Proofs.YtapiedeekbfpnaaGreatDoor
open Go.RowKit Go.Shelf Go.Maps Go.WideMaps Go.Sort

theorem Itoa_any (n : Nat) (hn : n ≤ 1000000) (w : World) (h : Env w) :
    Calls Tryz.prog 77 #[.int .i64 (n : Int)] w fun e w' => e = .returned (.string (bA (Lib.decDigits n))) ∧ Below w.heap.size w w' := by
  refine (Any.strconv_Itoa laysI (n : Int) (by omega) (by omega) w h.2.2).mono ?_
  rintro e w' ⟨rfl, k, os, rfl⟩
  refine ⟨?_, ⟨rfl, rfl, rfl, ?_, ?_⟩⟩
  · have e : Lib.itoa (n : Int) = Lib.decDigits n := by
      unfold Lib.itoa
      rw [if_neg (by omega)]
      rfl
    rw [e]
    rfl
  · simp [grow]
  · intro g hg
    rw [heap_grow_old _ _ (by simpa using hg)]
    rfl

set_option maxHeartbeats 1000000 in
set_option maxRecDepth 100000 in
theorem deed_read (m : Mc) (P bx : Nat) (ao : Option Addr) (cap : Nat) (F : List Fl) (l : Ln) (w : World) (h : McAt w P m) (hx : w.cell? ⟨bx, 0, none⟩ = some (.pointer (some ⟨P, 0, none⟩))) (hfv : m.fv = .slice ao F.length cap) (hl : IsFl w ao F) (hF : TrOk F) (hf : m.fuel ≤ 1000000) (hr : l.r < 8) :
    Calls Tryz.prog 69 #[.agg (lnC l), .pointer (some ⟨bx, 0, none⟩)] w fun e w' => e = .returned (.tuple #[]) ∧ McAt w' P (rdM F m l.r l.pa) ∧ UpB P w w' := by
  have hbl : bx < w.heap.size := World.block_lt_of_cell? w ⟨bx, 0, none⟩ hx
  obtain ⟨W, hW⟩ : ∃ W, W = w.alloc (.cells (lnC l) 67) := ⟨_, rfl⟩
  have hb : Below w.heap.size w W := by rw [hW]; exact (Below.refl _ w).alloc (Nat.le_refl _) _
  have hP := mread_any m P l.r l.pa ao cap F W (h.below hb) hfv (hl.below hb (Nat.le_refl _)) hF.up (by have := hF.ln; omega) hf hr (fun f hf => by have := (flE_pa (hF.fl f hf)).2; omega)
  have HP : Hid (Calls Tryz.prog 70 #[.pointer (some ⟨P, 0, none⟩), .int .i64 (l.r : Int), .string l.pa] W fun e w' => e = .returned (.tuple #[]) ∧ Hid (McAt w' P (rdM F m l.r l.pa) ∧ UpB P w w')) := hP.mono fun e w' q => ⟨q.1, q.2.1, (UpB.of_below hb).trans q.2.2⟩
  have hx2 : W.cell? ⟨bx, 0, none⟩ = some (.pointer (some ⟨P, 0, none⟩)) := (hb.cell (p := ⟨bx, 0, none⟩) hbl).trans hx
  rw [hW] at HP hx2
  clear h hf hr hP hb hW hx hfv hl hF
  unfold lnC at *
  go_enter Tryz.func69, Tryz.ntmps69
  go_wp2_with (first
    | (go_at_call 70; refine HP.out.mono ?_; rintro e w1 ⟨rfl, H1⟩)
    | go_in)
  go_end0
  exact ⟨rfl, H1.out⟩

theorem flE_pa100 {f : Fl} (h : flE f = 0) : f.pa.size ≤ 100 := by
  have := (flE_pa h).1
  unfold pathOk at this
  rw [Bool.and_eq_true] at this
  exact of_decide_eq_true this.1
/-- The cells that a deed reads stay over a call that only makes. -/
theorem sum_facts {w W : World} {bx P : Nat} {l : Ln} {m : Mc} (hW : W = w.alloc (.cells (lnC l) 67)) (h : McAt w P m) (hx : w.cell? ⟨bx, 0, none⟩ = some (.pointer (some ⟨P, 0, none⟩))) (hbp : bx ≠ P) :
    (∀ V : World, Below W.heap.size W V → McAt V P m ∧ V.cell? ⟨bx, 0, none⟩ = some (.pointer (some ⟨P, 0, none⟩)) ∧ V.heap[w.heap.size]? = some (.cells (lnC l) 67 (0, 0))) ∧
    (∀ V V' : World, Below W.heap.size W V → UpB P V V' → V'.cell? ⟨bx, 0, none⟩ = some (.pointer (some ⟨P, 0, none⟩)) ∧ V'.heap[w.heap.size]? = some (.cells (lnC l) 67 (0, 0)) ∧ UpB P w V') := by
  have hbl : bx < w.heap.size := World.block_lt_of_cell? w ⟨bx, 0, none⟩ hx
  have hb : Below w.heap.size w W := by rw [hW]; exact (Below.refl _ w).alloc (Nat.le_refl _) _
  have hL : W.heap[w.heap.size]? = some (.cells (lnC l) 67 (0, 0)) := by rw [hW]; exact heap_alloc_new w _
  have hsz : W.heap.size = w.heap.size + 1 := by rw [hW]; exact World.size_alloc _ _
  have hPl := h.lt
  have key : ∀ V : World, Below W.heap.size W V → McAt V P m ∧ V.cell? ⟨bx, 0, none⟩ = some (.pointer (some ⟨P, 0, none⟩)) ∧ V.heap[w.heap.size]? = some (.cells (lnC l) 67 (0, 0)) := fun V hV =>
    ⟨(h.below hb).below hV, (hV.cell (p := ⟨bx, 0, none⟩) (by show bx < _; omega)).trans ((hb.cell (p := ⟨bx, 0, none⟩) hbl).trans hx), (hV.block _ (by omega)).trans hL⟩
  refine ⟨key, fun V V' hV hU => ?_⟩
  obtain ⟨_, k2, k3⟩ := key V hV
  have hs := hV.size
  refine ⟨(cell_same (hU.block bx (by omega) hbp) 0).trans k2, (hU.block _ (by omega) (by omega)).trans k3, ?_⟩
  exact (UpB.of_below (below_low hb hV (by omega))).trans hU

set_option maxHeartbeats 2000000 in
set_option maxRecDepth 100000 in
theorem deed_list (m : Mc) (P bx : Nat) (ao : Option Addr) (cap : Nat) (F : List Fl) (l : Ln) (w : World) (h : McAt w P m) (hx : w.cell? ⟨bx, 0, none⟩ = some (.pointer (some ⟨P, 0, none⟩))) (hbp : bx ≠ P) (hfv : m.fv = .slice ao F.length cap) (hl : IsFl w ao F) (hF : TrOk F) (hf : m.fuel ≤ 1000000) (hr : l.r < 8) (hps : l.pa.size ≤ 1000000) :
    Calls Tryz.prog 71 #[.agg (lnC l), .pointer (some ⟨bx, 0, none⟩)] w fun e w' => e = .returned (.tuple #[]) ∧ McAt w' P (putM m l.r (lstF F l.pa)) ∧ UpB P w w' := by
  obtain ⟨W, hW⟩ : ∃ W, W = w.alloc (.cells (lnC l) 67) := ⟨_, rfl⟩
  have hb : Below w.heap.size w W := by rw [hW]; exact (Below.refl _ w).alloc (Nat.le_refl _) _
  obtain ⟨f1, f2⟩ := sum_facts hW h hx hbp
  have hlen : (lstF F l.pa).size ≤ 1000000 := by
    have h1 := lstL_len F l.pa fun f hf => flE_pa100 (hF.fl f hf)
    have h2 : (lstF F l.pa).size = (lstL F l.pa).length := by simp [lstF, bA, ByteArray.size]
    have := hF.ln
    omega
  obtain ⟨k1, k2, k3⟩ := f1 W.drew (Below.refl _ W).drew
  have hC := mlist_any m P l.pa ao cap F W.drew k1 hfv (hl.below hb.drew (Nat.le_refl _)) (by have := hF.ln; omega) (fun f hf => flE_pa100 (hF.fl f hf)) hps
  have HC : Hid (Calls Tryz.prog 72 #[.pointer (some ⟨P, 0, none⟩), .string l.pa] W.drew fun e w' => e = .returned (.string (lstF F l.pa)) ∧ (w'.cell? ⟨bx, 0, none⟩ = some (.pointer (some ⟨P, 0, none⟩)) ∧ w'.cell? ⟨w.heap.size, 1, none⟩ = some (.int .i64 (l.r : Int)) ∧ w'.cell? ⟨w.heap.size, 3, none⟩ = some (.string l.pa)) ∧ Hid (Below W.heap.size W w')) := hC.mono fun e w' q => by
    have q2 : Below W.heap.size W w' := ⟨q.2.os, q.2.tape, q.2.output, q.2.size, q.2.block⟩
    obtain ⟨_, j2, j3⟩ := f1 w' q2
    exact ⟨q.1, ⟨j2, by rw [Lib.cell_of_heap j3]; rfl, by rw [Lib.cell_of_heap j3]; rfl⟩, q2⟩
  have HP : Hid (∀ V : World, Hid (Below W.heap.size W V) → Calls Tryz.prog 68 #[.pointer (some ⟨P, 0, none⟩), .int .i64 (l.r : Int), .string (lstF F l.pa)] V fun e w' => e = .returned (.tuple #[]) ∧ (w'.cell? ⟨bx, 0, none⟩ = some (.pointer (some ⟨P, 0, none⟩)) ∧ w'.cell? ⟨w.heap.size, 1, none⟩ = some (.int .i64 (l.r : Int)) ∧ w'.cell? ⟨w.heap.size, 3, none⟩ = some (.string l.pa)) ∧ Hid (McAt w' P (putM m l.r (lstF F l.pa)) ∧ UpB P w w')) := fun V hV => (put_any m P l.r (lstF F l.pa) V (f1 V hV.out).1 hf hr hlen).mono fun e w' q => by
    obtain ⟨j1, j2, j3⟩ := f2 V w' hV.out q.2.2
    exact ⟨q.1, ⟨j1, by rw [Lib.cell_of_heap j2]; rfl, by rw [Lib.cell_of_heap j2]; rfl⟩, q.2.1, j3⟩
  have HS : Hid (W.drew.cell? ⟨bx, 0, none⟩ = some (.pointer (some ⟨P, 0, none⟩)) ∧ W.drew.cell? ⟨w.heap.size, 1, none⟩ = some (.int .i64 (l.r : Int)) ∧ W.drew.cell? ⟨w.heap.size, 3, none⟩ = some (.string l.pa)) := ⟨k2, by rw [Lib.cell_of_heap k3]; rfl, by rw [Lib.cell_of_heap k3]; rfl⟩
  rw [hW] at HC HP HS
  generalize lstF F l.pa = res at *
  clear h hf hC hb hW hx f1 f2 k1 k2 k3 hfv hl hF hlen hr hps hbp
  unfold lnC at *
  go_enter Tryz.func71, Tryz.ntmps71
  go_wp2
  go_region_held3 (fun V => V.cell? ⟨bx, 0, none⟩ = some (.pointer (some ⟨P, 0, none⟩)) ∧ V.cell? ⟨w.heap.size, 1, none⟩ = some (.int .i64 (l.r : Int)) ∧ V.cell? ⟨w.heap.size, 3, none⟩ = some (.string l.pa)) (first | assumption | exact HS.out | go_keep) (first
    | (go_at_call 72; refine HC.out.mono ?_; rintro e w1 ⟨rfl, hS1, H1⟩)
    | (go_at_call 68; refine (HP.out _ H1).mono ?_; rintro e w2 ⟨rfl, hS2, H2⟩)
    | fail)
  all_goals
    go_wp2
    go_end0
    exact ⟨rfl, H2.out⟩
end Go.Proofs.YtapiedeekbfpnaaGreatDoor
