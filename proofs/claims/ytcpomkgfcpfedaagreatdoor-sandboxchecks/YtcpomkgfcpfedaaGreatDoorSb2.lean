/- Two lines are run: what must be in any case. -/
import Derived.Test.YtcpomkgfcpfedaaGreatDoorSbZ
namespace Go.Proofs.YtcpomkgfcpfedaaGreatDoor
open Go.RowKit Go.Shelf Go.Maps Go.WideMaps Go.Sort

def tSet : ByteArray := ⟨#[115, 101, 116]⟩
def tMake : ByteArray := ⟨#[109, 97, 107, 101]⟩
def tHi : ByteArray := ⟨#[104, 105]⟩
def tOut : ByteArray := ⟨#[111, 117, 116]⟩
def bl1 : Ln := ⟨tSet, 0, 0, ⟨#[]⟩, tHi, 0, 0⟩
def bl2 : Ln := ⟨tMake, 0, 0, tOut, ⟨#[]⟩, 0, 0⟩
def bm0 (fv : Value) (mp : Nat) : Mc := ⟨fv, mp, List.replicate 8 ⟨#[]⟩, 100, 0, false, 0⟩
def bm1 (fv : Value) (mp : Nat) : Mc := ⟨fv, mp, tHi :: List.replicate 7 ⟨#[]⟩, 99, 1, false, 0⟩
def bm2 (fv : Value) (mp : Nat) : Mc := ⟨fv, mp, tHi :: List.replicate 7 ⟨#[]⟩, 98, 2, false, 0⟩
def bfl : Fl := ⟨tOut, tHi, false⟩
theorem bput (fv : Value) (mp : Nat) : putM { bm0 fv mp with next := 1 } 0 tHi = bm1 fv mp := rfl
theorem bmk (fv : Value) (mp : Nat) : mkM { bm1 fv mp with next := 2 } [] bfl = bm2 fv mp := rfl
theorem bmkD (fv : Value) (mp : Nat) : mkD { bm1 fv mp with next := 2 } [] bfl (byD []) = byD [bfl] := by
  have h1 : mayF [] bfl.pa = true ∧ (burnM { bm1 fv mp with next := 2 } bfl.tx.size).2 = true := ⟨rfl, rfl⟩
  unfold mkD
  rw [if_pos h1]
  exact (byD_snoc [] bfl).symm
/-- Two lines in memory. -/
structure TwoAt (w : World) (g : Nat) : Prop where
  lt : g < w.heap.size
  a : ∀ j v, ((lnC bl1).toList ++ (lnC bl2).toList)[j]? = some v → w.cell? ⟨g, j, none⟩ = some v
theorem TwoAt.keep {w w' : World} {g : Nat} (h : TwoAt w g) (hh : w'.heap[g]? = w.heap[g]?) (hs : w.heap.size ≤ w'.heap.size) : TwoAt w' g := ⟨Nat.lt_of_lt_of_le h.lt hs, fun j v hv => (cell_same hh j).trans (h.a j v hv)⟩
theorem TwoAt.c {w : World} {g : Nat} (h : TwoAt w g) :
    (w.cell? ⟨g, 0, none⟩ = some (.string ⟨#[115, 101, 116]⟩) ∧ w.cell? ⟨g, 1, none⟩ = some (.int .i64 0) ∧ w.cell? ⟨g, 2, none⟩ = some (.int .i64 0) ∧ w.cell? ⟨g, 3, none⟩ = some (.string ⟨#[]⟩) ∧ w.cell? ⟨g, 4, none⟩ = some (.string ⟨#[104, 105]⟩) ∧ w.cell? ⟨g, 5, none⟩ = some (.int .i64 0) ∧ w.cell? ⟨g, 6, none⟩ = some (.int .i64 0)) ∧
    (w.cell? ⟨g, 7, none⟩ = some (.string ⟨#[109, 97, 107, 101]⟩) ∧ w.cell? ⟨g, 8, none⟩ = some (.int .i64 0) ∧ w.cell? ⟨g, 9, none⟩ = some (.int .i64 0) ∧ w.cell? ⟨g, 10, none⟩ = some (.string ⟨#[111, 117, 116]⟩) ∧ w.cell? ⟨g, 11, none⟩ = some (.string ⟨#[]⟩) ∧ w.cell? ⟨g, 12, none⟩ = some (.int .i64 0) ∧ w.cell? ⟨g, 13, none⟩ = some (.int .i64 0)) :=
  ⟨⟨h.a 0 _ rfl, h.a 1 _ rfl, h.a 2 _ rfl, h.a 3 _ rfl, h.a 4 _ rfl, h.a 5 _ rfl, h.a 6 _ rfl⟩, ⟨h.a 7 _ rfl, h.a 8 _ rfl, h.a 9 _ rfl, h.a 10 _ rfl, h.a 11 _ rfl, h.a 12 _ rfl, h.a 13 _ rfl⟩⟩

theorem rd {w1 : World} {P : Nat} {m : Mc} (hm : McAt w1 P m) (l : Ln) (x : Nat) :
    (w1.alloc (.cells (lnC l) 43)).cell? ⟨P, 11, none⟩ = some (.int .i64 (m.next : Int)) ∧ (w1.alloc (.cells (lnC l) 43)).frozen? ⟨P, 11, none⟩ = false ∧
    McAt ((w1.alloc (.cells (lnC l) 43)).setCell ⟨P, 11, none⟩ (.int .i64 (x : Int))) P { m with next := x } ∧ LnAt ((w1.alloc (.cells (lnC l) 43)).setCell ⟨P, 11, none⟩ (.int .i64 (x : Int))) w1.heap.size l ∧ UpB P w1 ((w1.alloc (.cells (lnC l) 43)).setCell ⟨P, 11, none⟩ (.int .i64 (x : Int))) := by
  have hb : Below w1.heap.size w1 (w1.alloc (.cells (lnC l) 43)) := (Below.refl _ w1).alloc (Nat.le_refl _) _
  have h1 := hm.below hb
  have hP := hm.lt
  refine ⟨h1.c11, h1.frozen 11, h1.setNext x, ?_, (UpB.of_below hb).trans (UpB.set P 11 _ _)⟩
  exact (Below.heap_setCell _ ⟨P, 11, none⟩ _ w1.heap.size (by show w1.heap.size ≠ P; omega)).trans (heap_alloc_new w1 _)
theorem ded_set : ∀ j, j < 13 → dedK[j]? = some (tSet.data.toList, []) → dedN[j]? = some 59 := by decide
theorem ded_make : ∀ j, j < 13 → dedK[j]? = some (tMake.data.toList, []) → dedN[j]? = some 72 := by decide
theorem dedK_lt {j : Nat} {x : List UInt8 × List Nat} (h : dedK[j]? = some x) : j < 13 := (List.getElem?_eq_some_iff.1 h).1

set_option maxHeartbeats 4000000 in
set_option maxRecDepth 100000 in
theorem run_begun (fv : Value) (P mp g cap : Nat) (w : World) (h : McAt w P (bm0 fv mp)) (ho : w.ownsMap Tryz.prog 9 fileE mp 0 (byD [])) (ht : TwoAt w g) (hne : mp ≠ P) (hgP : g ≠ P) :
    Calls Tryz.prog 22 #[.pointer (some ⟨P, 0, none⟩), .slice (some ⟨g, 0, none⟩) 2 cap] w fun e w' => e = .returned (.tuple #[]) ∧ McAt w' P (bm2 fv mp) ∧ (∃ n', n' ≤ 1 ∧ w'.ownsMap Tryz.prog 9 fileE mp n' (byD [bfl])) ∧ UpC P mp w w' := by
  have HND : Hid (Calls Tryz.prog 47 #[.pointer (some ⟨P, 0, none⟩)] w fun e w' => ∃ M bx, e = .returned (.map (some M)) ∧ Hid (DdI w.heap.size M bx P w 13 w')) := (newDeeds_any P w).mono fun e w' q => by obtain ⟨M, bx, q1, q2⟩ := q; exact ⟨M, bx, q1, q2⟩
  have HH : Hid (McAt w P (bm0 fv mp) ∧ w.ownsMap Tryz.prog 9 fileE mp 0 (byD []) ∧ TwoAt w g) := ⟨h, ho, ht⟩
  clear h ho ht
  go_enter Tryz.func22, Tryz.ntmps22
  go_wp2_with (first
    | (go_at_call 47; refine HND.out.mono ?_; rintro e w1 ⟨M, bx, rfl, HD⟩)
    | go_in)
  have hb1 := HD.out.bel
  have m1 := HH.out.1.below hb1
  have o1 := ownsMap_heap HH.out.2.1 (hb1.block mp HH.out.2.1.lt)
  have t1 := HH.out.2.2.keep (hb1.block g HH.out.2.2.lt) hb1.size
  have hMl := HD.out.lt
  have hlo := HD.out.lo
  have hbxl : bx < w1.heap.size := World.block_lt_of_cell? w1 ⟨bx, 0, none⟩ HD.out.env
  have hPl := HH.out.1.lt
  have hmpl := HH.out.2.1.lt
  have hgl := HH.out.2.2.lt
  obtain ⟨⟨a0, a1, a2, a3, a4, a5, a6⟩, _⟩ := t1.c
  have n1 : w1.cell? ⟨P, 11, none⟩ = some (.int .i64 0) := m1.c11
  have n2 : w1.cell? ⟨P, 12, none⟩ = some (.bool false) := m1.c12
  obtain ⟨r1, r2, r3, r4, r5⟩ := rd m1 bl1 1
  have r1 : (w1.alloc (.cells #[.string ⟨#[115, 101, 116]⟩, .int .i64 0, .int .i64 0, .string ⟨#[]⟩, .string ⟨#[104, 105]⟩, .int .i64 0, .int .i64 0] 43)).cell? ⟨P, 11, none⟩ = some (.int .i64 0) := r1
  have r2 : (w1.alloc (.cells #[.string ⟨#[115, 101, 116]⟩, .int .i64 0, .int .i64 0, .string ⟨#[]⟩, .string ⟨#[104, 105]⟩, .int .i64 0, .int .i64 0] 43)).frozen? ⟨P, 11, none⟩ = false := r2
  have r4 : ((w1.alloc (.cells #[.string ⟨#[115, 101, 116]⟩, .int .i64 0, .int .i64 0, .string ⟨#[]⟩, .string ⟨#[104, 105]⟩, .int .i64 0, .int .i64 0] 43)).setCell ⟨P, 11, none⟩ (.int .i64 1)).heap[w1.heap.size]? = some (.cells #[.string ⟨#[115, 101, 116]⟩, .int .i64 0, .int .i64 0, .string ⟨#[]⟩, .string ⟨#[104, 105]⟩, .int .i64 0, .int .i64 0] 43 (0, 0)) := r4
  obtain ⟨⟨b0, _⟩, ⟨b1, _⟩, ⟨b2, _⟩, ⟨b3, _⟩, ⟨b4, _⟩, ⟨b5, _⟩, ⟨b6, _⟩⟩ := ln_cells r4
  obtain ⟨j1, n1', k1, k2, k3⟩ := look_deed HD.out tSet (by decide) (f := [0, 6]) rfl
  rw [ded_set j1 (dedK_lt k1) k1] at k2
  obtain rfl := Option.some.inj k2
  have hlk1 := k3 ((w1.alloc (.cells #[.string ⟨#[115, 101, 116]⟩, .int .i64 0, .int .i64 0, .string ⟨#[]⟩, .string ⟨#[104, 105]⟩, .int .i64 0, .int .i64 0] 43)).setCell ⟨P, 11, none⟩ (.int .i64 1)) (r5.block M hMl (by omega))
  have hlk1 : (Instr.lookup 75 (.map (some M)) (.string ⟨#[115, 101, 116]⟩) false).run Tryz.prog ((w1.alloc (.cells #[.string ⟨#[115, 101, 116]⟩, .int .i64 0, .int .i64 0, .string ⟨#[]⟩, .string ⟨#[104, 105]⟩, .int .i64 0, .int .i64 0] 43)).setCell ⟨P, 11, none⟩ (.int .i64 1)) = .ok (.func (.func 59) #[] #[.pointer (some ⟨bx, 0, none⟩)]) ((w1.alloc (.cells #[.string ⟨#[115, 101, 116]⟩, .int .i64 0, .int .i64 0, .string ⟨#[]⟩, .string ⟨#[104, 105]⟩, .int .i64 0, .int .i64 0] 43)).setCell ⟨P, 11, none⟩ (.int .i64 1)) := hlk1
  have hds := deed_set { bm0 fv mp with next := 1 } P bx bl1 _ r3 ((cell_same (r5.block bx hbxl (by omega)) 0).trans HD.out.env) (show 100 ≤ 1000000 by decide) (show 0 < 8 by decide) (by decide)
  have HDS : Hid (Calls Tryz.prog 59 #[.agg #[.string ⟨#[115, 101, 116]⟩, .int .i64 0, .int .i64 0, .string ⟨#[]⟩, .string ⟨#[104, 105]⟩, .int .i64 0, .int .i64 0], .pointer (some ⟨bx, 0, none⟩)] ((w1.alloc (.cells #[.string ⟨#[115, 101, 116]⟩, .int .i64 0, .int .i64 0, .string ⟨#[]⟩, .string ⟨#[104, 105]⟩, .int .i64 0, .int .i64 0] 43)).setCell ⟨P, 11, none⟩ (.int .i64 1)) fun e w' => e = .returned (.tuple #[]) ∧ Hid (McAt w' P (bm1 fv mp) ∧ UpB P w1 w')) := hds.mono fun e w' q => ⟨q.1, q.2.1, r5.trans q.2.2⟩
  have HK : Hid (DdI w.heap.size M bx P w 13 w1 ∧ w1.ownsMap Tryz.prog 9 fileE mp 0 (byD []) ∧ TwoAt w1 g ∧ (P < w.heap.size ∧ mp < w.heap.size ∧ g < w.heap.size ∧ w.heap.size ≤ bx ∧ bx < M ∧ M < w1.heap.size ∧ w.heap.size ≤ w1.heap.size)) := ⟨HD.out, o1, t1, hPl, hmpl, hgl, hlo.1, hlo.2, hMl, hb1.size⟩
  clear r3 r5 hds k1 k3 r4 hb1 m1 o1 t1
  refine wp_loop_rounds 3 ?_
  rw [rounds_succ]
  go_wp2_with (first
    | (go_at_call 59; refine HDS.out.mono ?_; rintro e w4 ⟨rfl, H4⟩)
    | go_in)
  clear a0 a1 a2 a3 a4 a5 a6 n1 n2 r1 r2 b0 b1 b2 b3 b4 b5 b6 hlk1 HDS
  have u4 := H4.out.2
  have m4 := H4.out.1
  have o4 := ownsMap_heap HK.out.2.1 (u4.block mp (by omega) hne)
  have t4 := HK.out.2.2.1.keep (u4.block g (by omega) hgP) u4.size
  have x4 : w4.cell? ⟨bx, 0, none⟩ = some (.pointer (some ⟨P, 0, none⟩)) := (cell_same (u4.block bx hbxl (by omega)) 0).trans HK.out.1.env
  obtain ⟨_, ⟨a0, a1, a2, a3, a4, a5, a6⟩⟩ := t4.c
  have n1 : w4.cell? ⟨P, 11, none⟩ = some (.int .i64 1) := m4.c11
  have n2 : w4.cell? ⟨P, 12, none⟩ = some (.bool false) := m4.c12
  obtain ⟨r1, r2, r3, r4, r5⟩ := rd m4 bl2 2
  have r1 : (w4.alloc (.cells #[.string ⟨#[109, 97, 107, 101]⟩, .int .i64 0, .int .i64 0, .string ⟨#[111, 117, 116]⟩, .string ⟨#[]⟩, .int .i64 0, .int .i64 0] 43)).cell? ⟨P, 11, none⟩ = some (.int .i64 1) := r1
  have r2 : (w4.alloc (.cells #[.string ⟨#[109, 97, 107, 101]⟩, .int .i64 0, .int .i64 0, .string ⟨#[111, 117, 116]⟩, .string ⟨#[]⟩, .int .i64 0, .int .i64 0] 43)).frozen? ⟨P, 11, none⟩ = false := r2
  have r4 : ((w4.alloc (.cells #[.string ⟨#[109, 97, 107, 101]⟩, .int .i64 0, .int .i64 0, .string ⟨#[111, 117, 116]⟩, .string ⟨#[]⟩, .int .i64 0, .int .i64 0] 43)).setCell ⟨P, 11, none⟩ (.int .i64 2)).heap[w4.heap.size]? = some (.cells #[.string ⟨#[109, 97, 107, 101]⟩, .int .i64 0, .int .i64 0, .string ⟨#[111, 117, 116]⟩, .string ⟨#[]⟩, .int .i64 0, .int .i64 0] 43 (0, 0)) := r4
  obtain ⟨⟨b0, _⟩, ⟨b1, _⟩, ⟨b2, _⟩, ⟨b3, _⟩, ⟨b4, _⟩, ⟨b5, _⟩, ⟨b6, _⟩⟩ := ln_cells r4
  obtain ⟨j1, n1', k1, k2, k3⟩ := look_deed HK.out.1 tMake (by decide) (f := [7, 0]) rfl
  rw [ded_make j1 (dedK_lt k1) k1] at k2
  obtain rfl := Option.some.inj k2
  have h4s := u4.size
  have hlk1 := k3 ((w4.alloc (.cells #[.string ⟨#[109, 97, 107, 101]⟩, .int .i64 0, .int .i64 0, .string ⟨#[111, 117, 116]⟩, .string ⟨#[]⟩, .int .i64 0, .int .i64 0] 43)).setCell ⟨P, 11, none⟩ (.int .i64 2)) ((r5.block M (by omega) (by omega)).trans (u4.block M hMl (by omega)))
  have hlk1 : (Instr.lookup 75 (.map (some M)) (.string ⟨#[109, 97, 107, 101]⟩) false).run Tryz.prog ((w4.alloc (.cells #[.string ⟨#[109, 97, 107, 101]⟩, .int .i64 0, .int .i64 0, .string ⟨#[111, 117, 116]⟩, .string ⟨#[]⟩, .int .i64 0, .int .i64 0] 43)).setCell ⟨P, 11, none⟩ (.int .i64 2)) = .ok (.func (.func 72) #[] #[.pointer (some ⟨bx, 0, none⟩)]) ((w4.alloc (.cells #[.string ⟨#[109, 97, 107, 101]⟩, .int .i64 0, .int .i64 0, .string ⟨#[111, 117, 116]⟩, .string ⟨#[]⟩, .int .i64 0, .int .i64 0] 43)).setCell ⟨P, 11, none⟩ (.int .i64 2)) := hlk1
  have hds := deed_make { bm1 fv mp with next := 2 } P bx 0 [] bl2 tHi _ r3 ((cell_same (r5.block bx (by omega) (by omega)) 0).trans x4) (show 99 ≤ 1000000 by decide) (show 0 < 8 by decide) rfl (by decide) (by decide) (ownsMap_heap o4 (r5.block mp (by omega) hne)) List.nodup_nil (by decide) hne (by omega)
  have HDS : Hid (Calls Tryz.prog 72 #[.agg #[.string ⟨#[109, 97, 107, 101]⟩, .int .i64 0, .int .i64 0, .string ⟨#[111, 117, 116]⟩, .string ⟨#[]⟩, .int .i64 0, .int .i64 0], .pointer (some ⟨bx, 0, none⟩)] ((w4.alloc (.cells #[.string ⟨#[109, 97, 107, 101]⟩, .int .i64 0, .int .i64 0, .string ⟨#[111, 117, 116]⟩, .string ⟨#[]⟩, .int .i64 0, .int .i64 0] 43)).setCell ⟨P, 11, none⟩ (.int .i64 2)) fun e w' => e = .returned (.tuple #[]) ∧ Hid (McAt w' P (bm2 fv mp) ∧ (∃ n', n' ≤ 1 ∧ w'.ownsMap Tryz.prog 9 fileE mp n' (byD [bfl])) ∧ UpC P mp w w')) := hds.mono fun e w' q => by
    obtain ⟨q0, q1, ⟨n', q2, q3⟩, q4⟩ := q
    refine ⟨q0, q1, ⟨n', q2, ?_⟩, ?_⟩
    · have e1 := bmkD fv mp
      have q3 : w'.ownsMap Tryz.prog 9 fileE mp n' (mkD { bm1 fv mp with next := 2 } [] bfl (byD [])) := q3
      rw [e1] at q3
      exact q3
    · have h0 : UpC P mp w w1 := ⟨HK.out.1.bel.os, HK.out.1.bel.tape, HK.out.1.bel.output, HK.out.1.bel.size, fun g hg _ _ => HK.out.1.bel.block g hg⟩
      exact ((h0.trans (UpC.of u4)).trans (UpC.of r5)).trans q4
  clear r3 r5 hds k1 k3 r4 m4 o4 t4 u4 x4
  rw [rounds_succ]
  go_wp2_with (first
    | (go_at_call 72; refine HDS.out.mono ?_; rintro e w7 ⟨rfl, H7⟩)
    | go_in)
  clear a0 a1 a2 a3 a4 a5 a6 n1 n2 r1 r2 b0 b1 b2 b3 b4 b5 b6 hlk1 HDS
  have n1 : w7.cell? ⟨P, 11, none⟩ = some (.int .i64 2) := H7.out.1.c11
  have n2 : w7.cell? ⟨P, 12, none⟩ = some (.bool false) := H7.out.1.c12
  rw [rounds_succ]
  go_wp2
  go_end0
  exact ⟨rfl, H7.out⟩
end Go.Proofs.YtcpomkgfcpfedaaGreatDoor
