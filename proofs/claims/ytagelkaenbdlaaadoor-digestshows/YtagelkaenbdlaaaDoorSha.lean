/- The digest's own sum: what each step of it does. -/
import Derived.Test.YtagelkaenbdlaaaDoorArr
import Derived.ProofKit
import Derived.WalkLawsBesides
import Derived.Below
import Derived.Deep.RegionHeld3
import Derived.Deep.MidRow
import Derived.Lib.Builder
namespace Go.Proofs.YtagelkaenbdlaaaDoor
open Go.RowKit

def rotR (x : Int) (n : Nat) : Int := bits .or .u32 (IntKind.u32.wrap (x * 2 ^ (32 - n))) (x / 2 ^ n)

theorem rot_and : ∀ n : Nat, n < 32 → 1 ≤ n → bits .and .u64 (IntKind.u64.wrap (-(n : Int))) 31 = ((32 - n : Nat) : Int) := by decide

set_option maxHeartbeats 1000000 in
theorem rl_any (x : Int) (n : Nat) (w : World) (h1 : 1 ≤ n) (h2 : n ≤ 31) :
    Calls Tryd.prog 67 #[.int .u32 x, .int .i64 (-(n : Int))] w fun e w' => e = .returned (.int .u32 (rotR x n)) ∧ w' = w := by
  have hb := rot_and n (by omega) h1
  obtain ⟨m, hm⟩ : ∃ m, m = 32 - n := ⟨_, rfl⟩
  rw [← hm] at hb
  have hs1 : Op.shift .shl .u32 x .u64 (m : Int) = pure (.int .u32 (IntKind.u32.wrap (x * 2 ^ m))) := by
    rw [shift_shl _ _ _ _ (by omega) (by show (m : Int) ≤ 32; omega)]
    rfl
  have hs2 : Op.shift .shr .u32 x .u64 (n : Int) = pure (.int .u32 (x / 2 ^ n)) := by
    rw [shift_shr _ _ _ _ (by omega) (by show (n : Int) ≤ 32; omega)]
    rfl
  have hw : IntKind.u64.wrap (32 - (m : Int)) = n := by rw [IntKind.wrap_u64]; omega
  have HR : Hid (rotR x n = bits .or .u32 (IntKind.u32.wrap (x * 2 ^ m)) (x / 2 ^ n)) := by show _ = _; unfold rotR; rw [hm]
  clear hm h1 h2
  go_enter Tryd.func67, Tryd.ntmps67
  go_wp2
  go_ret
  exact ⟨by rw [HR.out]; rfl, rfl⟩

set_option maxHeartbeats 1000000 in
theorem turned_any (x : Int) (n : Nat) (w : World) (h1 : 1 ≤ n) (h2 : n ≤ 31) :
    Calls Tryd.prog 59 #[.int .u32 x, .int .i64 n] w fun e w' => e = .returned (.int .u32 (rotR x n)) ∧ w' = w := by
  have hw : IntKind.i64.wrap (-(n : Int)) = -(n : Int) := by rw [IntKind.wrap_i64]; omega
  go_enter Tryd.func59, Tryd.ntmps59
  go_wp2_with fail
  refine (rl_any x n w h1 h2).mono ?_
  rintro e w1 ⟨rfl, rfl⟩
  go_wp2
  go_ret
  exact ⟨rfl, rfl⟩

theorem below8 {B b : Nat} {w w' : World} (h : Below B w w') (hb : B ≤ b) (v0 v1 v2 v3 v4 v5 v6 v7 : Value) : Below B w ((((((((w'.setCell ⟨b, 0, none⟩ v0).setCell ⟨b, 1, none⟩ v1).setCell ⟨b, 2, none⟩ v2).setCell ⟨b, 3, none⟩ v3).setCell ⟨b, 4, none⟩ v4).setCell ⟨b, 5, none⟩ v5).setCell ⟨b, 6, none⟩ v6).setCell ⟨b, 7, none⟩ v7) :=
  (((((((h.setCell (p := ⟨b, 0, none⟩) hb _).setCell (p := ⟨b, 1, none⟩) hb _).setCell (p := ⟨b, 2, none⟩) hb _).setCell (p := ⟨b, 3, none⟩) hb _).setCell (p := ⟨b, 4, none⟩) hb _).setCell (p := ⟨b, 5, none⟩) hb _).setCell (p := ⟨b, 6, none⟩) hb _).setCell (p := ⟨b, 7, none⟩) hb _
theorem eight {l : List Int} (h : l.length = 8) : ∃ a0 a1 a2 a3 a4 a5 a6 a7, l = [a0, a1, a2, a3, a4, a5, a6, a7] := by
  match l, h with
  | [a0, a1, a2, a3, a4, a5, a6, a7], _ => exact ⟨a0, a1, a2, a3, a4, a5, a6, a7, rfl⟩

/-- The numbers of a variable of the program lie where they were laid. -/
def LaidAt (g : Nat) (w : World) (l : List Int) : Prop := ∀ j (hj : j < l.length), w.cell? ⟨g, j, none⟩ = some (.int .u32 l[j])
theorem LaidAt.up {g B : Nat} {w w' : World} {l : List Int} (h : LaidAt g w l) (hb : Below B w w') (hB : g < B) : LaidAt g w' l := fun j hj => (hb.cell (p := ⟨g, j, none⟩) hB).trans (h j hj)

set_option maxHeartbeats 4000000 in
set_option maxRecDepth 100000 in
theorem newState_any (w : World) (sq : List Int) (hl : sq.length = 8) (hg : LaidAt 0 w sq) :
    Calls Tryd.prog 29 #[] w fun e w' => e = .returned (arr sq) ∧ Below w.heap.size w w' := by
  have hz : 0 < w.heap.size := World.block_lt_of_cell? w ⟨0, 0, none⟩ (hg 0 (by omega))
  have HG : Hid _ := hg
  clear hg
  go_enter Tryd.func29, Tryd.ntmps29
  go_wp2
  go_loopw [3] (fun i wr => ∃ (k : Nat) (l : List Int), k ≤ 8 ∧ i = .int .i64 k ∧ l.length = 8 ∧ (∀ j (hj : j < sq.length) (hj' : j < l.length), j < k → l[j] = sq[j]) ∧ ArrAt wr (w.heap.size + 1) 50 l ∧ ArrAt wr w.heap.size 50 [0, 0, 0, 0, 0, 0, 0, 0] ∧ Below w.heap.size w wr) (fun i _ => 8 - (intOf i).toNat)
  case atStart =>
    refine ⟨0, [0, 0, 0, 0, 0, 0, 0, 0], by omega, rfl, rfl, by omega, ?_, ?_, ((Below.refl _ _).alloc (Nat.le_refl _) _).alloc (by simp) _⟩
    · have := ArrAt.new (w.alloc (.cells #[.int .u32 0, .int .u32 0, .int .u32 0, .int .u32 0, .int .u32 0, .int .u32 0, .int .u32 0, .int .u32 0] 50)) 50 [0, 0, 0, 0, 0, 0, 0, 0]
      rw [World.size_alloc] at this
      exact this
    · exact (ArrAt.new w 50 [0, 0, 0, 0, 0, 0, 0, 0]).up ((Below.refl (w.heap.size + 1) _).alloc (by simp) _) (Nat.lt_succ_self _)
  case round =>
    obtain ⟨k, l, hk, rfl, hll, hlo, hA, hR, hb⟩ := hrel
    have HLO : Hid _ := hlo
    have HA : Hid (ArrAt wr (w.heap.size + 1) 50 l) := hA
    have HR : Hid (ArrAt wr w.heap.size 50 [0, 0, 0, 0, 0, 0, 0, 0]) := hR
    have HB : Hid (Below w.heap.size w wr) := hb
    clear hlo hA hR hb
    by_cases hlt : k < 8
    · have c0 := LaidAt.up HG.out HB.out hz k (by omega)
      have c1 := HA.out.cell k (by omega)
      have c2 := HA.out.fro k
      have i2 : (k : Int) < 8 := by omega
      go_wp2
      refine ⟨⟨k + 1, l.set k sq[k], by omega, by go_num, by simpa using hll, fun j hj hj' hjk => ?_, HA.out.set k _, HR.out.other k _ (by omega), HB.out.setCell (p := ⟨w.heap.size + 1, k, none⟩) (Nat.le_succ _) _⟩, by simp [intOf]; omega⟩
      rw [List.getElem_set]
      by_cases h : k = j
      · subst h; simp
      · rw [if_neg h]
        exact HLO.out j hj (by simpa using hj') (by omega)
    · obtain rfl : k = 8 := by omega
      obtain rfl : l = sq := List.ext_getElem (by omega) fun j h1 h2 => HLO.out j h2 h1 (by omega)
      obtain ⟨a0, a1, a2, a3, a4, a5, a6, a7, rfl⟩ := eight hl
      have c0 := HA.out.cell 0 (by simp)
      have c1 := HA.out.cell 1 (by simp)
      have c2 := HA.out.cell 2 (by simp)
      have c3 := HA.out.cell 3 (by simp)
      have c4 := HA.out.cell 4 (by simp)
      have c5 := HA.out.cell 5 (by simp)
      have c6 := HA.out.cell 6 (by simp)
      have c7 := HA.out.cell 7 (by simp)
      have z0 := HR.out.cell 0 (by decide)
      have f0 := HR.out.fro 0
      have z1 := HR.out.cell 1 (by decide)
      have f1 := HR.out.fro 1
      have z2 := HR.out.cell 2 (by decide)
      have f2 := HR.out.fro 2
      have z3 := HR.out.cell 3 (by decide)
      have f3 := HR.out.fro 3
      have z4 := HR.out.cell 4 (by decide)
      have f4 := HR.out.fro 4
      have z5 := HR.out.cell 5 (by decide)
      have f5 := HR.out.fro 5
      have z6 := HR.out.cell 6 (by decide)
      have f6 := HR.out.fro 6
      have z7 := HR.out.cell 7 (by decide)
      have f7 := HR.out.fro 7
      simp only [List.getElem_cons_zero, List.getElem_cons_succ] at c0 c1 c2 c3 c4 c5 c6 c7 z0 z1 z2 z3 z4 z5 z6 z7
      go_wp2
      refine bodyPost_ret (v := arr [a0, a1, a2, a3, a4, a5, a6, a7]) (by simp [results, Tryd.results29, go_sem, z0, z1, z2, z3, z4, z5, z6, z7, arr, nums]) rfl ⟨rfl, below8 HB.out (Nat.le_refl _) _ _ _ _ _ _ _ _⟩
end Go.Proofs.YtagelkaenbdlaaaDoor
