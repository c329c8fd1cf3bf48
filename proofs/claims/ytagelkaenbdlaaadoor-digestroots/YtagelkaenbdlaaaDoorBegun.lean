/- What the statements of digests begin with: the sum of one text, and that a sum is a digest. -/
import Derived.Test.YtagelkaenbdlaaaDoorLaid
import Derived.Test.YtagelkaenbdlaaaDoorDig
import Derived.Test.YtagelkaenbdlaaaDoorTie
import Derived.Test.YtagelkaenbdlaaaDoorCards
import Derived.ProofKit
import Derived.OpenShut
import Derived.ShutString
import Derived.ChangeOld
import Derived.Below
import Derived.Lay
import Derived.HandedShaped
import Derived.SevenTiedAt
import Derived.Stop.Joined
import Derived.Shelf.Vars
namespace Go.Proofs.YtagelkaenbdlaaaDoor
open Go.ChangeShapes Go.WideShapes Go.ChangeAt Go.RowKit

theorem hexC_dig : ∀ n : Nat, n < 16 → digB ((UInt8.ofNat (hexC n)).toNat : Int) = true := by decide
theorem dgt_dig (x : Int) (j : Nat) : digB ((dgt x j).toNat : Int) = true := by
  have h := nib_lt x (28 - 4 * j)
  exact hexC_dig _ (by omega)
theorem dgs_len (l : List Int) : (dgs l).length = 8 * l.length := by
  induction l with
  | nil => rfl
  | cons a r ih =>
    show (dg a 8 ++ dgs r).length = _
    rw [List.length_append, ih]
    simp [dg]
    omega
theorem sum_dig (s : ByteArray) (sq : S8) (ks : List Int) : digOk (sumB s sq ks) = true := by
  have h1 : (sumB s sq ks).size = 64 := (dgs_len (sumS s sq ks).l).trans rfl
  unfold digOk
  rw [Bool.and_eq_true]
  refine ⟨by simp [h1], ?_⟩
  rw [Lib.toList_data, List.all_eq_true]
  intro c hc
  have hc' : c ∈ dgs (sumS s sq ks).l := hc
  obtain ⟨x, _, hx⟩ := List.mem_flatMap.1 hc'
  obtain ⟨j, _, rfl⟩ := List.mem_map.1 hx
  exact dgt_dig x j

/-- The two variables lie as they were laid. -/
def Roots (w : World) : Prop := LaidAt 0 w sq8.l ∧ LaidAt 1 w cuL
theorem Roots.lt {w : World} (h : Roots w) : 0 < w.heap.size ∧ 1 < w.heap.size :=
  ⟨World.block_lt_of_cell? w ⟨0, 0, none⟩ (h.1 0 (by decide)), World.block_lt_of_cell? w ⟨1, 0, none⟩ (h.2 0 (by rw [cuL_len]; decide))⟩
theorem Roots.up {w w' : World} (h : Roots w) (hb : Below w.heap.size w w') : Roots w' := ⟨h.1.up hb h.lt.1, h.2.up hb h.lt.2⟩
theorem Sum_any (s : ByteArray) (w : World) (hs : s.size ≤ 140737488355328) (h : Roots w) :
    Calls Tryd.prog 10 #[.string s] w fun e w' => e = .returned (.string (sumB s sq8 cuL)) ∧ Below w.heap.size w w' :=
  sum_any w s sq8 cuL hs cuL_len h.1 h.2

set_option maxHeartbeats 1000000 in
theorem digestBegun_any (w : World) (h : Roots w) :
    Calls Tryd.prog 9 #[] w fun e w' => e = .returned (.bool true) ∧ Below w.heap.size w w' := by
  have HR : Hid (Roots w) := h
  clear h
  go_enter Tryd.func9, Tryd.ntmps9
  go_wp2_with fail
  refine (Sum_any ⟨#[97, 98, 99]⟩ w (by decide) HR.out).mono ?_
  rintro e w1 ⟨rfl, hb1⟩
  have B1 : Hid (Below w.heap.size w w1) := hb1
  clear hb1
  rw [abc_sum]
  go_wp2_with fail
  refine (Sum_any ⟨#[]⟩ w1 (by decide) (HR.out.up B1.out)).mono ?_
  rintro e w2 ⟨rfl, hb2⟩
  have B2 : Hid (Below w.heap.size w w2) := B1.out.trans (hb2.mono B1.out.size)
  clear hb2
  go_wp2_with fail
  refine (Is_any _ w2).mono ?_
  rintro e w3 ⟨rfl, rfl⟩
  rw [sum_dig]
  go_wp2
  go_ret
  exact ⟨rfl, B2.out⟩

theorem laid_ints {W : World} {name : String} {l : List Int} {rest : List (String × DataW Unit)} {ps : List MemPlace} {g0 T n : Nat} (h : DataW.LaidVars Tryd.prog W ((name, .agg (l.map fun n => .lit (.int .u32 n))) :: rest) ps)
    (hg0 : Tryd.prog.globalNamed name = some g0) (ht0 : (Tryd.prog.globals[g0]?).map (·.type) = some T) (hT : Tryd.prog.underlying T = some (.array n 49)) (hn : l.length = n) : LaidAt g0 W l ∧ ∃ q, DataW.LaidVars Tryd.prog W rest q := by
  obtain ⟨g, t, cs, fuel, p, q, hg, ht, hv, hd, hrest, _⟩ := h
  obtain rfl := Option.some.inj (hg0.symm.trans hg)
  obtain rfl := Option.some.inj (ht0.symm.trans ht)
  refine ⟨fun r hr => ?_, q, hrest⟩
  obtain ⟨xs, m, _, ex, _, hl, hel⟩ := DataW.trod_array hT hd
  have c5 : Tryd.prog.cellsOf 49 = 1 := by kernel_rfl
  have e3 : (xs.map (·.1)) = l.map fun n => .lit (.int .u32 n) := (DataW.agg.inj (Prod.mk.inj ex).1).symm
  have hxl : xs.length = l.length := by have := congrArg List.length e3; simpa using this
  have hE := hel r (by omega)
  rw [c5, Nat.mul_one, List.getElem?_eq_getElem (by omega)] at hE
  obtain ⟨z, e1, e2, _⟩ := DataW.trod_int Tryd.underlying49 hE
  have e4 : (xs.map (·.1))[r]? = (l.map fun n => (DataW.lit (.int .u32 n) : DataW Unit))[r]? := by rw [e3]
  rw [List.getElem?_map, List.getElem?_map, List.getElem?_eq_getElem (by omega : r < xs.length), List.getElem?_eq_getElem hr, e2] at e4
  have hz : z = l[r] := by
    simpa only [Option.map_some, Option.some.injEq, DataW.lit.injEq, Lit.int.injEq, true_and] using e4
  rw [World.var?_cell hg hv r, ← hz]
  have : cs.toList[r]? = some (.int .u32 z) := by
    have h0 : ((cs.toList.drop r).take 1)[0]? = some (.int .u32 z) := by rw [e1]; rfl
    simpa using h0
  simpa using this

theorem roots_of_laid {W : World} (h : laidMetH Tryd.prog Rows.digestRootsRow.laid W) : Roots W := by
  rw [MakeChecks.laidMetH_plain _ _ _ (by kernel_rfl)] at h
  obtain ⟨ps, hv, _, _⟩ := h
  have hv' : DataW.LaidVars Tryd.prog W [("foundry/digest.squareRoots", .agg (sqL.map fun n => .lit (.int .u32 n))), ("foundry/digest.cubeRoots", .agg (cuL.map fun n => .lit (.int .u32 n)))] ps := by
    rw [← sqL_eq, ← cuL_eq]
    exact hv
  obtain ⟨h1, q, hq⟩ := laid_ints (T := 50) hv' (g0 := 0) (by kernel_rfl) (by kernel_rfl) Tryd.underlying50 sqL_len
  obtain ⟨h2, _⟩ := laid_ints (T := 69) hq (g0 := 1) (by kernel_rfl) (by kernel_rfl) Tryd.underlying69 cuL_len
  exact ⟨by rw [sq8_l]; exact h1, h2⟩
end Go.Proofs.YtagelkaenbdlaaaDoor
