/- The document's book: a job is added. -/
import Derived.Test.YtocahjnibdgmoaaLpP
import Derived.Test.YtocahjnibdgmoaaLpN
namespace Go.Proofs.Ytocahjnibdgmoaa
open Go.RowKit Go.Shelf Go.Sort
attribute [local go_sem ↓] appS_eq

theorem infI : (Try.prog.info? 3).map (fun i => (i.zero, i.size, i.bytes)) = some (some (.int .i64 0), 1, 8) := by kernel_rfl
/-- The three stores may be made. -/
theorem AS.stores {B R : Nat} {a b c nw : Int} {nv sv tv av : Value} {d : Db} {I : List Nat} {w X : World} {L : List (Nat × Value)} {rs : List Row} (h : AS 36 B R [.int .i64 a, .int .i64 b, .int .i64 c, .int .i64 nw] I w L rs X) (hw : DB B R a b c nv sv tv av d w) (v1 v2 : Value) :
    X.cell? ⟨R, 4, none⟩ = some nv ∧ X.frozen? ⟨R, 4, none⟩ = false ∧ (X.setCell ⟨R, 4, none⟩ v1).cell? ⟨R, 5, none⟩ = some sv ∧ (X.setCell ⟨R, 4, none⟩ v1).frozen? ⟨R, 5, none⟩ = false ∧ ((X.setCell ⟨R, 4, none⟩ v1).setCell ⟨R, 5, none⟩ v2).cell? ⟨R, 6, none⟩ = some tv ∧ ((X.setCell ⟨R, 4, none⟩ v1).setCell ⟨R, 5, none⟩ v2).frozen? ⟨R, 6, none⟩ = false := by
  have h0 := h.hR.trans hw.blk
  have h1 := Go.Joins.block_setCell (i := 4) h0 v1
  have h2 := Go.Joins.block_setCell (i := 5) h1 v2
  exact ⟨Lib.cell_of_heap h0 4, Lib.frozen_of_heap h0 4, Lib.cell_of_heap h1 5, Lib.frozen_of_heap h1 5, Lib.cell_of_heap h2 6, Lib.frozen_of_heap h2 6⟩

theorem AS.cellR {ty : TypeId} {B R : Nat} {hd : List Value} {I : List Nat} {w X : World} {L : List (Nat × Value)} {rs : List Row} (h : AS ty B R hd I w L rs X) {k : Nat} {v : Value} (hv : w.cell? ⟨R, k, none⟩ = some v) : X.cell? ⟨R, k, none⟩ = some v := (World.cell?_of_block (w := w) h.hR).trans hv

section
variable {B R : Nat} {a b c nw : Int} {aN aS aT : Option Addr} {cN cS cT : Nat} {av : Value} {d : Db} {w : World}
set_option maxHeartbeats 40000000 in
set_option maxRecDepth 100000 in
theorem rAdd_ok {n m l na : Nat} {xN xS xT xA : List Value} {I : List Nat} {Fin : World → Prop} (h : DB B R a b c (.slice aN n cN) (.slice aS m cS) (.slice aT l cT) av d w) (S0 : AS 36 B R [.int .i64 a, .int .i64 b, .int .i64 c, .int .i64 nw] I w [] [⟨.slice aN n cN, 9, 1, n, xN⟩, ⟨.slice aS m cS, 3, 1, m, xS⟩, ⟨.slice aT l cT, 3, 1, l, xT⟩, ⟨av, 52, 3, na, xA⟩] w) {s : ByteArray} (hn : nameOk s = true) (hs : s.size ≤ maxLen) (hN : d.N.length ≤ 199) (hdn : d.N.length = n) (hm : m ≤ 1000) (hl : l ≤ 1000) (hi : fidx (fun x => decide (x = s.data.toList)) d.N = -1)
    (hfin : ∀ (g1 g2 g3 c1 c2 c3 : Nat) (X : World), AS 36 B R [.int .i64 a, .int .i64 b, .int .i64 c, .int .i64 nw] I w [(4, .slice (some ⟨g1, 0, none⟩) (n + 1) c1), (5, .slice (some ⟨g2, 0, none⟩) (m + 1) c2), (6, .slice (some ⟨g3, 0, none⟩) (l + 1) c3)] [⟨.slice (some ⟨g1, 0, none⟩) (n + 1) c1, 9, 1, n + 1, xN ++ [.string s]⟩, ⟨.slice (some ⟨g2, 0, none⟩) (m + 1) c2, 3, 1, m + 1, xS ++ [.int .i64 1]⟩, ⟨.slice (some ⟨g3, 0, none⟩) (l + 1) c3, 3, 1, l + 1, xT ++ [.int .i64 0]⟩, ⟨av, 52, 3, na, xA⟩] X → Fin (((X.setCell ⟨R, 4, none⟩ (.slice (some ⟨g1, 0, none⟩) (n + 1) c1)).setCell ⟨R, 5, none⟩ (.slice (some ⟨g2, 0, none⟩) (m + 1) c2)).setCell ⟨R, 6, none⟩ (.slice (some ⟨g3, 0, none⟩) (l + 1) c3))) :
    Calls Try.prog 11 #[.pointer (some ⟨R, 0, none⟩), .string s] w fun e w' => e = .returned (.int .i64 0) ∧ Hid (Fin w') := by
  have HI : Hid (∀ W, Calls Try.prog 29 #[.string s] W fun e w' => e = .returned (.bool true) ∧ w' = W) := fun W => hn ▸ RIsName_any s W hs
  have hAt := At_any h (by omega) s
  rw [hi] at hAt
  have HA : Hid (Calls Try.prog 22 #[.pointer (some ⟨R, 0, none⟩), .string s] w fun e w' => e = .returned (.int .i64 (-1)) ∧ w' = w) := hAt
  have hl1 : ∀ g, (Value.slice aN n cN).ownBlock = some g → g < w.heap.size := fun g hg => (h.nr.lt g hg).2
  have hl2 : ∀ g, (Value.slice aS m cS).ownBlock = some g → g < w.heap.size := fun g hg => (h.sr.lt g hg).2
  have hl3 : ∀ g, (Value.slice aT l cT).ownBlock = some g → g < w.heap.size := fun g hg => (h.tr.lt g hg).2
  obtain ⟨i1, hi1, z10, z11, z12⟩ := info_parts infS
  obtain ⟨i2, hi2, z20, z21, z22⟩ := info_parts infI
  have c4 := h.c4
  have c5 := h.c5
  have c6 := h.c6
  have hN2 : ¬ (n : Int) = 200 := by omega
  have hn9 : n ≤ 1000 := by omega
  have L1_1 : w.drew.cell? ⟨R, 4, none⟩ = some (.slice aN n cN) := AS.cellR S0.drew (h.c4)
  have L1_2 : w.drew.cell? ⟨R, 5, none⟩ = some (.slice aS m cS) := AS.cellR S0.drew (h.c5)
  have L1_3 : w.drew.cell? ⟨R, 6, none⟩ = some (.slice aT l cT) := AS.cellR S0.drew (h.c6)
  have S1 := S0.al (.cells #[.string s] 9)
  have Z1 : (w.alloc (.cells #[.string s] 9)).heap.size = w.heap.size + 1 := by rw [World.size_alloc, (rfl : w.heap.size = w.heap.size)]
  have F1_1 := heap_alloc_new w (.cells #[.string s] 9)
  rw [(rfl : w.heap.size = w.heap.size)] at F1_1
  have L2_1 : (w.alloc (.cells #[.string s] 9)).drew.cell? ⟨R, 4, none⟩ = some (.slice aN n cN) := AS.cellR S1.drew (h.c4)
  have L2_2 : (w.alloc (.cells #[.string s] 9)).drew.cell? ⟨R, 5, none⟩ = some (.slice aS m cS) := AS.cellR S1.drew (h.c5)
  have L2_3 : (w.alloc (.cells #[.string s] 9)).drew.cell? ⟨R, 6, none⟩ = some (.slice aT l cT) := AS.cellR S1.drew (h.c6)
  have S2 := S1.al (.cells #[.int .i64 1] 3)
  have Z2 : ((w.alloc (.cells #[.string s] 9)).alloc (.cells #[.int .i64 1] 3)).heap.size = w.heap.size + 1 + 1 := by rw [World.size_alloc, Z1]
  have F2_1 := (heap_al (w.alloc (.cells #[.string s] 9)) (.cells #[.int .i64 1] 3) (w.heap.size) (Array.getElem?_eq_some_iff.1 F1_1).1).trans F1_1
  have F2_2 := heap_alloc_new (w.alloc (.cells #[.string s] 9)) (.cells #[.int .i64 1] 3)
  rw [Z1] at F2_2
  have L3_1 : ((w.alloc (.cells #[.string s] 9)).alloc (.cells #[.int .i64 1] 3)).drew.cell? ⟨R, 4, none⟩ = some (.slice aN n cN) := AS.cellR S2.drew (h.c4)
  have L3_2 : ((w.alloc (.cells #[.string s] 9)).alloc (.cells #[.int .i64 1] 3)).drew.cell? ⟨R, 5, none⟩ = some (.slice aS m cS) := AS.cellR S2.drew (h.c5)
  have L3_3 : ((w.alloc (.cells #[.string s] 9)).alloc (.cells #[.int .i64 1] 3)).drew.cell? ⟨R, 6, none⟩ = some (.slice aT l cT) := AS.cellR S2.drew (h.c6)
  have S3 := S2.al (.cells #[.int .i64 0] 3)
  have Z3 : (((w.alloc (.cells #[.string s] 9)).alloc (.cells #[.int .i64 1] 3)).alloc (.cells #[.int .i64 0] 3)).heap.size = w.heap.size + 1 + 1 + 1 := by rw [World.size_alloc, Z2]
  have F3_1 := (heap_al ((w.alloc (.cells #[.string s] 9)).alloc (.cells #[.int .i64 1] 3)) (.cells #[.int .i64 0] 3) (w.heap.size) (Array.getElem?_eq_some_iff.1 F2_1).1).trans F2_1
  have F3_2 := (heap_al ((w.alloc (.cells #[.string s] 9)).alloc (.cells #[.int .i64 1] 3)) (.cells #[.int .i64 0] 3) (w.heap.size + 1) (Array.getElem?_eq_some_iff.1 F2_2).1).trans F2_2
  have F3_3 := heap_alloc_new ((w.alloc (.cells #[.string s] 9)).alloc (.cells #[.int .i64 1] 3)) (.cells #[.int .i64 0] 3)
  rw [Z2] at F3_3
  have L4_1 : (((w.alloc (.cells #[.string s] 9)).alloc (.cells #[.int .i64 1] 3)).alloc (.cells #[.int .i64 0] 3)).drew.cell? ⟨R, 4, none⟩ = some (.slice aN n cN) := AS.cellR S3.drew (h.c4)
  have L4_2 : (((w.alloc (.cells #[.string s] 9)).alloc (.cells #[.int .i64 1] 3)).alloc (.cells #[.int .i64 0] 3)).drew.cell? ⟨R, 5, none⟩ = some (.slice aS m cS) := AS.cellR S3.drew (h.c5)
  have L4_3 : (((w.alloc (.cells #[.string s] 9)).alloc (.cells #[.int .i64 1] 3)).alloc (.cells #[.int .i64 0] 3)).drew.cell? ⟨R, 6, none⟩ = some (.slice aT l cT) := AS.cellR S3.drew (h.c6)
  obtain ⟨g4, c4, x4, r4, S4, k4⟩ := AS.app (X := (((w.alloc (.cells #[.string s] 9)).alloc (.cells #[.int .i64 1] 3)).alloc (.cells #[.int .i64 0] 3)).drew) (l1 := []) (r := ⟨.slice aN n cN, 9, 1, n, xN⟩) (l2 := [⟨.slice aS m cS, 3, 1, m, xS⟩, ⟨.slice aT l cT, 3, 1, l, xT⟩, ⟨av, 52, 3, na, xA⟩]) S3.drew 4 rfl 32 32 i1 (.string ⟨#[]⟩) 16 Try.underlying32 hi1 z10 z11 z12 rfl rfl (w.heap.size) (.string s) F3_1 rfl (by omega) (by decide)
  have s4 : w.heap.size ≤ x4.heap.size := by have := S4.up.size; rwa [pnd_size] at this
  have F4_2 := (k4 (w.heap.size + 1) (Array.getElem?_eq_some_iff.1 F3_2).1 (fun e => by have := hl1 _ e; omega)).trans F3_2
  have F4_3 := (k4 (w.heap.size + 1 + 1) (Array.getElem?_eq_some_iff.1 F3_3).1 (fun e => by have := hl1 _ e; omega)).trans F3_3
  have L5_2 : x4.cell? ⟨R, 5, none⟩ = some (.slice aS m cS) := AS.cellR S4 (h.c5)
  have L5_3 : x4.cell? ⟨R, 6, none⟩ = some (.slice aT l cT) := AS.cellR S4 (h.c6)
  obtain ⟨g5, c5, x5, r5, S5, k5⟩ := AS.app (X := x4) (l1 := [⟨.slice (some ⟨g4, 0, none⟩) (n + 1) c4, 9, 1, n + 1, xN ++ [(.string s)]⟩]) (r := ⟨.slice aS m cS, 3, 1, m, xS⟩) (l2 := [⟨.slice aT l cT, 3, 1, l, xT⟩, ⟨av, 52, 3, na, xA⟩]) S4 5 rfl 33 33 i2 (.int .i64 0) 8 Try.underlying33 hi2 z20 z21 z22 rfl rfl (w.heap.size + 1) (.int .i64 1) F4_2 rfl (by omega) (by decide)
  have s5 : w.heap.size ≤ x5.heap.size := by have := S5.up.size; rwa [pnd_size] at this
  have F5_3 := (k5 (w.heap.size + 1 + 1) (Array.getElem?_eq_some_iff.1 F4_3).1 (fun e => by have := hl2 _ e; omega)).trans F4_3
  have L6_3 : x5.cell? ⟨R, 6, none⟩ = some (.slice aT l cT) := AS.cellR S5 (h.c6)
  obtain ⟨g6, c6, x6, r6, S6, k6⟩ := AS.app (X := x5) (l1 := [⟨.slice (some ⟨g4, 0, none⟩) (n + 1) c4, 9, 1, n + 1, xN ++ [(.string s)]⟩, ⟨.slice (some ⟨g5, 0, none⟩) (m + 1) c5, 3, 1, m + 1, xS ++ [(.int .i64 1)]⟩]) (r := ⟨.slice aT l cT, 3, 1, l, xT⟩) (l2 := [⟨av, 52, 3, na, xA⟩]) S5 6 rfl 33 33 i2 (.int .i64 0) 8 Try.underlying33 hi2 z20 z21 z22 rfl rfl (w.heap.size + 1 + 1) (.int .i64 0) F5_3 rfl (by omega) (by decide)
  have s6 : w.heap.size ≤ x6.heap.size := by have := S6.up.size; rwa [pnd_size] at this
  obtain ⟨g7, c7, x7, r7, S7, k7⟩ := AS.app (X := ((w.alloc (.cells #[.string s] 9)).alloc (.cells #[.int .i64 1] 3)).drew) (l1 := []) (r := ⟨.slice aN n cN, 9, 1, n, xN⟩) (l2 := [⟨.slice aS m cS, 3, 1, m, xS⟩, ⟨.slice aT l cT, 3, 1, l, xT⟩, ⟨av, 52, 3, na, xA⟩]) S2.drew 4 rfl 32 32 i1 (.string ⟨#[]⟩) 16 Try.underlying32 hi1 z10 z11 z12 rfl rfl (w.heap.size) (.string s) F2_1 rfl (by omega) (by decide)
  have s7 : w.heap.size ≤ x7.heap.size := by have := S7.up.size; rwa [pnd_size] at this
  have F7_2 := (k7 (w.heap.size + 1) (Array.getElem?_eq_some_iff.1 F2_2).1 (fun e => by have := hl1 _ e; omega)).trans F2_2
  have L7_2 : x7.cell? ⟨R, 5, none⟩ = some (.slice aS m cS) := AS.cellR S7 (h.c5)
  have L7_3 : x7.cell? ⟨R, 6, none⟩ = some (.slice aT l cT) := AS.cellR S7 (h.c6)
  have S8 := S7.al (.cells #[.int .i64 0] 3)
  have Z8 : (x7.alloc (.cells #[.int .i64 0] 3)).heap.size = x7.heap.size + 1 := by rw [World.size_alloc, (rfl : x7.heap.size = x7.heap.size)]
  have F8_2 := (heap_al x7 (.cells #[.int .i64 0] 3) (w.heap.size + 1) (Array.getElem?_eq_some_iff.1 F7_2).1).trans F7_2
  have F8_3 := heap_alloc_new x7 (.cells #[.int .i64 0] 3)
  rw [(rfl : x7.heap.size = x7.heap.size)] at F8_3
  have L8_2 : (x7.alloc (.cells #[.int .i64 0] 3)).cell? ⟨R, 5, none⟩ = some (.slice aS m cS) := AS.cellR S8 (h.c5)
  have L8_3 : (x7.alloc (.cells #[.int .i64 0] 3)).cell? ⟨R, 6, none⟩ = some (.slice aT l cT) := AS.cellR S8 (h.c6)
  obtain ⟨g9, c9, x9, r9, S9, k9⟩ := AS.app (X := (x7.alloc (.cells #[.int .i64 0] 3))) (l1 := [⟨.slice (some ⟨g7, 0, none⟩) (n + 1) c7, 9, 1, n + 1, xN ++ [(.string s)]⟩]) (r := ⟨.slice aS m cS, 3, 1, m, xS⟩) (l2 := [⟨.slice aT l cT, 3, 1, l, xT⟩, ⟨av, 52, 3, na, xA⟩]) S8 5 rfl 33 33 i2 (.int .i64 0) 8 Try.underlying33 hi2 z20 z21 z22 rfl rfl (w.heap.size + 1) (.int .i64 1) F8_2 rfl (by omega) (by decide)
  have s9 : w.heap.size ≤ x9.heap.size := by have := S9.up.size; rwa [pnd_size] at this
  have F9_3 := (k9 (x7.heap.size) (Array.getElem?_eq_some_iff.1 F8_3).1 (fun e => by have := hl2 _ e; omega)).trans F8_3
  have L9_3 : x9.cell? ⟨R, 6, none⟩ = some (.slice aT l cT) := AS.cellR S9 (h.c6)
  obtain ⟨g10, c10, x10, r10, S10, k10⟩ := AS.app (X := x9) (l1 := [⟨.slice (some ⟨g7, 0, none⟩) (n + 1) c7, 9, 1, n + 1, xN ++ [(.string s)]⟩, ⟨.slice (some ⟨g9, 0, none⟩) (m + 1) c9, 3, 1, m + 1, xS ++ [(.int .i64 1)]⟩]) (r := ⟨.slice aT l cT, 3, 1, l, xT⟩) (l2 := [⟨av, 52, 3, na, xA⟩]) S9 6 rfl 33 33 i2 (.int .i64 0) 8 Try.underlying33 hi2 z20 z21 z22 rfl rfl (x7.heap.size) (.int .i64 0) F9_3 rfl (by omega) (by decide)
  have s10 : w.heap.size ≤ x10.heap.size := by have := S10.up.size; rwa [pnd_size] at this
  obtain ⟨g11, c11, x11, r11, S11, k11⟩ := AS.app (X := x7) (l1 := [⟨.slice (some ⟨g7, 0, none⟩) (n + 1) c7, 9, 1, n + 1, xN ++ [(.string s)]⟩]) (r := ⟨.slice aS m cS, 3, 1, m, xS⟩) (l2 := [⟨.slice aT l cT, 3, 1, l, xT⟩, ⟨av, 52, 3, na, xA⟩]) S7 5 rfl 33 33 i2 (.int .i64 0) 8 Try.underlying33 hi2 z20 z21 z22 rfl rfl (w.heap.size + 1) (.int .i64 1) F7_2 rfl (by omega) (by decide)
  have s11 : w.heap.size ≤ x11.heap.size := by have := S11.up.size; rwa [pnd_size] at this
  have L10_3 : x11.cell? ⟨R, 6, none⟩ = some (.slice aT l cT) := AS.cellR S11 (h.c6)
  have S12 := S11.al (.cells #[.int .i64 0] 3)
  have Z12 : (x11.alloc (.cells #[.int .i64 0] 3)).heap.size = x11.heap.size + 1 := by rw [World.size_alloc, (rfl : x11.heap.size = x11.heap.size)]
  have F12_3 := heap_alloc_new x11 (.cells #[.int .i64 0] 3)
  rw [(rfl : x11.heap.size = x11.heap.size)] at F12_3
  have L11_3 : (x11.alloc (.cells #[.int .i64 0] 3)).cell? ⟨R, 6, none⟩ = some (.slice aT l cT) := AS.cellR S12 (h.c6)
  obtain ⟨g13, c13, x13, r13, S13, k13⟩ := AS.app (X := (x11.alloc (.cells #[.int .i64 0] 3))) (l1 := [⟨.slice (some ⟨g7, 0, none⟩) (n + 1) c7, 9, 1, n + 1, xN ++ [(.string s)]⟩, ⟨.slice (some ⟨g11, 0, none⟩) (m + 1) c11, 3, 1, m + 1, xS ++ [(.int .i64 1)]⟩]) (r := ⟨.slice aT l cT, 3, 1, l, xT⟩) (l2 := [⟨av, 52, 3, na, xA⟩]) S12 6 rfl 33 33 i2 (.int .i64 0) 8 Try.underlying33 hi2 z20 z21 z22 rfl rfl (x11.heap.size) (.int .i64 0) F12_3 rfl (by omega) (by decide)
  have s13 : w.heap.size ≤ x13.heap.size := by have := S13.up.size; rwa [pnd_size] at this
  have S14 := S1.al (.cells #[.int .i64 0] 3)
  have Z14 : ((w.alloc (.cells #[.string s] 9)).alloc (.cells #[.int .i64 0] 3)).heap.size = w.heap.size + 1 + 1 := by rw [World.size_alloc, Z1]
  have F14_1 := (heap_al (w.alloc (.cells #[.string s] 9)) (.cells #[.int .i64 0] 3) (w.heap.size) (Array.getElem?_eq_some_iff.1 F1_1).1).trans F1_1
  have F14_3 := heap_alloc_new (w.alloc (.cells #[.string s] 9)) (.cells #[.int .i64 0] 3)
  rw [Z1] at F14_3
  have L12_1 : ((w.alloc (.cells #[.string s] 9)).alloc (.cells #[.int .i64 0] 3)).drew.cell? ⟨R, 4, none⟩ = some (.slice aN n cN) := AS.cellR S14.drew (h.c4)
  have L12_2 : ((w.alloc (.cells #[.string s] 9)).alloc (.cells #[.int .i64 0] 3)).drew.cell? ⟨R, 5, none⟩ = some (.slice aS m cS) := AS.cellR S14.drew (h.c5)
  have L12_3 : ((w.alloc (.cells #[.string s] 9)).alloc (.cells #[.int .i64 0] 3)).drew.cell? ⟨R, 6, none⟩ = some (.slice aT l cT) := AS.cellR S14.drew (h.c6)
  have S15 := S14.al (.cells #[.int .i64 1] 3)
  have Z15 : (((w.alloc (.cells #[.string s] 9)).alloc (.cells #[.int .i64 0] 3)).alloc (.cells #[.int .i64 1] 3)).heap.size = w.heap.size + 1 + 1 + 1 := by rw [World.size_alloc, Z14]
  have F15_1 := (heap_al ((w.alloc (.cells #[.string s] 9)).alloc (.cells #[.int .i64 0] 3)) (.cells #[.int .i64 1] 3) (w.heap.size) (Array.getElem?_eq_some_iff.1 F14_1).1).trans F14_1
  have F15_3 := (heap_al ((w.alloc (.cells #[.string s] 9)).alloc (.cells #[.int .i64 0] 3)) (.cells #[.int .i64 1] 3) (w.heap.size + 1) (Array.getElem?_eq_some_iff.1 F14_3).1).trans F14_3
  have F15_2 := heap_alloc_new ((w.alloc (.cells #[.string s] 9)).alloc (.cells #[.int .i64 0] 3)) (.cells #[.int .i64 1] 3)
  rw [Z14] at F15_2
  have L13_1 : (((w.alloc (.cells #[.string s] 9)).alloc (.cells #[.int .i64 0] 3)).alloc (.cells #[.int .i64 1] 3)).drew.cell? ⟨R, 4, none⟩ = some (.slice aN n cN) := AS.cellR S15.drew (h.c4)
  have L13_2 : (((w.alloc (.cells #[.string s] 9)).alloc (.cells #[.int .i64 0] 3)).alloc (.cells #[.int .i64 1] 3)).drew.cell? ⟨R, 5, none⟩ = some (.slice aS m cS) := AS.cellR S15.drew (h.c5)
  have L13_3 : (((w.alloc (.cells #[.string s] 9)).alloc (.cells #[.int .i64 0] 3)).alloc (.cells #[.int .i64 1] 3)).drew.cell? ⟨R, 6, none⟩ = some (.slice aT l cT) := AS.cellR S15.drew (h.c6)
  obtain ⟨g16, c16, x16, r16, S16, k16⟩ := AS.app (X := (((w.alloc (.cells #[.string s] 9)).alloc (.cells #[.int .i64 0] 3)).alloc (.cells #[.int .i64 1] 3)).drew) (l1 := []) (r := ⟨.slice aN n cN, 9, 1, n, xN⟩) (l2 := [⟨.slice aS m cS, 3, 1, m, xS⟩, ⟨.slice aT l cT, 3, 1, l, xT⟩, ⟨av, 52, 3, na, xA⟩]) S15.drew 4 rfl 32 32 i1 (.string ⟨#[]⟩) 16 Try.underlying32 hi1 z10 z11 z12 rfl rfl (w.heap.size) (.string s) F15_1 rfl (by omega) (by decide)
  have s16 : w.heap.size ≤ x16.heap.size := by have := S16.up.size; rwa [pnd_size] at this
  have F16_3 := (k16 (w.heap.size + 1) (Array.getElem?_eq_some_iff.1 F15_3).1 (fun e => by have := hl1 _ e; omega)).trans F15_3
  have F16_2 := (k16 (w.heap.size + 1 + 1) (Array.getElem?_eq_some_iff.1 F15_2).1 (fun e => by have := hl1 _ e; omega)).trans F15_2
  have L14_2 : x16.cell? ⟨R, 5, none⟩ = some (.slice aS m cS) := AS.cellR S16 (h.c5)
  have L14_3 : x16.cell? ⟨R, 6, none⟩ = some (.slice aT l cT) := AS.cellR S16 (h.c6)
  obtain ⟨g17, c17, x17, r17, S17, k17⟩ := AS.app (X := x16) (l1 := [⟨.slice (some ⟨g16, 0, none⟩) (n + 1) c16, 9, 1, n + 1, xN ++ [(.string s)]⟩]) (r := ⟨.slice aS m cS, 3, 1, m, xS⟩) (l2 := [⟨.slice aT l cT, 3, 1, l, xT⟩, ⟨av, 52, 3, na, xA⟩]) S16 5 rfl 33 33 i2 (.int .i64 0) 8 Try.underlying33 hi2 z20 z21 z22 rfl rfl (w.heap.size + 1 + 1) (.int .i64 1) F16_2 rfl (by omega) (by decide)
  have s17 : w.heap.size ≤ x17.heap.size := by have := S17.up.size; rwa [pnd_size] at this
  have F17_3 := (k17 (w.heap.size + 1) (Array.getElem?_eq_some_iff.1 F16_3).1 (fun e => by have := hl2 _ e; omega)).trans F16_3
  have L15_3 : x17.cell? ⟨R, 6, none⟩ = some (.slice aT l cT) := AS.cellR S17 (h.c6)
  obtain ⟨g18, c18, x18, r18, S18, k18⟩ := AS.app (X := x17) (l1 := [⟨.slice (some ⟨g16, 0, none⟩) (n + 1) c16, 9, 1, n + 1, xN ++ [(.string s)]⟩, ⟨.slice (some ⟨g17, 0, none⟩) (m + 1) c17, 3, 1, m + 1, xS ++ [(.int .i64 1)]⟩]) (r := ⟨.slice aT l cT, 3, 1, l, xT⟩) (l2 := [⟨av, 52, 3, na, xA⟩]) S17 6 rfl 33 33 i2 (.int .i64 0) 8 Try.underlying33 hi2 z20 z21 z22 rfl rfl (w.heap.size + 1) (.int .i64 0) F17_3 rfl (by omega) (by decide)
  have s18 : w.heap.size ≤ x18.heap.size := by have := S18.up.size; rwa [pnd_size] at this
  obtain ⟨g19, c19, x19, r19, S19, k19⟩ := AS.app (X := ((w.alloc (.cells #[.string s] 9)).alloc (.cells #[.int .i64 0] 3)).drew) (l1 := []) (r := ⟨.slice aN n cN, 9, 1, n, xN⟩) (l2 := [⟨.slice aS m cS, 3, 1, m, xS⟩, ⟨.slice aT l cT, 3, 1, l, xT⟩, ⟨av, 52, 3, na, xA⟩]) S14.drew 4 rfl 32 32 i1 (.string ⟨#[]⟩) 16 Try.underlying32 hi1 z10 z11 z12 rfl rfl (w.heap.size) (.string s) F14_1 rfl (by omega) (by decide)
  have s19 : w.heap.size ≤ x19.heap.size := by have := S19.up.size; rwa [pnd_size] at this
  have F19_3 := (k19 (w.heap.size + 1) (Array.getElem?_eq_some_iff.1 F14_3).1 (fun e => by have := hl1 _ e; omega)).trans F14_3
  have L16_2 : x19.cell? ⟨R, 5, none⟩ = some (.slice aS m cS) := AS.cellR S19 (h.c5)
  have L16_3 : x19.cell? ⟨R, 6, none⟩ = some (.slice aT l cT) := AS.cellR S19 (h.c6)
  have S20 := S19.al (.cells #[.int .i64 1] 3)
  have Z20 : (x19.alloc (.cells #[.int .i64 1] 3)).heap.size = x19.heap.size + 1 := by rw [World.size_alloc, (rfl : x19.heap.size = x19.heap.size)]
  have F20_3 := (heap_al x19 (.cells #[.int .i64 1] 3) (w.heap.size + 1) (Array.getElem?_eq_some_iff.1 F19_3).1).trans F19_3
  have F20_2 := heap_alloc_new x19 (.cells #[.int .i64 1] 3)
  rw [(rfl : x19.heap.size = x19.heap.size)] at F20_2
  have L17_2 : (x19.alloc (.cells #[.int .i64 1] 3)).cell? ⟨R, 5, none⟩ = some (.slice aS m cS) := AS.cellR S20 (h.c5)
  have L17_3 : (x19.alloc (.cells #[.int .i64 1] 3)).cell? ⟨R, 6, none⟩ = some (.slice aT l cT) := AS.cellR S20 (h.c6)
  obtain ⟨g21, c21, x21, r21, S21, k21⟩ := AS.app (X := (x19.alloc (.cells #[.int .i64 1] 3))) (l1 := [⟨.slice (some ⟨g19, 0, none⟩) (n + 1) c19, 9, 1, n + 1, xN ++ [(.string s)]⟩]) (r := ⟨.slice aS m cS, 3, 1, m, xS⟩) (l2 := [⟨.slice aT l cT, 3, 1, l, xT⟩, ⟨av, 52, 3, na, xA⟩]) S20 5 rfl 33 33 i2 (.int .i64 0) 8 Try.underlying33 hi2 z20 z21 z22 rfl rfl (x19.heap.size) (.int .i64 1) F20_2 rfl (by omega) (by decide)
  have s21 : w.heap.size ≤ x21.heap.size := by have := S21.up.size; rwa [pnd_size] at this
  have F21_3 := (k21 (w.heap.size + 1) (Array.getElem?_eq_some_iff.1 F20_3).1 (fun e => by have := hl2 _ e; omega)).trans F20_3
  have L18_3 : x21.cell? ⟨R, 6, none⟩ = some (.slice aT l cT) := AS.cellR S21 (h.c6)
  obtain ⟨g22, c22, x22, r22, S22, k22⟩ := AS.app (X := x21) (l1 := [⟨.slice (some ⟨g19, 0, none⟩) (n + 1) c19, 9, 1, n + 1, xN ++ [(.string s)]⟩, ⟨.slice (some ⟨g21, 0, none⟩) (m + 1) c21, 3, 1, m + 1, xS ++ [(.int .i64 1)]⟩]) (r := ⟨.slice aT l cT, 3, 1, l, xT⟩) (l2 := [⟨av, 52, 3, na, xA⟩]) S21 6 rfl 33 33 i2 (.int .i64 0) 8 Try.underlying33 hi2 z20 z21 z22 rfl rfl (w.heap.size + 1) (.int .i64 0) F21_3 rfl (by omega) (by decide)
  have s22 : w.heap.size ≤ x22.heap.size := by have := S22.up.size; rwa [pnd_size] at this
  obtain ⟨g23, c23, x23, r23, S23, k23⟩ := AS.app (X := (w.alloc (.cells #[.string s] 9)).drew) (l1 := []) (r := ⟨.slice aN n cN, 9, 1, n, xN⟩) (l2 := [⟨.slice aS m cS, 3, 1, m, xS⟩, ⟨.slice aT l cT, 3, 1, l, xT⟩, ⟨av, 52, 3, na, xA⟩]) S1.drew 4 rfl 32 32 i1 (.string ⟨#[]⟩) 16 Try.underlying32 hi1 z10 z11 z12 rfl rfl (w.heap.size) (.string s) F1_1 rfl (by omega) (by decide)
  have s23 : w.heap.size ≤ x23.heap.size := by have := S23.up.size; rwa [pnd_size] at this
  have L19_2 : x23.cell? ⟨R, 5, none⟩ = some (.slice aS m cS) := AS.cellR S23 (h.c5)
  have L19_3 : x23.cell? ⟨R, 6, none⟩ = some (.slice aT l cT) := AS.cellR S23 (h.c6)
  have S24 := S23.al (.cells #[.int .i64 1] 3)
  have Z24 : (x23.alloc (.cells #[.int .i64 1] 3)).heap.size = x23.heap.size + 1 := by rw [World.size_alloc, (rfl : x23.heap.size = x23.heap.size)]
  have F24_2 := heap_alloc_new x23 (.cells #[.int .i64 1] 3)
  rw [(rfl : x23.heap.size = x23.heap.size)] at F24_2
  have L20_2 : (x23.alloc (.cells #[.int .i64 1] 3)).cell? ⟨R, 5, none⟩ = some (.slice aS m cS) := AS.cellR S24 (h.c5)
  have L20_3 : (x23.alloc (.cells #[.int .i64 1] 3)).cell? ⟨R, 6, none⟩ = some (.slice aT l cT) := AS.cellR S24 (h.c6)
  have S25 := S24.al (.cells #[.int .i64 0] 3)
  have Z25 : ((x23.alloc (.cells #[.int .i64 1] 3)).alloc (.cells #[.int .i64 0] 3)).heap.size = x23.heap.size + 1 + 1 := by rw [World.size_alloc, Z24]
  have F25_2 := (heap_al (x23.alloc (.cells #[.int .i64 1] 3)) (.cells #[.int .i64 0] 3) (x23.heap.size) (Array.getElem?_eq_some_iff.1 F24_2).1).trans F24_2
  have F25_3 := heap_alloc_new (x23.alloc (.cells #[.int .i64 1] 3)) (.cells #[.int .i64 0] 3)
  rw [Z24] at F25_3
  have L21_2 : ((x23.alloc (.cells #[.int .i64 1] 3)).alloc (.cells #[.int .i64 0] 3)).cell? ⟨R, 5, none⟩ = some (.slice aS m cS) := AS.cellR S25 (h.c5)
  have L21_3 : ((x23.alloc (.cells #[.int .i64 1] 3)).alloc (.cells #[.int .i64 0] 3)).cell? ⟨R, 6, none⟩ = some (.slice aT l cT) := AS.cellR S25 (h.c6)
  obtain ⟨g26, c26, x26, r26, S26, k26⟩ := AS.app (X := ((x23.alloc (.cells #[.int .i64 1] 3)).alloc (.cells #[.int .i64 0] 3))) (l1 := [⟨.slice (some ⟨g23, 0, none⟩) (n + 1) c23, 9, 1, n + 1, xN ++ [(.string s)]⟩]) (r := ⟨.slice aS m cS, 3, 1, m, xS⟩) (l2 := [⟨.slice aT l cT, 3, 1, l, xT⟩, ⟨av, 52, 3, na, xA⟩]) S25 5 rfl 33 33 i2 (.int .i64 0) 8 Try.underlying33 hi2 z20 z21 z22 rfl rfl (x23.heap.size) (.int .i64 1) F25_2 rfl (by omega) (by decide)
  have s26 : w.heap.size ≤ x26.heap.size := by have := S26.up.size; rwa [pnd_size] at this
  have F26_3 := (k26 (x23.heap.size + 1) (Array.getElem?_eq_some_iff.1 F25_3).1 (fun e => by have := hl2 _ e; omega)).trans F25_3
  have L22_3 : x26.cell? ⟨R, 6, none⟩ = some (.slice aT l cT) := AS.cellR S26 (h.c6)
  obtain ⟨g27, c27, x27, r27, S27, k27⟩ := AS.app (X := x26) (l1 := [⟨.slice (some ⟨g23, 0, none⟩) (n + 1) c23, 9, 1, n + 1, xN ++ [(.string s)]⟩, ⟨.slice (some ⟨g26, 0, none⟩) (m + 1) c26, 3, 1, m + 1, xS ++ [(.int .i64 1)]⟩]) (r := ⟨.slice aT l cT, 3, 1, l, xT⟩) (l2 := [⟨av, 52, 3, na, xA⟩]) S26 6 rfl 33 33 i2 (.int .i64 0) 8 Try.underlying33 hi2 z20 z21 z22 rfl rfl (x23.heap.size + 1) (.int .i64 0) F26_3 rfl (by omega) (by decide)
  have s27 : w.heap.size ≤ x27.heap.size := by have := S27.up.size; rwa [pnd_size] at this
  obtain ⟨g28, c28, x28, r28, S28, k28⟩ := AS.app (X := (x23.alloc (.cells #[.int .i64 1] 3))) (l1 := [⟨.slice (some ⟨g23, 0, none⟩) (n + 1) c23, 9, 1, n + 1, xN ++ [(.string s)]⟩]) (r := ⟨.slice aS m cS, 3, 1, m, xS⟩) (l2 := [⟨.slice aT l cT, 3, 1, l, xT⟩, ⟨av, 52, 3, na, xA⟩]) S24 5 rfl 33 33 i2 (.int .i64 0) 8 Try.underlying33 hi2 z20 z21 z22 rfl rfl (x23.heap.size) (.int .i64 1) F24_2 rfl (by omega) (by decide)
  have s28 : w.heap.size ≤ x28.heap.size := by have := S28.up.size; rwa [pnd_size] at this
  have L23_3 : x28.cell? ⟨R, 6, none⟩ = some (.slice aT l cT) := AS.cellR S28 (h.c6)
  have S29 := S28.al (.cells #[.int .i64 0] 3)
  have Z29 : (x28.alloc (.cells #[.int .i64 0] 3)).heap.size = x28.heap.size + 1 := by rw [World.size_alloc, (rfl : x28.heap.size = x28.heap.size)]
  have F29_3 := heap_alloc_new x28 (.cells #[.int .i64 0] 3)
  rw [(rfl : x28.heap.size = x28.heap.size)] at F29_3
  have L24_3 : (x28.alloc (.cells #[.int .i64 0] 3)).cell? ⟨R, 6, none⟩ = some (.slice aT l cT) := AS.cellR S29 (h.c6)
  obtain ⟨g30, c30, x30, r30, S30, k30⟩ := AS.app (X := (x28.alloc (.cells #[.int .i64 0] 3))) (l1 := [⟨.slice (some ⟨g23, 0, none⟩) (n + 1) c23, 9, 1, n + 1, xN ++ [(.string s)]⟩, ⟨.slice (some ⟨g28, 0, none⟩) (m + 1) c28, 3, 1, m + 1, xS ++ [(.int .i64 1)]⟩]) (r := ⟨.slice aT l cT, 3, 1, l, xT⟩) (l2 := [⟨av, 52, 3, na, xA⟩]) S29 6 rfl 33 33 i2 (.int .i64 0) 8 Try.underlying33 hi2 z20 z21 z22 rfl rfl (x28.heap.size) (.int .i64 0) F29_3 rfl (by omega) (by decide)
  have s30 : w.heap.size ≤ x30.heap.size := by have := S30.up.size; rwa [pnd_size] at this
  have S31 := S23.al (.cells #[.int .i64 0] 3)
  have Z31 : (x23.alloc (.cells #[.int .i64 0] 3)).heap.size = x23.heap.size + 1 := by rw [World.size_alloc, (rfl : x23.heap.size = x23.heap.size)]
  have F31_3 := heap_alloc_new x23 (.cells #[.int .i64 0] 3)
  rw [(rfl : x23.heap.size = x23.heap.size)] at F31_3
  have L25_2 : (x23.alloc (.cells #[.int .i64 0] 3)).cell? ⟨R, 5, none⟩ = some (.slice aS m cS) := AS.cellR S31 (h.c5)
  have L25_3 : (x23.alloc (.cells #[.int .i64 0] 3)).cell? ⟨R, 6, none⟩ = some (.slice aT l cT) := AS.cellR S31 (h.c6)
  have S32 := S31.al (.cells #[.int .i64 1] 3)
  have Z32 : ((x23.alloc (.cells #[.int .i64 0] 3)).alloc (.cells #[.int .i64 1] 3)).heap.size = x23.heap.size + 1 + 1 := by rw [World.size_alloc, Z31]
  have F32_3 := (heap_al (x23.alloc (.cells #[.int .i64 0] 3)) (.cells #[.int .i64 1] 3) (x23.heap.size) (Array.getElem?_eq_some_iff.1 F31_3).1).trans F31_3
  have F32_2 := heap_alloc_new (x23.alloc (.cells #[.int .i64 0] 3)) (.cells #[.int .i64 1] 3)
  rw [Z31] at F32_2
  have L26_2 : ((x23.alloc (.cells #[.int .i64 0] 3)).alloc (.cells #[.int .i64 1] 3)).cell? ⟨R, 5, none⟩ = some (.slice aS m cS) := AS.cellR S32 (h.c5)
  have L26_3 : ((x23.alloc (.cells #[.int .i64 0] 3)).alloc (.cells #[.int .i64 1] 3)).cell? ⟨R, 6, none⟩ = some (.slice aT l cT) := AS.cellR S32 (h.c6)
  obtain ⟨g33, c33, x33, r33, S33, k33⟩ := AS.app (X := ((x23.alloc (.cells #[.int .i64 0] 3)).alloc (.cells #[.int .i64 1] 3))) (l1 := [⟨.slice (some ⟨g23, 0, none⟩) (n + 1) c23, 9, 1, n + 1, xN ++ [(.string s)]⟩]) (r := ⟨.slice aS m cS, 3, 1, m, xS⟩) (l2 := [⟨.slice aT l cT, 3, 1, l, xT⟩, ⟨av, 52, 3, na, xA⟩]) S32 5 rfl 33 33 i2 (.int .i64 0) 8 Try.underlying33 hi2 z20 z21 z22 rfl rfl (x23.heap.size + 1) (.int .i64 1) F32_2 rfl (by omega) (by decide)
  have s33 : w.heap.size ≤ x33.heap.size := by have := S33.up.size; rwa [pnd_size] at this
  have F33_3 := (k33 (x23.heap.size) (Array.getElem?_eq_some_iff.1 F32_3).1 (fun e => by have := hl2 _ e; omega)).trans F32_3
  have L27_3 : x33.cell? ⟨R, 6, none⟩ = some (.slice aT l cT) := AS.cellR S33 (h.c6)
  obtain ⟨g34, c34, x34, r34, S34, k34⟩ := AS.app (X := x33) (l1 := [⟨.slice (some ⟨g23, 0, none⟩) (n + 1) c23, 9, 1, n + 1, xN ++ [(.string s)]⟩, ⟨.slice (some ⟨g33, 0, none⟩) (m + 1) c33, 3, 1, m + 1, xS ++ [(.int .i64 1)]⟩]) (r := ⟨.slice aT l cT, 3, 1, l, xT⟩) (l2 := [⟨av, 52, 3, na, xA⟩]) S33 6 rfl 33 33 i2 (.int .i64 0) 8 Try.underlying33 hi2 z20 z21 z22 rfl rfl (x23.heap.size) (.int .i64 0) F33_3 rfl (by omega) (by decide)
  have s34 : w.heap.size ≤ x34.heap.size := by have := S34.up.size; rwa [pnd_size] at this
  have S35 := S0.al (.cells #[.int .i64 1] 3)
  have Z35 : (w.alloc (.cells #[.int .i64 1] 3)).heap.size = w.heap.size + 1 := by rw [World.size_alloc, (rfl : w.heap.size = w.heap.size)]
  have F35_2 := heap_alloc_new w (.cells #[.int .i64 1] 3)
  rw [(rfl : w.heap.size = w.heap.size)] at F35_2
  have L28_1 : (w.alloc (.cells #[.int .i64 1] 3)).drew.cell? ⟨R, 4, none⟩ = some (.slice aN n cN) := AS.cellR S35.drew (h.c4)
  have L28_2 : (w.alloc (.cells #[.int .i64 1] 3)).drew.cell? ⟨R, 5, none⟩ = some (.slice aS m cS) := AS.cellR S35.drew (h.c5)
  have L28_3 : (w.alloc (.cells #[.int .i64 1] 3)).drew.cell? ⟨R, 6, none⟩ = some (.slice aT l cT) := AS.cellR S35.drew (h.c6)
  have S36 := S35.al (.cells #[.string s] 9)
  have Z36 : ((w.alloc (.cells #[.int .i64 1] 3)).alloc (.cells #[.string s] 9)).heap.size = w.heap.size + 1 + 1 := by rw [World.size_alloc, Z35]
  have F36_2 := (heap_al (w.alloc (.cells #[.int .i64 1] 3)) (.cells #[.string s] 9) (w.heap.size) (Array.getElem?_eq_some_iff.1 F35_2).1).trans F35_2
  have F36_1 := heap_alloc_new (w.alloc (.cells #[.int .i64 1] 3)) (.cells #[.string s] 9)
  rw [Z35] at F36_1
  have L29_1 : ((w.alloc (.cells #[.int .i64 1] 3)).alloc (.cells #[.string s] 9)).drew.cell? ⟨R, 4, none⟩ = some (.slice aN n cN) := AS.cellR S36.drew (h.c4)
  have L29_2 : ((w.alloc (.cells #[.int .i64 1] 3)).alloc (.cells #[.string s] 9)).drew.cell? ⟨R, 5, none⟩ = some (.slice aS m cS) := AS.cellR S36.drew (h.c5)
  have L29_3 : ((w.alloc (.cells #[.int .i64 1] 3)).alloc (.cells #[.string s] 9)).drew.cell? ⟨R, 6, none⟩ = some (.slice aT l cT) := AS.cellR S36.drew (h.c6)
  have S37 := S36.al (.cells #[.int .i64 0] 3)
  have Z37 : (((w.alloc (.cells #[.int .i64 1] 3)).alloc (.cells #[.string s] 9)).alloc (.cells #[.int .i64 0] 3)).heap.size = w.heap.size + 1 + 1 + 1 := by rw [World.size_alloc, Z36]
  have F37_2 := (heap_al ((w.alloc (.cells #[.int .i64 1] 3)).alloc (.cells #[.string s] 9)) (.cells #[.int .i64 0] 3) (w.heap.size) (Array.getElem?_eq_some_iff.1 F36_2).1).trans F36_2
  have F37_1 := (heap_al ((w.alloc (.cells #[.int .i64 1] 3)).alloc (.cells #[.string s] 9)) (.cells #[.int .i64 0] 3) (w.heap.size + 1) (Array.getElem?_eq_some_iff.1 F36_1).1).trans F36_1
  have F37_3 := heap_alloc_new ((w.alloc (.cells #[.int .i64 1] 3)).alloc (.cells #[.string s] 9)) (.cells #[.int .i64 0] 3)
  rw [Z36] at F37_3
  have L30_1 : (((w.alloc (.cells #[.int .i64 1] 3)).alloc (.cells #[.string s] 9)).alloc (.cells #[.int .i64 0] 3)).drew.cell? ⟨R, 4, none⟩ = some (.slice aN n cN) := AS.cellR S37.drew (h.c4)
  have L30_2 : (((w.alloc (.cells #[.int .i64 1] 3)).alloc (.cells #[.string s] 9)).alloc (.cells #[.int .i64 0] 3)).drew.cell? ⟨R, 5, none⟩ = some (.slice aS m cS) := AS.cellR S37.drew (h.c5)
  have L30_3 : (((w.alloc (.cells #[.int .i64 1] 3)).alloc (.cells #[.string s] 9)).alloc (.cells #[.int .i64 0] 3)).drew.cell? ⟨R, 6, none⟩ = some (.slice aT l cT) := AS.cellR S37.drew (h.c6)
  obtain ⟨g38, c38, x38, r38, S38, k38⟩ := AS.app (X := (((w.alloc (.cells #[.int .i64 1] 3)).alloc (.cells #[.string s] 9)).alloc (.cells #[.int .i64 0] 3)).drew) (l1 := []) (r := ⟨.slice aN n cN, 9, 1, n, xN⟩) (l2 := [⟨.slice aS m cS, 3, 1, m, xS⟩, ⟨.slice aT l cT, 3, 1, l, xT⟩, ⟨av, 52, 3, na, xA⟩]) S37.drew 4 rfl 32 32 i1 (.string ⟨#[]⟩) 16 Try.underlying32 hi1 z10 z11 z12 rfl rfl (w.heap.size + 1) (.string s) F37_1 rfl (by omega) (by decide)
  have s38 : w.heap.size ≤ x38.heap.size := by have := S38.up.size; rwa [pnd_size] at this
  have F38_2 := (k38 (w.heap.size) (Array.getElem?_eq_some_iff.1 F37_2).1 (fun e => by have := hl1 _ e; omega)).trans F37_2
  have F38_3 := (k38 (w.heap.size + 1 + 1) (Array.getElem?_eq_some_iff.1 F37_3).1 (fun e => by have := hl1 _ e; omega)).trans F37_3
  have L31_2 : x38.cell? ⟨R, 5, none⟩ = some (.slice aS m cS) := AS.cellR S38 (h.c5)
  have L31_3 : x38.cell? ⟨R, 6, none⟩ = some (.slice aT l cT) := AS.cellR S38 (h.c6)
  obtain ⟨g39, c39, x39, r39, S39, k39⟩ := AS.app (X := x38) (l1 := [⟨.slice (some ⟨g38, 0, none⟩) (n + 1) c38, 9, 1, n + 1, xN ++ [(.string s)]⟩]) (r := ⟨.slice aS m cS, 3, 1, m, xS⟩) (l2 := [⟨.slice aT l cT, 3, 1, l, xT⟩, ⟨av, 52, 3, na, xA⟩]) S38 5 rfl 33 33 i2 (.int .i64 0) 8 Try.underlying33 hi2 z20 z21 z22 rfl rfl (w.heap.size) (.int .i64 1) F38_2 rfl (by omega) (by decide)
  have s39 : w.heap.size ≤ x39.heap.size := by have := S39.up.size; rwa [pnd_size] at this
  have F39_3 := (k39 (w.heap.size + 1 + 1) (Array.getElem?_eq_some_iff.1 F38_3).1 (fun e => by have := hl2 _ e; omega)).trans F38_3
  have L32_3 : x39.cell? ⟨R, 6, none⟩ = some (.slice aT l cT) := AS.cellR S39 (h.c6)
  obtain ⟨g40, c40, x40, r40, S40, k40⟩ := AS.app (X := x39) (l1 := [⟨.slice (some ⟨g38, 0, none⟩) (n + 1) c38, 9, 1, n + 1, xN ++ [(.string s)]⟩, ⟨.slice (some ⟨g39, 0, none⟩) (m + 1) c39, 3, 1, m + 1, xS ++ [(.int .i64 1)]⟩]) (r := ⟨.slice aT l cT, 3, 1, l, xT⟩) (l2 := [⟨av, 52, 3, na, xA⟩]) S39 6 rfl 33 33 i2 (.int .i64 0) 8 Try.underlying33 hi2 z20 z21 z22 rfl rfl (w.heap.size + 1 + 1) (.int .i64 0) F39_3 rfl (by omega) (by decide)
  have s40 : w.heap.size ≤ x40.heap.size := by have := S40.up.size; rwa [pnd_size] at this
  obtain ⟨g41, c41, x41, r41, S41, k41⟩ := AS.app (X := ((w.alloc (.cells #[.int .i64 1] 3)).alloc (.cells #[.string s] 9)).drew) (l1 := []) (r := ⟨.slice aN n cN, 9, 1, n, xN⟩) (l2 := [⟨.slice aS m cS, 3, 1, m, xS⟩, ⟨.slice aT l cT, 3, 1, l, xT⟩, ⟨av, 52, 3, na, xA⟩]) S36.drew 4 rfl 32 32 i1 (.string ⟨#[]⟩) 16 Try.underlying32 hi1 z10 z11 z12 rfl rfl (w.heap.size + 1) (.string s) F36_1 rfl (by omega) (by decide)
  have s41 : w.heap.size ≤ x41.heap.size := by have := S41.up.size; rwa [pnd_size] at this
  have F41_2 := (k41 (w.heap.size) (Array.getElem?_eq_some_iff.1 F36_2).1 (fun e => by have := hl1 _ e; omega)).trans F36_2
  have L33_2 : x41.cell? ⟨R, 5, none⟩ = some (.slice aS m cS) := AS.cellR S41 (h.c5)
  have L33_3 : x41.cell? ⟨R, 6, none⟩ = some (.slice aT l cT) := AS.cellR S41 (h.c6)
  have S42 := S41.al (.cells #[.int .i64 0] 3)
  have Z42 : (x41.alloc (.cells #[.int .i64 0] 3)).heap.size = x41.heap.size + 1 := by rw [World.size_alloc, (rfl : x41.heap.size = x41.heap.size)]
  have F42_2 := (heap_al x41 (.cells #[.int .i64 0] 3) (w.heap.size) (Array.getElem?_eq_some_iff.1 F41_2).1).trans F41_2
  have F42_3 := heap_alloc_new x41 (.cells #[.int .i64 0] 3)
  rw [(rfl : x41.heap.size = x41.heap.size)] at F42_3
  have L34_2 : (x41.alloc (.cells #[.int .i64 0] 3)).cell? ⟨R, 5, none⟩ = some (.slice aS m cS) := AS.cellR S42 (h.c5)
  have L34_3 : (x41.alloc (.cells #[.int .i64 0] 3)).cell? ⟨R, 6, none⟩ = some (.slice aT l cT) := AS.cellR S42 (h.c6)
  obtain ⟨g43, c43, x43, r43, S43, k43⟩ := AS.app (X := (x41.alloc (.cells #[.int .i64 0] 3))) (l1 := [⟨.slice (some ⟨g41, 0, none⟩) (n + 1) c41, 9, 1, n + 1, xN ++ [(.string s)]⟩]) (r := ⟨.slice aS m cS, 3, 1, m, xS⟩) (l2 := [⟨.slice aT l cT, 3, 1, l, xT⟩, ⟨av, 52, 3, na, xA⟩]) S42 5 rfl 33 33 i2 (.int .i64 0) 8 Try.underlying33 hi2 z20 z21 z22 rfl rfl (w.heap.size) (.int .i64 1) F42_2 rfl (by omega) (by decide)
  have s43 : w.heap.size ≤ x43.heap.size := by have := S43.up.size; rwa [pnd_size] at this
  have F43_3 := (k43 (x41.heap.size) (Array.getElem?_eq_some_iff.1 F42_3).1 (fun e => by have := hl2 _ e; omega)).trans F42_3
  have L35_3 : x43.cell? ⟨R, 6, none⟩ = some (.slice aT l cT) := AS.cellR S43 (h.c6)
  obtain ⟨g44, c44, x44, r44, S44, k44⟩ := AS.app (X := x43) (l1 := [⟨.slice (some ⟨g41, 0, none⟩) (n + 1) c41, 9, 1, n + 1, xN ++ [(.string s)]⟩, ⟨.slice (some ⟨g43, 0, none⟩) (m + 1) c43, 3, 1, m + 1, xS ++ [(.int .i64 1)]⟩]) (r := ⟨.slice aT l cT, 3, 1, l, xT⟩) (l2 := [⟨av, 52, 3, na, xA⟩]) S43 6 rfl 33 33 i2 (.int .i64 0) 8 Try.underlying33 hi2 z20 z21 z22 rfl rfl (x41.heap.size) (.int .i64 0) F43_3 rfl (by omega) (by decide)
  have s44 : w.heap.size ≤ x44.heap.size := by have := S44.up.size; rwa [pnd_size] at this
  obtain ⟨g45, c45, x45, r45, S45, k45⟩ := AS.app (X := x41) (l1 := [⟨.slice (some ⟨g41, 0, none⟩) (n + 1) c41, 9, 1, n + 1, xN ++ [(.string s)]⟩]) (r := ⟨.slice aS m cS, 3, 1, m, xS⟩) (l2 := [⟨.slice aT l cT, 3, 1, l, xT⟩, ⟨av, 52, 3, na, xA⟩]) S41 5 rfl 33 33 i2 (.int .i64 0) 8 Try.underlying33 hi2 z20 z21 z22 rfl rfl (w.heap.size) (.int .i64 1) F41_2 rfl (by omega) (by decide)
  have s45 : w.heap.size ≤ x45.heap.size := by have := S45.up.size; rwa [pnd_size] at this
  have L36_3 : x45.cell? ⟨R, 6, none⟩ = some (.slice aT l cT) := AS.cellR S45 (h.c6)
  have S46 := S45.al (.cells #[.int .i64 0] 3)
  have Z46 : (x45.alloc (.cells #[.int .i64 0] 3)).heap.size = x45.heap.size + 1 := by rw [World.size_alloc, (rfl : x45.heap.size = x45.heap.size)]
  have F46_3 := heap_alloc_new x45 (.cells #[.int .i64 0] 3)
  rw [(rfl : x45.heap.size = x45.heap.size)] at F46_3
  have L37_3 : (x45.alloc (.cells #[.int .i64 0] 3)).cell? ⟨R, 6, none⟩ = some (.slice aT l cT) := AS.cellR S46 (h.c6)
  obtain ⟨g47, c47, x47, r47, S47, k47⟩ := AS.app (X := (x45.alloc (.cells #[.int .i64 0] 3))) (l1 := [⟨.slice (some ⟨g41, 0, none⟩) (n + 1) c41, 9, 1, n + 1, xN ++ [(.string s)]⟩, ⟨.slice (some ⟨g45, 0, none⟩) (m + 1) c45, 3, 1, m + 1, xS ++ [(.int .i64 1)]⟩]) (r := ⟨.slice aT l cT, 3, 1, l, xT⟩) (l2 := [⟨av, 52, 3, na, xA⟩]) S46 6 rfl 33 33 i2 (.int .i64 0) 8 Try.underlying33 hi2 z20 z21 z22 rfl rfl (x45.heap.size) (.int .i64 0) F46_3 rfl (by omega) (by decide)
  have s47 : w.heap.size ≤ x47.heap.size := by have := S47.up.size; rwa [pnd_size] at this
  have S48 := S35.al (.cells #[.int .i64 0] 3)
  have Z48 : ((w.alloc (.cells #[.int .i64 1] 3)).alloc (.cells #[.int .i64 0] 3)).heap.size = w.heap.size + 1 + 1 := by rw [World.size_alloc, Z35]
  have F48_2 := (heap_al (w.alloc (.cells #[.int .i64 1] 3)) (.cells #[.int .i64 0] 3) (w.heap.size) (Array.getElem?_eq_some_iff.1 F35_2).1).trans F35_2
  have F48_3 := heap_alloc_new (w.alloc (.cells #[.int .i64 1] 3)) (.cells #[.int .i64 0] 3)
  rw [Z35] at F48_3
  have L38_1 : ((w.alloc (.cells #[.int .i64 1] 3)).alloc (.cells #[.int .i64 0] 3)).drew.cell? ⟨R, 4, none⟩ = some (.slice aN n cN) := AS.cellR S48.drew (h.c4)
  have L38_2 : ((w.alloc (.cells #[.int .i64 1] 3)).alloc (.cells #[.int .i64 0] 3)).drew.cell? ⟨R, 5, none⟩ = some (.slice aS m cS) := AS.cellR S48.drew (h.c5)
  have L38_3 : ((w.alloc (.cells #[.int .i64 1] 3)).alloc (.cells #[.int .i64 0] 3)).drew.cell? ⟨R, 6, none⟩ = some (.slice aT l cT) := AS.cellR S48.drew (h.c6)
  have S49 := S48.al (.cells #[.string s] 9)
  have Z49 : (((w.alloc (.cells #[.int .i64 1] 3)).alloc (.cells #[.int .i64 0] 3)).alloc (.cells #[.string s] 9)).heap.size = w.heap.size + 1 + 1 + 1 := by rw [World.size_alloc, Z48]
  have F49_2 := (heap_al ((w.alloc (.cells #[.int .i64 1] 3)).alloc (.cells #[.int .i64 0] 3)) (.cells #[.string s] 9) (w.heap.size) (Array.getElem?_eq_some_iff.1 F48_2).1).trans F48_2
  have F49_3 := (heap_al ((w.alloc (.cells #[.int .i64 1] 3)).alloc (.cells #[.int .i64 0] 3)) (.cells #[.string s] 9) (w.heap.size + 1) (Array.getElem?_eq_some_iff.1 F48_3).1).trans F48_3
  have F49_1 := heap_alloc_new ((w.alloc (.cells #[.int .i64 1] 3)).alloc (.cells #[.int .i64 0] 3)) (.cells #[.string s] 9)
  rw [Z48] at F49_1
  have L39_1 : (((w.alloc (.cells #[.int .i64 1] 3)).alloc (.cells #[.int .i64 0] 3)).alloc (.cells #[.string s] 9)).drew.cell? ⟨R, 4, none⟩ = some (.slice aN n cN) := AS.cellR S49.drew (h.c4)
  have L39_2 : (((w.alloc (.cells #[.int .i64 1] 3)).alloc (.cells #[.int .i64 0] 3)).alloc (.cells #[.string s] 9)).drew.cell? ⟨R, 5, none⟩ = some (.slice aS m cS) := AS.cellR S49.drew (h.c5)
  have L39_3 : (((w.alloc (.cells #[.int .i64 1] 3)).alloc (.cells #[.int .i64 0] 3)).alloc (.cells #[.string s] 9)).drew.cell? ⟨R, 6, none⟩ = some (.slice aT l cT) := AS.cellR S49.drew (h.c6)
  obtain ⟨g50, c50, x50, r50, S50, k50⟩ := AS.app (X := (((w.alloc (.cells #[.int .i64 1] 3)).alloc (.cells #[.int .i64 0] 3)).alloc (.cells #[.string s] 9)).drew) (l1 := []) (r := ⟨.slice aN n cN, 9, 1, n, xN⟩) (l2 := [⟨.slice aS m cS, 3, 1, m, xS⟩, ⟨.slice aT l cT, 3, 1, l, xT⟩, ⟨av, 52, 3, na, xA⟩]) S49.drew 4 rfl 32 32 i1 (.string ⟨#[]⟩) 16 Try.underlying32 hi1 z10 z11 z12 rfl rfl (w.heap.size + 1 + 1) (.string s) F49_1 rfl (by omega) (by decide)
  have s50 : w.heap.size ≤ x50.heap.size := by have := S50.up.size; rwa [pnd_size] at this
  have F50_2 := (k50 (w.heap.size) (Array.getElem?_eq_some_iff.1 F49_2).1 (fun e => by have := hl1 _ e; omega)).trans F49_2
  have F50_3 := (k50 (w.heap.size + 1) (Array.getElem?_eq_some_iff.1 F49_3).1 (fun e => by have := hl1 _ e; omega)).trans F49_3
  have L40_2 : x50.cell? ⟨R, 5, none⟩ = some (.slice aS m cS) := AS.cellR S50 (h.c5)
  have L40_3 : x50.cell? ⟨R, 6, none⟩ = some (.slice aT l cT) := AS.cellR S50 (h.c6)
  obtain ⟨g51, c51, x51, r51, S51, k51⟩ := AS.app (X := x50) (l1 := [⟨.slice (some ⟨g50, 0, none⟩) (n + 1) c50, 9, 1, n + 1, xN ++ [(.string s)]⟩]) (r := ⟨.slice aS m cS, 3, 1, m, xS⟩) (l2 := [⟨.slice aT l cT, 3, 1, l, xT⟩, ⟨av, 52, 3, na, xA⟩]) S50 5 rfl 33 33 i2 (.int .i64 0) 8 Try.underlying33 hi2 z20 z21 z22 rfl rfl (w.heap.size) (.int .i64 1) F50_2 rfl (by omega) (by decide)
  have s51 : w.heap.size ≤ x51.heap.size := by have := S51.up.size; rwa [pnd_size] at this
  have F51_3 := (k51 (w.heap.size + 1) (Array.getElem?_eq_some_iff.1 F50_3).1 (fun e => by have := hl2 _ e; omega)).trans F50_3
  have L41_3 : x51.cell? ⟨R, 6, none⟩ = some (.slice aT l cT) := AS.cellR S51 (h.c6)
  obtain ⟨g52, c52, x52, r52, S52, k52⟩ := AS.app (X := x51) (l1 := [⟨.slice (some ⟨g50, 0, none⟩) (n + 1) c50, 9, 1, n + 1, xN ++ [(.string s)]⟩, ⟨.slice (some ⟨g51, 0, none⟩) (m + 1) c51, 3, 1, m + 1, xS ++ [(.int .i64 1)]⟩]) (r := ⟨.slice aT l cT, 3, 1, l, xT⟩) (l2 := [⟨av, 52, 3, na, xA⟩]) S51 6 rfl 33 33 i2 (.int .i64 0) 8 Try.underlying33 hi2 z20 z21 z22 rfl rfl (w.heap.size + 1) (.int .i64 0) F51_3 rfl (by omega) (by decide)
  have s52 : w.heap.size ≤ x52.heap.size := by have := S52.up.size; rwa [pnd_size] at this
  have S53 := S0.al (.cells #[.int .i64 0] 3)
  have Z53 : (w.alloc (.cells #[.int .i64 0] 3)).heap.size = w.heap.size + 1 := by rw [World.size_alloc, (rfl : w.heap.size = w.heap.size)]
  have F53_3 := heap_alloc_new w (.cells #[.int .i64 0] 3)
  rw [(rfl : w.heap.size = w.heap.size)] at F53_3
  have L42_1 : (w.alloc (.cells #[.int .i64 0] 3)).drew.cell? ⟨R, 4, none⟩ = some (.slice aN n cN) := AS.cellR S53.drew (h.c4)
  have L42_2 : (w.alloc (.cells #[.int .i64 0] 3)).drew.cell? ⟨R, 5, none⟩ = some (.slice aS m cS) := AS.cellR S53.drew (h.c5)
  have L42_3 : (w.alloc (.cells #[.int .i64 0] 3)).drew.cell? ⟨R, 6, none⟩ = some (.slice aT l cT) := AS.cellR S53.drew (h.c6)
  have S54 := S53.al (.cells #[.string s] 9)
  have Z54 : ((w.alloc (.cells #[.int .i64 0] 3)).alloc (.cells #[.string s] 9)).heap.size = w.heap.size + 1 + 1 := by rw [World.size_alloc, Z53]
  have F54_3 := (heap_al (w.alloc (.cells #[.int .i64 0] 3)) (.cells #[.string s] 9) (w.heap.size) (Array.getElem?_eq_some_iff.1 F53_3).1).trans F53_3
  have F54_1 := heap_alloc_new (w.alloc (.cells #[.int .i64 0] 3)) (.cells #[.string s] 9)
  rw [Z53] at F54_1
  have L43_1 : ((w.alloc (.cells #[.int .i64 0] 3)).alloc (.cells #[.string s] 9)).drew.cell? ⟨R, 4, none⟩ = some (.slice aN n cN) := AS.cellR S54.drew (h.c4)
  have L43_2 : ((w.alloc (.cells #[.int .i64 0] 3)).alloc (.cells #[.string s] 9)).drew.cell? ⟨R, 5, none⟩ = some (.slice aS m cS) := AS.cellR S54.drew (h.c5)
  have L43_3 : ((w.alloc (.cells #[.int .i64 0] 3)).alloc (.cells #[.string s] 9)).drew.cell? ⟨R, 6, none⟩ = some (.slice aT l cT) := AS.cellR S54.drew (h.c6)
  have S55 := S54.al (.cells #[.int .i64 1] 3)
  have Z55 : (((w.alloc (.cells #[.int .i64 0] 3)).alloc (.cells #[.string s] 9)).alloc (.cells #[.int .i64 1] 3)).heap.size = w.heap.size + 1 + 1 + 1 := by rw [World.size_alloc, Z54]
  have F55_3 := (heap_al ((w.alloc (.cells #[.int .i64 0] 3)).alloc (.cells #[.string s] 9)) (.cells #[.int .i64 1] 3) (w.heap.size) (Array.getElem?_eq_some_iff.1 F54_3).1).trans F54_3
  have F55_1 := (heap_al ((w.alloc (.cells #[.int .i64 0] 3)).alloc (.cells #[.string s] 9)) (.cells #[.int .i64 1] 3) (w.heap.size + 1) (Array.getElem?_eq_some_iff.1 F54_1).1).trans F54_1
  have F55_2 := heap_alloc_new ((w.alloc (.cells #[.int .i64 0] 3)).alloc (.cells #[.string s] 9)) (.cells #[.int .i64 1] 3)
  rw [Z54] at F55_2
  have L44_1 : (((w.alloc (.cells #[.int .i64 0] 3)).alloc (.cells #[.string s] 9)).alloc (.cells #[.int .i64 1] 3)).drew.cell? ⟨R, 4, none⟩ = some (.slice aN n cN) := AS.cellR S55.drew (h.c4)
  have L44_2 : (((w.alloc (.cells #[.int .i64 0] 3)).alloc (.cells #[.string s] 9)).alloc (.cells #[.int .i64 1] 3)).drew.cell? ⟨R, 5, none⟩ = some (.slice aS m cS) := AS.cellR S55.drew (h.c5)
  have L44_3 : (((w.alloc (.cells #[.int .i64 0] 3)).alloc (.cells #[.string s] 9)).alloc (.cells #[.int .i64 1] 3)).drew.cell? ⟨R, 6, none⟩ = some (.slice aT l cT) := AS.cellR S55.drew (h.c6)
  obtain ⟨g56, c56, x56, r56, S56, k56⟩ := AS.app (X := (((w.alloc (.cells #[.int .i64 0] 3)).alloc (.cells #[.string s] 9)).alloc (.cells #[.int .i64 1] 3)).drew) (l1 := []) (r := ⟨.slice aN n cN, 9, 1, n, xN⟩) (l2 := [⟨.slice aS m cS, 3, 1, m, xS⟩, ⟨.slice aT l cT, 3, 1, l, xT⟩, ⟨av, 52, 3, na, xA⟩]) S55.drew 4 rfl 32 32 i1 (.string ⟨#[]⟩) 16 Try.underlying32 hi1 z10 z11 z12 rfl rfl (w.heap.size + 1) (.string s) F55_1 rfl (by omega) (by decide)
  have s56 : w.heap.size ≤ x56.heap.size := by have := S56.up.size; rwa [pnd_size] at this
  have F56_3 := (k56 (w.heap.size) (Array.getElem?_eq_some_iff.1 F55_3).1 (fun e => by have := hl1 _ e; omega)).trans F55_3
  have F56_2 := (k56 (w.heap.size + 1 + 1) (Array.getElem?_eq_some_iff.1 F55_2).1 (fun e => by have := hl1 _ e; omega)).trans F55_2
  have L45_2 : x56.cell? ⟨R, 5, none⟩ = some (.slice aS m cS) := AS.cellR S56 (h.c5)
  have L45_3 : x56.cell? ⟨R, 6, none⟩ = some (.slice aT l cT) := AS.cellR S56 (h.c6)
  obtain ⟨g57, c57, x57, r57, S57, k57⟩ := AS.app (X := x56) (l1 := [⟨.slice (some ⟨g56, 0, none⟩) (n + 1) c56, 9, 1, n + 1, xN ++ [(.string s)]⟩]) (r := ⟨.slice aS m cS, 3, 1, m, xS⟩) (l2 := [⟨.slice aT l cT, 3, 1, l, xT⟩, ⟨av, 52, 3, na, xA⟩]) S56 5 rfl 33 33 i2 (.int .i64 0) 8 Try.underlying33 hi2 z20 z21 z22 rfl rfl (w.heap.size + 1 + 1) (.int .i64 1) F56_2 rfl (by omega) (by decide)
  have s57 : w.heap.size ≤ x57.heap.size := by have := S57.up.size; rwa [pnd_size] at this
  have F57_3 := (k57 (w.heap.size) (Array.getElem?_eq_some_iff.1 F56_3).1 (fun e => by have := hl2 _ e; omega)).trans F56_3
  have L46_3 : x57.cell? ⟨R, 6, none⟩ = some (.slice aT l cT) := AS.cellR S57 (h.c6)
  obtain ⟨g58, c58, x58, r58, S58, k58⟩ := AS.app (X := x57) (l1 := [⟨.slice (some ⟨g56, 0, none⟩) (n + 1) c56, 9, 1, n + 1, xN ++ [(.string s)]⟩, ⟨.slice (some ⟨g57, 0, none⟩) (m + 1) c57, 3, 1, m + 1, xS ++ [(.int .i64 1)]⟩]) (r := ⟨.slice aT l cT, 3, 1, l, xT⟩) (l2 := [⟨av, 52, 3, na, xA⟩]) S57 6 rfl 33 33 i2 (.int .i64 0) 8 Try.underlying33 hi2 z20 z21 z22 rfl rfl (w.heap.size) (.int .i64 0) F57_3 rfl (by omega) (by decide)
  have s58 : w.heap.size ≤ x58.heap.size := by have := S58.up.size; rwa [pnd_size] at this
  obtain ⟨g59, c59, x59, r59, S59, k59⟩ := AS.app (X := ((w.alloc (.cells #[.int .i64 0] 3)).alloc (.cells #[.string s] 9)).drew) (l1 := []) (r := ⟨.slice aN n cN, 9, 1, n, xN⟩) (l2 := [⟨.slice aS m cS, 3, 1, m, xS⟩, ⟨.slice aT l cT, 3, 1, l, xT⟩, ⟨av, 52, 3, na, xA⟩]) S54.drew 4 rfl 32 32 i1 (.string ⟨#[]⟩) 16 Try.underlying32 hi1 z10 z11 z12 rfl rfl (w.heap.size + 1) (.string s) F54_1 rfl (by omega) (by decide)
  have s59 : w.heap.size ≤ x59.heap.size := by have := S59.up.size; rwa [pnd_size] at this
  have F59_3 := (k59 (w.heap.size) (Array.getElem?_eq_some_iff.1 F54_3).1 (fun e => by have := hl1 _ e; omega)).trans F54_3
  have L47_2 : x59.cell? ⟨R, 5, none⟩ = some (.slice aS m cS) := AS.cellR S59 (h.c5)
  have L47_3 : x59.cell? ⟨R, 6, none⟩ = some (.slice aT l cT) := AS.cellR S59 (h.c6)
  have S60 := S59.al (.cells #[.int .i64 1] 3)
  have Z60 : (x59.alloc (.cells #[.int .i64 1] 3)).heap.size = x59.heap.size + 1 := by rw [World.size_alloc, (rfl : x59.heap.size = x59.heap.size)]
  have F60_3 := (heap_al x59 (.cells #[.int .i64 1] 3) (w.heap.size) (Array.getElem?_eq_some_iff.1 F59_3).1).trans F59_3
  have F60_2 := heap_alloc_new x59 (.cells #[.int .i64 1] 3)
  rw [(rfl : x59.heap.size = x59.heap.size)] at F60_2
  have L48_2 : (x59.alloc (.cells #[.int .i64 1] 3)).cell? ⟨R, 5, none⟩ = some (.slice aS m cS) := AS.cellR S60 (h.c5)
  have L48_3 : (x59.alloc (.cells #[.int .i64 1] 3)).cell? ⟨R, 6, none⟩ = some (.slice aT l cT) := AS.cellR S60 (h.c6)
  obtain ⟨g61, c61, x61, r61, S61, k61⟩ := AS.app (X := (x59.alloc (.cells #[.int .i64 1] 3))) (l1 := [⟨.slice (some ⟨g59, 0, none⟩) (n + 1) c59, 9, 1, n + 1, xN ++ [(.string s)]⟩]) (r := ⟨.slice aS m cS, 3, 1, m, xS⟩) (l2 := [⟨.slice aT l cT, 3, 1, l, xT⟩, ⟨av, 52, 3, na, xA⟩]) S60 5 rfl 33 33 i2 (.int .i64 0) 8 Try.underlying33 hi2 z20 z21 z22 rfl rfl (x59.heap.size) (.int .i64 1) F60_2 rfl (by omega) (by decide)
  have s61 : w.heap.size ≤ x61.heap.size := by have := S61.up.size; rwa [pnd_size] at this
  have F61_3 := (k61 (w.heap.size) (Array.getElem?_eq_some_iff.1 F60_3).1 (fun e => by have := hl2 _ e; omega)).trans F60_3
  have L49_3 : x61.cell? ⟨R, 6, none⟩ = some (.slice aT l cT) := AS.cellR S61 (h.c6)
  obtain ⟨g62, c62, x62, r62, S62, k62⟩ := AS.app (X := x61) (l1 := [⟨.slice (some ⟨g59, 0, none⟩) (n + 1) c59, 9, 1, n + 1, xN ++ [(.string s)]⟩, ⟨.slice (some ⟨g61, 0, none⟩) (m + 1) c61, 3, 1, m + 1, xS ++ [(.int .i64 1)]⟩]) (r := ⟨.slice aT l cT, 3, 1, l, xT⟩) (l2 := [⟨av, 52, 3, na, xA⟩]) S61 6 rfl 33 33 i2 (.int .i64 0) 8 Try.underlying33 hi2 z20 z21 z22 rfl rfl (w.heap.size) (.int .i64 0) F61_3 rfl (by omega) (by decide)
  have s62 : w.heap.size ≤ x62.heap.size := by have := S62.up.size; rwa [pnd_size] at this
  have S63 := S53.al (.cells #[.int .i64 1] 3)
  have Z63 : ((w.alloc (.cells #[.int .i64 0] 3)).alloc (.cells #[.int .i64 1] 3)).heap.size = w.heap.size + 1 + 1 := by rw [World.size_alloc, Z53]
  have F63_3 := (heap_al (w.alloc (.cells #[.int .i64 0] 3)) (.cells #[.int .i64 1] 3) (w.heap.size) (Array.getElem?_eq_some_iff.1 F53_3).1).trans F53_3
  have F63_2 := heap_alloc_new (w.alloc (.cells #[.int .i64 0] 3)) (.cells #[.int .i64 1] 3)
  rw [Z53] at F63_2
  have L50_1 : ((w.alloc (.cells #[.int .i64 0] 3)).alloc (.cells #[.int .i64 1] 3)).drew.cell? ⟨R, 4, none⟩ = some (.slice aN n cN) := AS.cellR S63.drew (h.c4)
  have L50_2 : ((w.alloc (.cells #[.int .i64 0] 3)).alloc (.cells #[.int .i64 1] 3)).drew.cell? ⟨R, 5, none⟩ = some (.slice aS m cS) := AS.cellR S63.drew (h.c5)
  have L50_3 : ((w.alloc (.cells #[.int .i64 0] 3)).alloc (.cells #[.int .i64 1] 3)).drew.cell? ⟨R, 6, none⟩ = some (.slice aT l cT) := AS.cellR S63.drew (h.c6)
  have S64 := S63.al (.cells #[.string s] 9)
  have Z64 : (((w.alloc (.cells #[.int .i64 0] 3)).alloc (.cells #[.int .i64 1] 3)).alloc (.cells #[.string s] 9)).heap.size = w.heap.size + 1 + 1 + 1 := by rw [World.size_alloc, Z63]
  have F64_3 := (heap_al ((w.alloc (.cells #[.int .i64 0] 3)).alloc (.cells #[.int .i64 1] 3)) (.cells #[.string s] 9) (w.heap.size) (Array.getElem?_eq_some_iff.1 F63_3).1).trans F63_3
  have F64_2 := (heap_al ((w.alloc (.cells #[.int .i64 0] 3)).alloc (.cells #[.int .i64 1] 3)) (.cells #[.string s] 9) (w.heap.size + 1) (Array.getElem?_eq_some_iff.1 F63_2).1).trans F63_2
  have F64_1 := heap_alloc_new ((w.alloc (.cells #[.int .i64 0] 3)).alloc (.cells #[.int .i64 1] 3)) (.cells #[.string s] 9)
  rw [Z63] at F64_1
  have L51_1 : (((w.alloc (.cells #[.int .i64 0] 3)).alloc (.cells #[.int .i64 1] 3)).alloc (.cells #[.string s] 9)).drew.cell? ⟨R, 4, none⟩ = some (.slice aN n cN) := AS.cellR S64.drew (h.c4)
  have L51_2 : (((w.alloc (.cells #[.int .i64 0] 3)).alloc (.cells #[.int .i64 1] 3)).alloc (.cells #[.string s] 9)).drew.cell? ⟨R, 5, none⟩ = some (.slice aS m cS) := AS.cellR S64.drew (h.c5)
  have L51_3 : (((w.alloc (.cells #[.int .i64 0] 3)).alloc (.cells #[.int .i64 1] 3)).alloc (.cells #[.string s] 9)).drew.cell? ⟨R, 6, none⟩ = some (.slice aT l cT) := AS.cellR S64.drew (h.c6)
  obtain ⟨g65, c65, x65, r65, S65, k65⟩ := AS.app (X := (((w.alloc (.cells #[.int .i64 0] 3)).alloc (.cells #[.int .i64 1] 3)).alloc (.cells #[.string s] 9)).drew) (l1 := []) (r := ⟨.slice aN n cN, 9, 1, n, xN⟩) (l2 := [⟨.slice aS m cS, 3, 1, m, xS⟩, ⟨.slice aT l cT, 3, 1, l, xT⟩, ⟨av, 52, 3, na, xA⟩]) S64.drew 4 rfl 32 32 i1 (.string ⟨#[]⟩) 16 Try.underlying32 hi1 z10 z11 z12 rfl rfl (w.heap.size + 1 + 1) (.string s) F64_1 rfl (by omega) (by decide)
  have s65 : w.heap.size ≤ x65.heap.size := by have := S65.up.size; rwa [pnd_size] at this
  have F65_3 := (k65 (w.heap.size) (Array.getElem?_eq_some_iff.1 F64_3).1 (fun e => by have := hl1 _ e; omega)).trans F64_3
  have F65_2 := (k65 (w.heap.size + 1) (Array.getElem?_eq_some_iff.1 F64_2).1 (fun e => by have := hl1 _ e; omega)).trans F64_2
  have L52_2 : x65.cell? ⟨R, 5, none⟩ = some (.slice aS m cS) := AS.cellR S65 (h.c5)
  have L52_3 : x65.cell? ⟨R, 6, none⟩ = some (.slice aT l cT) := AS.cellR S65 (h.c6)
  obtain ⟨g66, c66, x66, r66, S66, k66⟩ := AS.app (X := x65) (l1 := [⟨.slice (some ⟨g65, 0, none⟩) (n + 1) c65, 9, 1, n + 1, xN ++ [(.string s)]⟩]) (r := ⟨.slice aS m cS, 3, 1, m, xS⟩) (l2 := [⟨.slice aT l cT, 3, 1, l, xT⟩, ⟨av, 52, 3, na, xA⟩]) S65 5 rfl 33 33 i2 (.int .i64 0) 8 Try.underlying33 hi2 z20 z21 z22 rfl rfl (w.heap.size + 1) (.int .i64 1) F65_2 rfl (by omega) (by decide)
  have s66 : w.heap.size ≤ x66.heap.size := by have := S66.up.size; rwa [pnd_size] at this
  have F66_3 := (k66 (w.heap.size) (Array.getElem?_eq_some_iff.1 F65_3).1 (fun e => by have := hl2 _ e; omega)).trans F65_3
  have L53_3 : x66.cell? ⟨R, 6, none⟩ = some (.slice aT l cT) := AS.cellR S66 (h.c6)
  obtain ⟨g67, c67, x67, r67, S67, k67⟩ := AS.app (X := x66) (l1 := [⟨.slice (some ⟨g65, 0, none⟩) (n + 1) c65, 9, 1, n + 1, xN ++ [(.string s)]⟩, ⟨.slice (some ⟨g66, 0, none⟩) (m + 1) c66, 3, 1, m + 1, xS ++ [(.int .i64 1)]⟩]) (r := ⟨.slice aT l cT, 3, 1, l, xT⟩) (l2 := [⟨av, 52, 3, na, xA⟩]) S66 6 rfl 33 33 i2 (.int .i64 0) 8 Try.underlying33 hi2 z20 z21 z22 rfl rfl (w.heap.size) (.int .i64 0) F66_3 rfl (by omega) (by decide)
  have s67 : w.heap.size ≤ x67.heap.size := by have := S67.up.size; rwa [pnd_size] at this
  obtain ⟨A0, B0, C0, D0, E0, G0⟩ := AS.stores S6 h (.slice (some ⟨g4, 0, none⟩) (n + 1) c4) (.slice (some ⟨g5, 0, none⟩) (m + 1) c5)
  have HF0 : Hid (Fin (((x6.setCell ⟨R, 4, none⟩ (.slice (some ⟨g4, 0, none⟩) (n + 1) c4)).setCell ⟨R, 5, none⟩ (.slice (some ⟨g5, 0, none⟩) (m + 1) c5)).setCell ⟨R, 6, none⟩ (.slice (some ⟨g6, 0, none⟩) (l + 1) c6))) := hfin _ _ _ _ _ _ _ S6
  obtain ⟨A1, B1, C1, D1, E1, G1⟩ := AS.stores S10 h (.slice (some ⟨g7, 0, none⟩) (n + 1) c7) (.slice (some ⟨g9, 0, none⟩) (m + 1) c9)
  have HF1 : Hid (Fin (((x10.setCell ⟨R, 4, none⟩ (.slice (some ⟨g7, 0, none⟩) (n + 1) c7)).setCell ⟨R, 5, none⟩ (.slice (some ⟨g9, 0, none⟩) (m + 1) c9)).setCell ⟨R, 6, none⟩ (.slice (some ⟨g10, 0, none⟩) (l + 1) c10))) := hfin _ _ _ _ _ _ _ S10
  obtain ⟨A2, B2, C2, D2, E2, G2⟩ := AS.stores S13 h (.slice (some ⟨g7, 0, none⟩) (n + 1) c7) (.slice (some ⟨g11, 0, none⟩) (m + 1) c11)
  have HF2 : Hid (Fin (((x13.setCell ⟨R, 4, none⟩ (.slice (some ⟨g7, 0, none⟩) (n + 1) c7)).setCell ⟨R, 5, none⟩ (.slice (some ⟨g11, 0, none⟩) (m + 1) c11)).setCell ⟨R, 6, none⟩ (.slice (some ⟨g13, 0, none⟩) (l + 1) c13))) := hfin _ _ _ _ _ _ _ S13
  obtain ⟨A3, B3, C3, D3, E3, G3⟩ := AS.stores S18 h (.slice (some ⟨g16, 0, none⟩) (n + 1) c16) (.slice (some ⟨g17, 0, none⟩) (m + 1) c17)
  have HF3 : Hid (Fin (((x18.setCell ⟨R, 4, none⟩ (.slice (some ⟨g16, 0, none⟩) (n + 1) c16)).setCell ⟨R, 5, none⟩ (.slice (some ⟨g17, 0, none⟩) (m + 1) c17)).setCell ⟨R, 6, none⟩ (.slice (some ⟨g18, 0, none⟩) (l + 1) c18))) := hfin _ _ _ _ _ _ _ S18
  obtain ⟨A4, B4, C4, D4, E4, G4⟩ := AS.stores S22 h (.slice (some ⟨g19, 0, none⟩) (n + 1) c19) (.slice (some ⟨g21, 0, none⟩) (m + 1) c21)
  have HF4 : Hid (Fin (((x22.setCell ⟨R, 4, none⟩ (.slice (some ⟨g19, 0, none⟩) (n + 1) c19)).setCell ⟨R, 5, none⟩ (.slice (some ⟨g21, 0, none⟩) (m + 1) c21)).setCell ⟨R, 6, none⟩ (.slice (some ⟨g22, 0, none⟩) (l + 1) c22))) := hfin _ _ _ _ _ _ _ S22
  obtain ⟨A5, B5, C5, D5, E5, G5⟩ := AS.stores S27 h (.slice (some ⟨g23, 0, none⟩) (n + 1) c23) (.slice (some ⟨g26, 0, none⟩) (m + 1) c26)
  have HF5 : Hid (Fin (((x27.setCell ⟨R, 4, none⟩ (.slice (some ⟨g23, 0, none⟩) (n + 1) c23)).setCell ⟨R, 5, none⟩ (.slice (some ⟨g26, 0, none⟩) (m + 1) c26)).setCell ⟨R, 6, none⟩ (.slice (some ⟨g27, 0, none⟩) (l + 1) c27))) := hfin _ _ _ _ _ _ _ S27
  obtain ⟨A6, B6, C6, D6, E6, G6⟩ := AS.stores S30 h (.slice (some ⟨g23, 0, none⟩) (n + 1) c23) (.slice (some ⟨g28, 0, none⟩) (m + 1) c28)
  have HF6 : Hid (Fin (((x30.setCell ⟨R, 4, none⟩ (.slice (some ⟨g23, 0, none⟩) (n + 1) c23)).setCell ⟨R, 5, none⟩ (.slice (some ⟨g28, 0, none⟩) (m + 1) c28)).setCell ⟨R, 6, none⟩ (.slice (some ⟨g30, 0, none⟩) (l + 1) c30))) := hfin _ _ _ _ _ _ _ S30
  obtain ⟨A7, B7, C7, D7, E7, G7⟩ := AS.stores S34 h (.slice (some ⟨g23, 0, none⟩) (n + 1) c23) (.slice (some ⟨g33, 0, none⟩) (m + 1) c33)
  have HF7 : Hid (Fin (((x34.setCell ⟨R, 4, none⟩ (.slice (some ⟨g23, 0, none⟩) (n + 1) c23)).setCell ⟨R, 5, none⟩ (.slice (some ⟨g33, 0, none⟩) (m + 1) c33)).setCell ⟨R, 6, none⟩ (.slice (some ⟨g34, 0, none⟩) (l + 1) c34))) := hfin _ _ _ _ _ _ _ S34
  obtain ⟨A8, B8, C8, D8, E8, G8⟩ := AS.stores S40 h (.slice (some ⟨g38, 0, none⟩) (n + 1) c38) (.slice (some ⟨g39, 0, none⟩) (m + 1) c39)
  have HF8 : Hid (Fin (((x40.setCell ⟨R, 4, none⟩ (.slice (some ⟨g38, 0, none⟩) (n + 1) c38)).setCell ⟨R, 5, none⟩ (.slice (some ⟨g39, 0, none⟩) (m + 1) c39)).setCell ⟨R, 6, none⟩ (.slice (some ⟨g40, 0, none⟩) (l + 1) c40))) := hfin _ _ _ _ _ _ _ S40
  obtain ⟨A9, B9, C9, D9, E9, G9⟩ := AS.stores S44 h (.slice (some ⟨g41, 0, none⟩) (n + 1) c41) (.slice (some ⟨g43, 0, none⟩) (m + 1) c43)
  have HF9 : Hid (Fin (((x44.setCell ⟨R, 4, none⟩ (.slice (some ⟨g41, 0, none⟩) (n + 1) c41)).setCell ⟨R, 5, none⟩ (.slice (some ⟨g43, 0, none⟩) (m + 1) c43)).setCell ⟨R, 6, none⟩ (.slice (some ⟨g44, 0, none⟩) (l + 1) c44))) := hfin _ _ _ _ _ _ _ S44
  obtain ⟨A10, B10, C10, D10, E10, G10⟩ := AS.stores S47 h (.slice (some ⟨g41, 0, none⟩) (n + 1) c41) (.slice (some ⟨g45, 0, none⟩) (m + 1) c45)
  have HF10 : Hid (Fin (((x47.setCell ⟨R, 4, none⟩ (.slice (some ⟨g41, 0, none⟩) (n + 1) c41)).setCell ⟨R, 5, none⟩ (.slice (some ⟨g45, 0, none⟩) (m + 1) c45)).setCell ⟨R, 6, none⟩ (.slice (some ⟨g47, 0, none⟩) (l + 1) c47))) := hfin _ _ _ _ _ _ _ S47
  obtain ⟨A11, B11, C11, D11, E11, G11⟩ := AS.stores S52 h (.slice (some ⟨g50, 0, none⟩) (n + 1) c50) (.slice (some ⟨g51, 0, none⟩) (m + 1) c51)
  have HF11 : Hid (Fin (((x52.setCell ⟨R, 4, none⟩ (.slice (some ⟨g50, 0, none⟩) (n + 1) c50)).setCell ⟨R, 5, none⟩ (.slice (some ⟨g51, 0, none⟩) (m + 1) c51)).setCell ⟨R, 6, none⟩ (.slice (some ⟨g52, 0, none⟩) (l + 1) c52))) := hfin _ _ _ _ _ _ _ S52
  obtain ⟨A12, B12, C12, D12, E12, G12⟩ := AS.stores S58 h (.slice (some ⟨g56, 0, none⟩) (n + 1) c56) (.slice (some ⟨g57, 0, none⟩) (m + 1) c57)
  have HF12 : Hid (Fin (((x58.setCell ⟨R, 4, none⟩ (.slice (some ⟨g56, 0, none⟩) (n + 1) c56)).setCell ⟨R, 5, none⟩ (.slice (some ⟨g57, 0, none⟩) (m + 1) c57)).setCell ⟨R, 6, none⟩ (.slice (some ⟨g58, 0, none⟩) (l + 1) c58))) := hfin _ _ _ _ _ _ _ S58
  obtain ⟨A13, B13, C13, D13, E13, G13⟩ := AS.stores S62 h (.slice (some ⟨g59, 0, none⟩) (n + 1) c59) (.slice (some ⟨g61, 0, none⟩) (m + 1) c61)
  have HF13 : Hid (Fin (((x62.setCell ⟨R, 4, none⟩ (.slice (some ⟨g59, 0, none⟩) (n + 1) c59)).setCell ⟨R, 5, none⟩ (.slice (some ⟨g61, 0, none⟩) (m + 1) c61)).setCell ⟨R, 6, none⟩ (.slice (some ⟨g62, 0, none⟩) (l + 1) c62))) := hfin _ _ _ _ _ _ _ S62
  obtain ⟨A14, B14, C14, D14, E14, G14⟩ := AS.stores S67 h (.slice (some ⟨g65, 0, none⟩) (n + 1) c65) (.slice (some ⟨g66, 0, none⟩) (m + 1) c66)
  have HF14 : Hid (Fin (((x67.setCell ⟨R, 4, none⟩ (.slice (some ⟨g65, 0, none⟩) (n + 1) c65)).setCell ⟨R, 5, none⟩ (.slice (some ⟨g66, 0, none⟩) (m + 1) c66)).setCell ⟨R, 6, none⟩ (.slice (some ⟨g67, 0, none⟩) (l + 1) c67))) := hfin _ _ _ _ _ _ _ S67
  clear s67 k67 S67 s66 k66 S66 F66_3 s65 k65 S65 F65_2 F65_3 Z64 S64 F64_1 F64_2 F64_3 Z63 S63 F63_2 F63_3 s62 k62 S62 s61 k61 S61 F61_3 Z60 S60 F60_2 F60_3 s59 k59 S59 F59_3 s58 k58 S58 s57 k57 S57 F57_3 s56 k56 S56 F56_2 F56_3 Z55 S55 F55_2 F55_1 F55_3 Z54 S54 F54_1 F54_3 Z53 S53 F53_3 s52 k52 S52 s51 k51 S51 F51_3 s50 k50 S50 F50_3 F50_2 Z49 S49 F49_1 F49_3 F49_2 Z48 S48 F48_3 F48_2 s47 k47 S47 Z46 S46 F46_3 s45 k45 S45 s44 k44 S44 s43 k43 S43 F43_3 Z42 S42 F42_3 F42_2 s41 k41 S41 F41_2 s40 k40 S40 s39 k39 S39 F39_3 s38 k38 S38 F38_3 F38_2 Z37 S37 F37_3 F37_1 F37_2 Z36 S36 F36_1 F36_2 Z35 S35 F35_2 s34 k34 S34 s33 k33 S33 F33_3 Z32 S32 F32_2 F32_3 Z31 S31 F31_3 s30 k30 S30 Z29 S29 F29_3 s28 k28 S28 s27 k27 S27 s26 k26 S26 F26_3 Z25 S25 F25_3 F25_2 Z24 S24 F24_2 s23 k23 S23 s22 k22 S22 s21 k21 S21 F21_3 Z20 S20 F20_2 F20_3 s19 k19 S19 F19_3 s18 k18 S18 s17 k17 S17 F17_3 s16 k16 S16 F16_2 F16_3 Z15 S15 F15_2 F15_3 F15_1 Z14 S14 F14_3 F14_1 s13 k13 S13 Z12 S12 F12_3 s11 k11 S11 s10 k10 S10 s9 k9 S9 F9_3 Z8 S8 F8_3 F8_2 s7 k7 S7 F7_2 s6 k6 S6 s5 k5 S5 F5_3 s4 k4 S4 F4_3 F4_2 Z3 S3 F3_3 F3_2 F3_1 Z2 S2 F2_2 F2_1 Z1 S1 F1_1
  clear S0 hfin hi hn hs hN hdn hm hl hAt h hl1 hl2 hl3 hn9 z10 z11 z12 z20 z21 z22 hi1 hi2
  go_enter Try.func11, Try.ntmps11
  go_wp2_with (first
    | (go_at_call 29; refine (HI.out _).mono ?_; rintro e w'' ⟨rfl, hw⟩; subst w'')
    | (go_at_call 22; refine HA.out.mono ?_; rintro e w'' ⟨rfl, hw⟩; subst w'')
    | go_in)
  go_region
  all_goals
    go_wp2
    go_ret
    first | with_reducible exact ⟨rfl, HF0⟩ | with_reducible exact ⟨rfl, HF1⟩ | with_reducible exact ⟨rfl, HF2⟩ | with_reducible exact ⟨rfl, HF3⟩ | with_reducible exact ⟨rfl, HF4⟩ | with_reducible exact ⟨rfl, HF5⟩ | with_reducible exact ⟨rfl, HF6⟩ | with_reducible exact ⟨rfl, HF7⟩ | with_reducible exact ⟨rfl, HF8⟩ | with_reducible exact ⟨rfl, HF9⟩ | with_reducible exact ⟨rfl, HF10⟩ | with_reducible exact ⟨rfl, HF11⟩ | with_reducible exact ⟨rfl, HF12⟩ | with_reducible exact ⟨rfl, HF13⟩ | with_reducible exact ⟨rfl, HF14⟩
end
end Go.Proofs.Ytocahjnibdgmoaa
