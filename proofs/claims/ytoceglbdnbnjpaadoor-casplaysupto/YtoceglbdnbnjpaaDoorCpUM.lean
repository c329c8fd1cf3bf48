/- The document's Kept: one more comes, walked. -/
import Derived.Test.YtoceglbdnbnjpaaDoorCpTM
namespace Go.Proofs.YtoceglbdnbnjpaaDoor
open Go.RowKit Go.Shelf Go.Sort
attribute [local go_sem ↓] appS_eq

/-- The two stores may be made. -/
theorem AS.stores2 {B R : Nat} {rm : Int} {tv pv : Value} {K : List Kt} {I : List Nat} {w X : World} {L : List (Nat × Value)} {rs : List Fw} (h : AS 33 B R [.int .i64 rm] I w L rs X) (hw : KD B R rm tv pv K w) (v1 : Value) :
    X.cell? ⟨R, 1, none⟩ = some tv ∧ X.frozen? ⟨R, 1, none⟩ = false ∧ (X.setCell ⟨R, 1, none⟩ v1).cell? ⟨R, 2, none⟩ = some pv ∧ (X.setCell ⟨R, 1, none⟩ v1).frozen? ⟨R, 2, none⟩ = false := by
  have h0 := h.hR.trans hw.blk
  have h1 := Go.Joins.block_setCell (i := 1) h0 v1
  exact ⟨Lib.cell_of_heap h0 1, Lib.frozen_of_heap h0 1, Lib.cell_of_heap h1 2, Lib.frozen_of_heap h1 2⟩
theorem AS.cellR {ty : TypeId} {B R : Nat} {hd : List Value} {I : List Nat} {w X : World} {L : List (Nat × Value)} {rs : List Fw} (h : AS ty B R hd I w L rs X) {k : Nat} {v : Value} (hv : w.cell? ⟨R, k, none⟩ = some v) : X.cell? ⟨R, k, none⟩ = some v := (World.cell?_of_block (w := w) h.hR).trans hv

/-- What is there behind it. -/
def KFin (B R : Nat) (rm : Int) (I : List Nat) (w : World) (K : List Kt) (W : World) : Prop := ∃ tv pv, KD B R rm tv pv K W ∧ Upd I (rid R (krs tv pv K)) w W
theorem kfin {B R : Nat} {rm : Int} {I : List Nat} {w X : World} {K : List Kt} {s : ByteArray} {q n g1 g2 c1 c2 : Nat} (hn : n = K.length) (h : AS 33 B R [.int .i64 rm] I w [(1, .slice (some ⟨g1, 0, none⟩) (n + 1) c1), (2, .slice (some ⟨g2, 0, none⟩) (n + 1) c2)] [⟨.slice (some ⟨g1, 0, none⟩) (n + 1) c1, 9, 1, n + 1, ktx K ++ [.string s]⟩, ⟨.slice (some ⟨g2, 0, none⟩) (n + 1) c2, 3, 1, n + 1, kpn K ++ [.int .i64 (q : Int)]⟩] X) : KFin B R rm I w (K ++ [(s, q)]) ((X.setCell ⟨R, 1, none⟩ (.slice (some ⟨g1, 0, none⟩) (n + 1) c1)).setCell ⟨R, 2, none⟩ (.slice (some ⟨g2, 0, none⟩) (n + 1) c2)) := by
  subst hn
  have e1 : ktx (K ++ [(s, q)]) = ktx K ++ [.string s] := by simp [ktx]
  have e2 : kpn (K ++ [(s, q)]) = kpn K ++ [.int .i64 (q : Int)] := by simp [kpn]
  have e3 : (K ++ [(s, q)]).length = K.length + 1 := by simp
  refine ⟨.slice (some ⟨g1, 0, none⟩) (K.length + 1) c1, .slice (some ⟨g2, 0, none⟩) (K.length + 1) c2, ?_, ?_⟩
  · unfold KD krs
    rw [e1, e2, e3]
    exact h.ds
  · unfold krs
    rw [e1, e2, e3]
    exact h.up

section
variable {B R : Nat} {rm : Int} {tv pv : Value} {L : List Kt} {w0 : World}
set_option maxHeartbeats 40000000 in
set_option maxRecDepth 100000 in
theorem KUse_any (h0 : KD B R rm tv pv L w0) (hn0 : L.length ≤ 1000) (i : Nat) (hi : i < L.length) :
    Calls Tryd.prog 18 #[.pointer (some ⟨R, 0, none⟩), .int .i64 (i : Int)] w0 fun e w' => e = .returned (.tuple #[]) ∧ KFin B R rm (rid R (krs tv pv L)) w0 (kcut L i ++ [L[i]]) w' := by
  have HT := Ktake_any h0 (by omega) i hi
  have hn9 : (kcut L i).length ≤ 1000 := by rw [kcut_len hi]; omega
  generalize L[i] = sq at HT ⊢
  obtain ⟨s, q⟩ := sq
  obtain ⟨K, hK⟩ : ∃ K, K = kcut L i := ⟨_, rfl⟩
  rw [← hK] at HT hn9 ⊢
  clear hK h0 hn0 hi
  go_enter Tryd.func18, Tryd.ntmps18
  go_wp2_with fail
  refine HT.mono ?_
  rintro e w ⟨rfl, tv', pv', h, hU⟩
  have HU : Hid (Upd (rid R (krs tv pv L)) (rid R (krs tv' pv' K)) w0 w) := hU
  clear hU HT
  obtain ⟨aT, cT, hv⟩ := h.tr.shape
  subst hv
  obtain ⟨aP, cP, hv⟩ := h.pr.shape
  subst hv
  obtain ⟨n, hnK⟩ : ∃ n, n = K.length := ⟨_, rfl⟩
  have S0 := AS.start h
  unfold krs at S0
  rw [← hnK] at h S0 hn9
  have hl1 : ∀ g, (Value.slice aT n cT).ownBlock = some g → g < w.heap.size := fun g hg => (h.tr.lt g hg).2
  have hl2 : ∀ g, (Value.slice aP n cP).ownBlock = some g → g < w.heap.size := fun g hg => (h.pr.lt g hg).2
  obtain ⟨i1, hi1, z10, z11, z12⟩ := inf_parts infS1
  obtain ⟨i2, hi2, z20, z21, z22⟩ := inf_parts infI1
  have L1_1 : w.drew.cell? ⟨R, 1, none⟩ = some (.slice aT n cT) := AS.cellR S0.drew h.c1
  have L1_2 : w.drew.cell? ⟨R, 2, none⟩ = some (.slice aP n cP) := AS.cellR S0.drew h.c2
  have S1 := S0.al (.cells #[.string s] 9)
  have Z1 : (w.alloc (.cells #[.string s] 9)).heap.size = w.heap.size + 1 := by rw [World.size_alloc, (rfl : w.heap.size = w.heap.size)]
  have F1_1 := heap_alloc_new w (.cells #[.string s] 9)
  rw [(rfl : w.heap.size = w.heap.size)] at F1_1
  have L2_1 : (w.alloc (.cells #[.string s] 9)).drew.cell? ⟨R, 1, none⟩ = some (.slice aT n cT) := AS.cellR S1.drew h.c1
  have L2_2 : (w.alloc (.cells #[.string s] 9)).drew.cell? ⟨R, 2, none⟩ = some (.slice aP n cP) := AS.cellR S1.drew h.c2
  have S2 := S1.al (.cells #[.int .i64 (q : Int)] 3)
  have Z2 : ((w.alloc (.cells #[.string s] 9)).alloc (.cells #[.int .i64 (q : Int)] 3)).heap.size = w.heap.size + 1 + 1 := by rw [World.size_alloc, Z1]
  have F2_1 := (heap_al (w.alloc (.cells #[.string s] 9)) (.cells #[.int .i64 (q : Int)] 3) (w.heap.size) (Array.getElem?_eq_some_iff.1 F1_1).1).trans F1_1
  have F2_2 := heap_alloc_new (w.alloc (.cells #[.string s] 9)) (.cells #[.int .i64 (q : Int)] 3)
  rw [Z1] at F2_2
  have L3_1 : ((w.alloc (.cells #[.string s] 9)).alloc (.cells #[.int .i64 (q : Int)] 3)).drew.cell? ⟨R, 1, none⟩ = some (.slice aT n cT) := AS.cellR S2.drew h.c1
  have L3_2 : ((w.alloc (.cells #[.string s] 9)).alloc (.cells #[.int .i64 (q : Int)] 3)).drew.cell? ⟨R, 2, none⟩ = some (.slice aP n cP) := AS.cellR S2.drew h.c2
  obtain ⟨g3, c3, x3, r3, S3, k3⟩ := AS.app (X := ((w.alloc (.cells #[.string s] 9)).alloc (.cells #[.int .i64 (q : Int)] 3)).drew) (l1 := []) (r := ⟨(.slice aT n cT), 9, 1, n, (ktx K)⟩) (l2 := [⟨(.slice aP n cP), 3, 1, n, (kpn K)⟩]) S2.drew 1 rfl 30 30 i1 (.string ⟨#[]⟩) 16 Tryd.underlying30 hi1 z10 z11 z12 rfl rfl (w.heap.size) (.string s) F2_1 rfl hn9 (by decide)
  have s3 : w.heap.size ≤ x3.heap.size := by have := S3.up.size; rwa [pnd_size] at this
  have F3_2 := (k3 (w.heap.size + 1) (Array.getElem?_eq_some_iff.1 F2_2).1 (fun e => by have := hl1 _ e; omega)).trans F2_2
  have L4_2 : x3.cell? ⟨R, 2, none⟩ = some (.slice aP n cP) := AS.cellR S3 h.c2
  obtain ⟨g4, c4, x4, r4, S4, k4⟩ := AS.app (X := x3) (l1 := [⟨.slice (some ⟨g3, 0, none⟩) (n + 1) c3, 9, 1, n + 1, (ktx K) ++ [(.string s)]⟩]) (r := ⟨(.slice aP n cP), 3, 1, n, (kpn K)⟩) (l2 := []) S3 2 rfl 31 31 i2 (.int .i64 0) 8 Tryd.underlying31 hi2 z20 z21 z22 rfl rfl (w.heap.size + 1) (.int .i64 (q : Int)) F3_2 rfl hn9 (by decide)
  have s4 : w.heap.size ≤ x4.heap.size := by have := S4.up.size; rwa [pnd_size] at this
  obtain ⟨g5, c5, x5, r5, S5, k5⟩ := AS.app (X := (w.alloc (.cells #[.string s] 9)).drew) (l1 := []) (r := ⟨(.slice aT n cT), 9, 1, n, (ktx K)⟩) (l2 := [⟨(.slice aP n cP), 3, 1, n, (kpn K)⟩]) S1.drew 1 rfl 30 30 i1 (.string ⟨#[]⟩) 16 Tryd.underlying30 hi1 z10 z11 z12 rfl rfl (w.heap.size) (.string s) F1_1 rfl hn9 (by decide)
  have s5 : w.heap.size ≤ x5.heap.size := by have := S5.up.size; rwa [pnd_size] at this
  have L5_2 : x5.cell? ⟨R, 2, none⟩ = some (.slice aP n cP) := AS.cellR S5 h.c2
  have S6 := S5.al (.cells #[.int .i64 (q : Int)] 3)
  have Z6 : (x5.alloc (.cells #[.int .i64 (q : Int)] 3)).heap.size = x5.heap.size + 1 := by rw [World.size_alloc, (rfl : x5.heap.size = x5.heap.size)]
  have F6_2 := heap_alloc_new x5 (.cells #[.int .i64 (q : Int)] 3)
  rw [(rfl : x5.heap.size = x5.heap.size)] at F6_2
  have L6_2 : (x5.alloc (.cells #[.int .i64 (q : Int)] 3)).cell? ⟨R, 2, none⟩ = some (.slice aP n cP) := AS.cellR S6 h.c2
  obtain ⟨g7, c7, x7, r7, S7, k7⟩ := AS.app (X := (x5.alloc (.cells #[.int .i64 (q : Int)] 3))) (l1 := [⟨.slice (some ⟨g5, 0, none⟩) (n + 1) c5, 9, 1, n + 1, (ktx K) ++ [(.string s)]⟩]) (r := ⟨(.slice aP n cP), 3, 1, n, (kpn K)⟩) (l2 := []) S6 2 rfl 31 31 i2 (.int .i64 0) 8 Tryd.underlying31 hi2 z20 z21 z22 rfl rfl (x5.heap.size) (.int .i64 (q : Int)) F6_2 rfl hn9 (by decide)
  have s7 : w.heap.size ≤ x7.heap.size := by have := S7.up.size; rwa [pnd_size] at this
  have S8 := S0.al (.cells #[.int .i64 (q : Int)] 3)
  have Z8 : (w.alloc (.cells #[.int .i64 (q : Int)] 3)).heap.size = w.heap.size + 1 := by rw [World.size_alloc, (rfl : w.heap.size = w.heap.size)]
  have F8_2 := heap_alloc_new w (.cells #[.int .i64 (q : Int)] 3)
  rw [(rfl : w.heap.size = w.heap.size)] at F8_2
  have L7_1 : (w.alloc (.cells #[.int .i64 (q : Int)] 3)).drew.cell? ⟨R, 1, none⟩ = some (.slice aT n cT) := AS.cellR S8.drew h.c1
  have L7_2 : (w.alloc (.cells #[.int .i64 (q : Int)] 3)).drew.cell? ⟨R, 2, none⟩ = some (.slice aP n cP) := AS.cellR S8.drew h.c2
  have S9 := S8.al (.cells #[.string s] 9)
  have Z9 : ((w.alloc (.cells #[.int .i64 (q : Int)] 3)).alloc (.cells #[.string s] 9)).heap.size = w.heap.size + 1 + 1 := by rw [World.size_alloc, Z8]
  have F9_2 := (heap_al (w.alloc (.cells #[.int .i64 (q : Int)] 3)) (.cells #[.string s] 9) (w.heap.size) (Array.getElem?_eq_some_iff.1 F8_2).1).trans F8_2
  have F9_1 := heap_alloc_new (w.alloc (.cells #[.int .i64 (q : Int)] 3)) (.cells #[.string s] 9)
  rw [Z8] at F9_1
  have L8_1 : ((w.alloc (.cells #[.int .i64 (q : Int)] 3)).alloc (.cells #[.string s] 9)).drew.cell? ⟨R, 1, none⟩ = some (.slice aT n cT) := AS.cellR S9.drew h.c1
  have L8_2 : ((w.alloc (.cells #[.int .i64 (q : Int)] 3)).alloc (.cells #[.string s] 9)).drew.cell? ⟨R, 2, none⟩ = some (.slice aP n cP) := AS.cellR S9.drew h.c2
  obtain ⟨g10, c10, x10, r10, S10, k10⟩ := AS.app (X := ((w.alloc (.cells #[.int .i64 (q : Int)] 3)).alloc (.cells #[.string s] 9)).drew) (l1 := []) (r := ⟨(.slice aT n cT), 9, 1, n, (ktx K)⟩) (l2 := [⟨(.slice aP n cP), 3, 1, n, (kpn K)⟩]) S9.drew 1 rfl 30 30 i1 (.string ⟨#[]⟩) 16 Tryd.underlying30 hi1 z10 z11 z12 rfl rfl (w.heap.size + 1) (.string s) F9_1 rfl hn9 (by decide)
  have s10 : w.heap.size ≤ x10.heap.size := by have := S10.up.size; rwa [pnd_size] at this
  have F10_2 := (k10 (w.heap.size) (Array.getElem?_eq_some_iff.1 F9_2).1 (fun e => by have := hl1 _ e; omega)).trans F9_2
  have L9_2 : x10.cell? ⟨R, 2, none⟩ = some (.slice aP n cP) := AS.cellR S10 h.c2
  obtain ⟨g11, c11, x11, r11, S11, k11⟩ := AS.app (X := x10) (l1 := [⟨.slice (some ⟨g10, 0, none⟩) (n + 1) c10, 9, 1, n + 1, (ktx K) ++ [(.string s)]⟩]) (r := ⟨(.slice aP n cP), 3, 1, n, (kpn K)⟩) (l2 := []) S10 2 rfl 31 31 i2 (.int .i64 0) 8 Tryd.underlying31 hi2 z20 z21 z22 rfl rfl (w.heap.size) (.int .i64 (q : Int)) F10_2 rfl hn9 (by decide)
  have s11 : w.heap.size ≤ x11.heap.size := by have := S11.up.size; rwa [pnd_size] at this
  obtain ⟨A0, B0, C0, D0⟩ := AS.stores2 S4 h (.slice (some ⟨g3, 0, none⟩) (n + 1) c3)
  have HF0 : Hid (KFin B R rm (rid R (krs (.slice aT n cT) (.slice aP n cP) K)) w (K ++ [(s, q)]) ((x4.setCell ⟨R, 1, none⟩ (.slice (some ⟨g3, 0, none⟩) (n + 1) c3)).setCell ⟨R, 2, none⟩ (.slice (some ⟨g4, 0, none⟩) (n + 1) c4))) := kfin hnK S4
  obtain ⟨A1, B1, C1, D1⟩ := AS.stores2 S7 h (.slice (some ⟨g5, 0, none⟩) (n + 1) c5)
  have HF1 : Hid (KFin B R rm (rid R (krs (.slice aT n cT) (.slice aP n cP) K)) w (K ++ [(s, q)]) ((x7.setCell ⟨R, 1, none⟩ (.slice (some ⟨g5, 0, none⟩) (n + 1) c5)).setCell ⟨R, 2, none⟩ (.slice (some ⟨g7, 0, none⟩) (n + 1) c7))) := kfin hnK S7
  obtain ⟨A2, B2, C2, D2⟩ := AS.stores2 S11 h (.slice (some ⟨g10, 0, none⟩) (n + 1) c10)
  have HF2 : Hid (KFin B R rm (rid R (krs (.slice aT n cT) (.slice aP n cP) K)) w (K ++ [(s, q)]) ((x11.setCell ⟨R, 1, none⟩ (.slice (some ⟨g10, 0, none⟩) (n + 1) c10)).setCell ⟨R, 2, none⟩ (.slice (some ⟨g11, 0, none⟩) (n + 1) c11))) := kfin hnK S11
  clear s11 k11 S11 s10 k10 S10 F10_2 Z9 S9 F9_1 F9_2 Z8 S8 F8_2 s7 k7 S7 Z6 S6 F6_2 s5 k5 S5 s4 k4 S4 s3 k3 S3 F3_2 Z2 S2 F2_2 F2_1 Z1 S1 F1_1
  clear S0 h hl1 hl2 hn9 z10 z11 z12 z20 z21 z22 hi1 hi2
  rw [← hnK] at HU
  clear hnK
  go_wp2
  all_goals
    go_region
    all_goals
      go_wp2
      go_end0
      first | (refine ⟨rfl, ?_⟩; obtain ⟨x1, x2, x3, x4⟩ := HF0.out; exact ⟨x1, x2, x3, HU.out.trans x4⟩) | (refine ⟨rfl, ?_⟩; obtain ⟨x1, x2, x3, x4⟩ := HF1.out; exact ⟨x1, x2, x3, HU.out.trans x4⟩) | (refine ⟨rfl, ?_⟩; obtain ⟨x1, x2, x3, x4⟩ := HF2.out; exact ⟨x1, x2, x3, HU.out.trans x4⟩)
end
end Go.Proofs.YtoceglbdnbnjpaaDoor
