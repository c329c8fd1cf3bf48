/- The document's Directory: a name's node and texts. -/
import Derived.Deep.RegionHeld3
import Derived.Test.YtefdfcjohkndgaaGreatDoorTc9
namespace Go.Proofs.YtefdfcjohkndgaaGreatDoor
open Go.RowKit Go.Shelf Go.Maps Go.WideMaps Go.Sort
attribute [local go_sem ↓] appS_eq

theorem RSm_any (s : ByteArray) (w : World) (hs : s.size ≤ 140737488351300) :
    Calls Tryz.prog 33 #[.string s] w fun e w' => e = .returned (.string (smD s)) ∧ Below w.heap.size w w' := by
  unfold smD
  rw [sum_plain]
  exact Sum_doc s w hs

/-- How it stands between two names: hv the names, nv the nodes, tv the texts. -/
structure DrS (w0 : World) (H : List (List UInt8)) (nd : List Nd) (A : List (List UInt8)) (hv nv tv : Value) (wr : World) : Prop where
  names : wr.ownsRow w0.heap.size 9 1 hv H.length (H.map encStr)
  nodes : wr.ownsRow w0.heap.size 79 3 nv nd.length (ndCells nd)
  texts : RowT w0.heap.size (addAll A) tv wr
  nh : ∀ b, nv.ownBlock = some b → hv.ownBlock ≠ some b
  nt : ∀ b, nv.ownBlock = some b → tv.ownBlock ≠ some b
  bel : Below w0.heap.size w0 wr
/-- A block that is none of these. -/
structure DrN (w0 : World) (hv nv tv : Value) (Nb : Nat) : Prop where
  lo : w0.heap.size ≤ Nb
  h : hv.ownBlock ≠ some Nb
  n : nv.ownBlock ≠ some Nb
  t : tv.ownBlock ≠ some Nb
section
variable {w0 : World} {H A : List (List UInt8)} {nd : List Nd} {hv nv tv : Value} {w w' : World} {Nb : Nat}
theorem DrS.up (h : DrS w0 H nd A hv nv tv w) (hb : Below w.heap.size w w') : DrS w0 H nd A hv nv tv w' :=
  ⟨row_heap h.names fun b hb2 => hb.block b (h.names.lt b hb2).2, row_heap h.nodes fun b hb2 => hb.block b (h.nodes.lt b hb2).2, h.texts.up hb, h.nh, h.nt, h.bel.trans (hb.mono h.bel.size)⟩
theorem DrS.fb (h : DrS w0 H nd A hv nv tv w) (hN : DrN w0 hv nv tv Nb) {nm dg : ByteArray} {kd : Int} (hb : FB nm kd dg Nb w w') : DrS w0 H nd A hv nv tv w' :=
  ⟨row_heap h.names fun b hb2 => hb.oth b (fun e => hN.h (by rw [← e]; exact hb2)), row_heap h.nodes fun b hb2 => hb.oth b (fun e => hN.n (by rw [← e]; exact hb2)), h.texts.keep (fun b hb2 => hb.oth b (fun e => hN.t (by rw [← e]; exact hb2))) (by rw [hb.size]; exact Nat.le_refl _), h.nh, h.nt,
    ⟨hb.os.trans h.bel.os, hb.tape.trans h.bel.tape, hb.output.trans h.bel.output, by rw [hb.size]; exact h.bel.size, fun b hb2 => (hb.oth b (by have := hN.lo; omega)).trans (h.bel.block b hb2)⟩⟩
theorem DrS.fresh (h : DrS w0 H nd A hv nv tv w) : DrN w0 hv nv tv w.heap.size :=
  ⟨h.bel.size, fun e => by have := (h.names.lt _ e).2; omega, fun e => by have := (h.nodes.lt _ e).2; omega, fun e => by have := (h.texts.own.lt _ e).2; omega⟩
theorem DrS.turn (h : DrS w0 H nd A hv nv tv w) {A2 : List (List UInt8)} {tv2 : Value} (hr : RowT w0.heap.size (addAll A2) tv2 w') (hb : Below w.heap.size w w') (hg : ∀ g, tv2.ownBlock = some g → tv.ownBlock = some g ∨ w.heap.size ≤ g) : DrS w0 H nd A2 hv nv tv2 w' := by
  have h1 := h.up hb
  refine ⟨h1.names, h1.nodes, hr, h.nh, fun b hb2 e => ?_, h1.bel⟩
  rcases hg b e with e2 | e2
  · exact h.nt b hb2 e2
  · have := (h.nodes.lt b hb2).2
    omega
theorem DrN.turn (h : DrN w0 hv nv tv Nb) {tv2 : Value} {s : Nat} (hs : Nb < s) (hg : ∀ g, tv2.ownBlock = some g → tv.ownBlock = some g ∨ s ≤ g) : DrN w0 hv nv tv2 Nb :=
  ⟨h.lo, h.h, h.n, fun e => by
    rcases hg _ e with e2 | e2
    · exact h.t e2
    · omega⟩
/-- One node more. -/
theorem DrS.node (h : DrS w0 H nd A hv nv tv w) (x : Nd) (hn : nd.length ≤ 1000) :
    ∃ G C w', (appS #[73, 73] 73 #[nv, .slice (some ⟨w.heap.size, 0, none⟩) 1 1]).run Tryz.prog (w.alloc (.cells #[.string x.1, .int .i64 x.2.1, .string x.2.2] 79)) = .ok (.slice (some ⟨G, 0, none⟩) (nd.length + 1) C) w' ∧
      DrS w0 H (nd ++ [x]) A hv (.slice (some ⟨G, 0, none⟩) (nd.length + 1) C) tv w' := by
  obtain ⟨i0, hi, hz0, hz1, hz2⟩ := info_p infNd
  have hsz : (w.alloc (.cells #[.string x.1, .int .i64 x.2.1, .string x.2.2] 79)).heap.size = w.heap.size + 1 := World.size_alloc _ _
  have hA := h.up (w' := w.alloc (.cells #[.string x.1, .int .i64 x.2.1, .string x.2.2] 79)) ((Below.refl _ w).alloc (Nat.le_refl _) _)
  have hlo := h.bel.size
  obtain ⟨G, C, w', hrun, hrow, hgr, hat, hlt⟩ := run_append_lies (P := Tryz.prog) (w.alloc (.cells #[.string x.1, .int .i64 x.2.1, .string x.2.2] 79)) 73 73 w0.heap.size 79 i0 (.agg #[.string ⟨#[]⟩, .int .i64 0, .string ⟨#[]⟩]) 3 40 Tryz.underlying73 hi hz0 hz1 hz2 rfl (by decide) nv nd.length (ndCells nd) hA.nodes ⟨w.heap.size, 0, none⟩ 1 1 [.string x.1, .int .i64 x.2.1, .string x.2.2] rfl (new_cells w _ _) (fun u hu => by simp at hu; rcases hu with rfl | rfl | rfl <;> rfl) (by decide) (by unfold maxLen; omega) (by omega) (by omega) (w.heap.size + 1) hsz
  have hkeep : ∀ b, b < w.heap.size → nv.ownBlock ≠ some b → w'.heap[b]? = w.heap[b]? ∧ G ≠ b := fun b hb hne => ⟨(hgr.block b (by omega) (fun e => hne e.symm)).trans (Below.heap_alloc _ _ _ hb), fun e => by
      rcases hat with h1 | h1
      · exact hne (by rw [h1, e])
      · omega⟩
  have e : ndCells (nd ++ [x]) = ndCells nd ++ [.string x.1, .int .i64 x.2.1, .string x.2.2] := by simp [ndCells]
  refine ⟨G, C, w', hrun, ⟨row_heap h.names fun b hb => (hkeep b (h.names.lt b hb).2 (fun e => h.nh b e hb)).1, ?_, h.texts.keep (fun b hb => (hkeep b (h.texts.own.lt b hb).2 (fun e => h.nt b e hb)).1) (by have := hgr.size; omega), fun b hb e => ?_, fun b hb e => ?_, ?_⟩⟩
  · rw [e, List.length_append]
    exact hrow
  · have e2 : G = b := by injection hb
    exact (hkeep b (h.names.lt b e).2 (fun e3 => h.nh b e3 e)).2 e2
  · have e2 : G = b := by injection hb
    exact (hkeep b (h.texts.own.lt b e).2 (fun e3 => h.nt b e3 e)).2 e2
  · exact hA.bel.grown hgr (by omega) fun k hk => (hA.nodes.lt k hk).1
end

set_option maxHeartbeats 8000000 in
set_option maxRecDepth 100000 in
theorem tailL (x0 x1 x2 x3 x4 x5 x6 x7 x8 x11 x12 x15 x16 x17 x18 x19 x20 x21 x22 x23 x24 x25 x26 x27 x28 x29 x30 x31 x32 x33 x34 x35 x36 x37 x38 x39 x40 x41 x42 x43 x44 x45 x46 x47 x48 x49 x50 x51 x52 x53 x54 x55 x56 x57 x58 x59 x60 x61 x62 x63 x64 x65 x66 x67 x68 x69 x70 x71 x72 x73 x74 x75 x76 x77 x78 x79 x80 x81 x82 x83 x84 x85 x86 x87 x88 x89 x90 x91 x92 x93 x94 x95 x96 x97 x98 x99 x100 x101 x102 x103 x104 x105 x106 x107 x108 x109 x110 x111 x112 x113 x114 x115 x116 x117 x118 x119 x120 x121 x122 x123 x124 x125 x126 x127 : Value) (w0 w : World) (H A : List (List UInt8)) (nd : List Nd) (hv nv tv : Value) (Nb : Nat) (nm t : ByteArray) (kd : Int) (hS : DrS w0 H nd A hv nv tv w) (hN : DrN w0 hv nv tv Nb) (hB : FB nm kd ⟨#[]⟩ Nb w w) (ht : t.size ≤ 140737488351300) (hA : A.length ≤ 1000000) (hn : nd.length ≤ 1000) (Q0 : Exit → Act → World → Prop)
    (hexit : ∀ (u9 u10 u115 u116 u117 u118 u119 u120 u121 u122 u123 u124 : Value) (w' : World), Hid (DrS w0 H (nd ++ [(nm, kd, smD t)]) (A ++ [t.data.toList]) hv u9 u10 w') → Q0 .normal ⟨#[x0, x1, x2, x3, x4, x5, x6, x7, x8, u9, u10, x11, x12, .pointer (some ⟨Nb, 0, none⟩), .string t, x15, x16, x17, x18, x19, x20, x21, x22, x23, x24, x25, x26, x27, x28, x29, x30, x31, x32, x33, x34, x35, x36, x37, x38, x39, x40, x41, x42, x43, x44, x45, x46, x47, x48, x49, x50, x51, x52, x53, x54, x55, x56, x57, x58, x59, x60, x61, x62, x63, x64, x65, x66, x67, x68, x69, x70, x71, x72, x73, x74, x75, x76, x77, x78, x79, x80, x81, x82, x83, x84, x85, x86, x87, x88, x89, x90, x91, x92, x93, x94, x95, x96, x97, x98, x99, x100, x101, x102, x103, x104, x105, x106, x107, x108, x109, x110, x111, x112, x113, x114, u115, u116, u117, u118, u119, u120, u121, u122, u123, u124, x125, x126, x127], []⟩ w') :
    Code.wp Tryz.prog (subC [true, true, true, true, true, false, true, false, false, true, false, false, true, true, true, true, true, true] (Tryz.f36.body.getD .skip)) Q0 ⟨#[x0, x1, x2, x3, x4, x5, x6, x7, x8, nv, tv, x11, x12, .pointer (some ⟨Nb, 0, none⟩), .string t, x15, x16, x17, x18, x19, x20, x21, x22, x23, x24, x25, x26, x27, x28, x29, x30, x31, x32, x33, x34, x35, x36, x37, x38, x39, x40, x41, x42, x43, x44, x45, x46, x47, x48, x49, x50, x51, x52, x53, x54, x55, x56, x57, x58, x59, x60, x61, x62, x63, x64, x65, x66, x67, x68, x69, x70, x71, x72, x73, x74, x75, x76, x77, x78, x79, x80, x81, x82, x83, x84, x85, x86, x87, x88, x89, x90, x91, x92, x93, x94, x95, x96, x97, x98, x99, x100, x101, x102, x103, x104, x105, x106, x107, x108, x109, x110, x111, x112, x113, x114, x115, x116, x117, x118, x119, x120, x121, x122, x123, x124, x125, x126, x127], []⟩ w := by
  have HX : Hid (∀ (u9 u10 u115 u116 u117 u118 u119 u120 u121 u122 u123 u124 : Value) (w' : World), Hid (DrS w0 H (nd ++ [(nm, kd, smD t)]) (A ++ [t.data.toList]) hv u9 u10 w') → Q0 .normal ⟨#[x0, x1, x2, x3, x4, x5, x6, x7, x8, u9, u10, x11, x12, .pointer (some ⟨Nb, 0, none⟩), .string t, x15, x16, x17, x18, x19, x20, x21, x22, x23, x24, x25, x26, x27, x28, x29, x30, x31, x32, x33, x34, x35, x36, x37, x38, x39, x40, x41, x42, x43, x44, x45, x46, x47, x48, x49, x50, x51, x52, x53, x54, x55, x56, x57, x58, x59, x60, x61, x62, x63, x64, x65, x66, x67, x68, x69, x70, x71, x72, x73, x74, x75, x76, x77, x78, x79, x80, x81, x82, x83, x84, x85, x86, x87, x88, x89, x90, x91, x92, x93, x94, x95, x96, x97, x98, x99, x100, x101, x102, x103, x104, x105, x106, x107, x108, x109, x110, x111, x112, x113, x114, u115, u116, u117, u118, u119, u120, u121, u122, u123, u124, x125, x126, x127], []⟩ w') := hexit
  have hNb : Nb < w.heap.size := (Array.getElem?_eq_some_iff.1 hB.blk).1
  have HAd : Hid (Calls Tryz.prog 37 #[tv, .string t] w fun e w1 => ∃ tv', e = .returned tv' ∧ Hid (DrS w0 H nd (A ++ [t.data.toList]) hv nv tv' w1 ∧ DrN w0 hv nv tv' Nb ∧ Below w.heap.size w w1)) := by
    refine (hS.texts.add t (Nat.le_trans (addAll_len A) hA)).mono ?_
    rintro e w1 ⟨tv', rfl, hr, hb, hg⟩
    exact ⟨tv', rfl, hS.turn (by rw [addAll_snoc]; exact hr) hb hg, hN.turn hNb hg, hb⟩
  have HSu : Hid (∀ W, Calls Tryz.prog 33 #[.string t] W fun e w' => e = .returned (.string (smD t)) ∧ Below W.heap.size W w') := fun W => RSm_any t W ht
  have HBk : Hid (∀ W, Below w.heap.size w W → W.heap[Nb]? = some (.cells #[.string nm, .int .i64 kd, .string ⟨#[]⟩] 79 (0, 0))) := fun W hW => (hW.block Nb hNb).trans hB.blk
  have HNL : Hid (nd.length ≤ 1000) := hn
  clear hexit hS hN hB ht hA hn hNb
  generalize smD t = sm9 at *
  conv => arg 2; whnf
  dsimp only
  go_wp2_with fail
  refine HAd.out.mono ?_
  rintro e w1 ⟨tv', rfl, H1⟩
  go_wp2_with fail
  refine (HSu.out _).mono ?_
  rintro e w2 ⟨rfl, hb2⟩
  have hS2 := H1.out.1.up hb2
  have hF2 : FB nm kd ⟨#[]⟩ Nb w2 w2 := ⟨HBk.out _ (H1.out.2.2.trans (hb2.mono H1.out.2.2.size)), rfl, rfl, rfl, rfl, fun _ _ => rfl⟩
  have hF3 := hF2.set2 sm9
  have hS3 := hS2.fb H1.out.2.1 hF3
  obtain ⟨W3, hW3⟩ : ∃ W3, W3 = w2.setCell ⟨Nb, 2, none⟩ (.string sm9) := ⟨_, rfl⟩
  rw [← hW3] at hF3 hS3
  obtain ⟨G, C, w4, hap, hS4⟩ := hS3.node (nm, kd, sm9) HNL.out
  have HE : Hid (DrS w0 H (nd ++ [(nm, kd, sm9)]) (A ++ [t.data.toList]) hv (.slice (some ⟨G, 0, none⟩) (nd.length + 1) C) tv' w4) := hS4
  have n2 := hF2.c2
  have z2 := hF2.fz 2
  have m0 := hF3.c0
  have m1 := hF3.c1
  have m2 := hF3.c2
  simp only at hap
  have hz : W3.heap.size = w2.heap.size := by rw [hW3]; simp [World.setCell]
  rw [hz] at hap
  rw [hW3] at m0 m1 m2 hap
  clear hS2 hF2 hF3 hS3 hS4 hb2 H1 HAd HSu HBk HNL hz hW3
  go_wp2
  exact HX.out _ _ _ _ _ _ _ _ _ _ _ _ _ HE
end Go.Proofs.YtefdfcjohkndgaaGreatDoor

/- The document's Directory: one name, whole. -/
namespace Go.Proofs.YtefdfcjohkndgaaGreatDoor
open Go.RowKit Go.Shelf Go.Maps Go.WideMaps Go.Sort
attribute [local go_sem ↓] appS_eq

/-- How a directory further in is answered. -/
def DjP (T : ByteArray) (M : List (List UInt8)) (W : World) (e : Ending) (w' : World) : Prop := ∃ mo mc, e = .returned (.tuple #[.string T, .slice mo M.length mc]) ∧ w'.ownsRow W.heap.size 9 1 (.slice mo M.length mc) M.length (M.map encStr) ∧ Below W.heap.size W w'

set_option maxHeartbeats 16000000 in
set_option maxRecDepth 100000 in
theorem bodyL (x1 x2 x3 x4 x5 x7 x8 x13 x14 x15 x16 x17 x18 x19 x20 x21 x22 x23 x24 x25 x26 x27 x28 x29 x30 x31 x32 x33 x34 x35 x36 x37 x38 x39 x40 x41 x42 x43 x44 x45 x46 x47 x48 x49 x50 x51 x52 x53 x54 x55 x56 x57 x58 x59 x60 x61 x62 x63 x64 x65 x66 x67 x68 x69 x70 x71 x72 x73 x74 x75 x76 x77 x78 x79 x80 x81 x82 x83 x84 x85 x86 x87 x88 x89 x90 x91 x92 x93 x94 x95 x96 x97 x98 x99 x100 x101 x102 x103 x104 x105 x106 x107 x108 x109 x110 x111 x112 x113 x114 x115 x116 x117 x118 x119 x120 x121 x122 x123 x124 x125 x126 x127 : Value) (ao : Option Addr) (cap : Nat) (L : List Fl) (p : ByteArray) (w0 w : World) (H A M : List (List UInt8)) (nd : List Nd) (hv nv tv : Value) (k : Nat) (hk : k < H.length) (hHl : H.length ≤ 60) (T : ByteArray) (hS : DrS w0 H nd A hv nv tv w) (hL : IsFl w0 ao L) (hl : L.length ≤ 60) (kd : Int) (tx : ByteArray) (hkt : ktF L p.data.toList = (kd, tx))
    (hD : kd = 3 → ∀ W, Below w0.heap.size w0 W → Calls Tryz.prog 36 #[.slice ao L.length cap, .string p] W (DjP T M W)) (hT : T.size ≤ 140737488351300) (htx : tx.size ≤ 140737488351300) (hA : A.length + M.length ≤ 999999) (hn : nd.length ≤ 1000) (Q0 : Exit → Act → World → Prop)
    (hexit : ∀ (u9 u10 u13 u14 u15 u16 u17 u18 u63 u64 u65 u66 u67 u68 u69 u70 u71 u72 u73 u74 u75 u76 u77 u78 u79 u80 u81 u82 u83 u84 u85 u86 u87 u88 u89 u90 u91 u92 u93 u94 u95 u96 u97 u98 u99 u100 u101 u102 u103 u104 u105 u106 u107 u108 u109 u110 u111 u112 u113 u114 u115 u116 u117 u118 u119 u120 u121 u122 u123 u124 : Value) (w' : World), Hid (DrS w0 H (nd ++ [(⟨(H[k]).toArray⟩, kd, smD (if kd = 3 then T else tx))]) (A ++ ((if kd = 3 then M else []) ++ [(if kd = 3 then T else tx).data.toList])) hv u9 u10 w') → Q0 .normal ⟨#[.slice ao L.length cap, x1, x2, x3, x4, x5, hv, x7, x8, u9, u10, .int .i64 (k : Int), .string p, u13, u14, u15, u16, u17, u18, x19, x20, x21, x22, x23, x24, x25, x26, x27, x28, x29, x30, x31, x32, x33, x34, x35, x36, x37, x38, x39, x40, x41, x42, x43, x44, x45, x46, x47, x48, x49, x50, x51, x52, x53, x54, x55, x56, x57, x58, x59, x60, x61, x62, u63, u64, u65, u66, u67, u68, u69, u70, u71, u72, u73, u74, u75, u76, u77, u78, u79, u80, u81, u82, u83, u84, u85, u86, u87, u88, u89, u90, u91, u92, u93, u94, u95, u96, u97, u98, u99, u100, u101, u102, u103, u104, u105, u106, u107, u108, u109, u110, u111, u112, u113, u114, u115, u116, u117, u118, u119, u120, u121, u122, u123, u124, x125, x126, x127], []⟩ w') :
    Code.wp Tryz.prog (subC [true, true, true, true, true, false, true, false, false, true, false, false, true, true] (Tryz.f36.body.getD .skip)) Q0 ⟨#[.slice ao L.length cap, x1, x2, x3, x4, x5, hv, x7, x8, nv, tv, .int .i64 (k : Int), .string p, x13, x14, x15, x16, x17, x18, x19, x20, x21, x22, x23, x24, x25, x26, x27, x28, x29, x30, x31, x32, x33, x34, x35, x36, x37, x38, x39, x40, x41, x42, x43, x44, x45, x46, x47, x48, x49, x50, x51, x52, x53, x54, x55, x56, x57, x58, x59, x60, x61, x62, x63, x64, x65, x66, x67, x68, x69, x70, x71, x72, x73, x74, x75, x76, x77, x78, x79, x80, x81, x82, x83, x84, x85, x86, x87, x88, x89, x90, x91, x92, x93, x94, x95, x96, x97, x98, x99, x100, x101, x102, x103, x104, x105, x106, x107, x108, x109, x110, x111, x112, x113, x114, x115, x116, x117, x118, x119, x120, x121, x122, x123, x124, x125, x126, x127], []⟩ w := by
  have HX : Hid (∀ (u9 u10 u13 u14 u15 u16 u17 u18 u63 u64 u65 u66 u67 u68 u69 u70 u71 u72 u73 u74 u75 u76 u77 u78 u79 u80 u81 u82 u83 u84 u85 u86 u87 u88 u89 u90 u91 u92 u93 u94 u95 u96 u97 u98 u99 u100 u101 u102 u103 u104 u105 u106 u107 u108 u109 u110 u111 u112 u113 u114 u115 u116 u117 u118 u119 u120 u121 u122 u123 u124 : Value) (w' : World), Hid (DrS w0 H (nd ++ [(⟨(H[k]).toArray⟩, kd, smD (if kd = 3 then T else tx))]) (A ++ ((if kd = 3 then M else []) ++ [(if kd = 3 then T else tx).data.toList])) hv u9 u10 w') → Q0 .normal ⟨#[.slice ao L.length cap, x1, x2, x3, x4, x5, hv, x7, x8, u9, u10, .int .i64 (k : Int), .string p, u13, u14, u15, u16, u17, u18, x19, x20, x21, x22, x23, x24, x25, x26, x27, x28, x29, x30, x31, x32, x33, x34, x35, x36, x37, x38, x39, x40, x41, x42, x43, x44, x45, x46, x47, x48, x49, x50, x51, x52, x53, x54, x55, x56, x57, x58, x59, x60, x61, x62, u63, u64, u65, u66, u67, u68, u69, u70, u71, u72, u73, u74, u75, u76, u77, u78, u79, u80, u81, u82, u83, u84, u85, u86, u87, u88, u89, u90, u91, u92, u93, u94, u95, u96, u97, u98, u99, u100, u101, u102, u103, u104, u105, u106, u107, u108, u109, u110, u111, u112, u113, u114, u115, u116, u117, u118, u119, u120, u121, u122, u123, u124, x125, x126, x127], []⟩ w') := hexit
  obtain ⟨hg, hc, hvv, _, _⟩ := hS.names.form (by omega)
  have hnm : w.cell? ⟨hg, k, none⟩ = some (.string ⟨(H[k]).toArray⟩) := by
    rw [hvv] at hS
    refine (hS.names.cellAt k (by omega)).trans ?_
    rw [List.getElem?_map, List.getElem?_eq_getElem hk]
    rfl
  subst hvv
  have hki : (k : Int) < (H.length : Int) := by omega
  have HN : Hid (DrN w0 (.slice (some ⟨hg, 0, none⟩) H.length hc) nv tv w.heap.size) := hS.fresh
  obtain ⟨W1, hW1⟩ : ∃ W1, W1 = w.alloc (.cells #[.string ⟨(H[k]).toArray⟩, .int .i64 3, .string ⟨#[]⟩] 79) := ⟨_, rfl⟩
  have HS1 : Hid (DrS w0 H nd A (.slice (some ⟨hg, 0, none⟩) H.length hc) nv tv W1) := by rw [hW1]; exact hS.up ((Below.refl _ w).alloc (Nat.le_refl _) _)
  have HF1 : Hid (FB ⟨(H[k]).toArray⟩ 3 ⟨#[]⟩ w.heap.size W1 W1) := by
    rw [hW1]
    exact ⟨heap_alloc_new w _, rfl, rfl, rfl, rfl, fun _ _ => rfl⟩
  have HL1 : Hid (IsFl W1 ao L) := hL.below HS1.out.bel (Nat.le_refl _)
  have HLn : Hid (∀ g o, ao = some ⟨g, o, none⟩ → g ≠ w.heap.size ∨ L = []) := fun g o e => by
    rcases hL with h | ⟨g2, o2, e2, h2, _⟩
    · exact .inr h
    · rw [e] at e2
      cases e2
      exact .inl (by have := hS.bel.size; omega)
  have HD : Hid (kd = 3 → ∀ W, Below w0.heap.size w0 W → Calls Tryz.prog 36 #[.slice ao L.length cap, .string p] W (DjP T M W)) := hD
  have HZ : Hid (T.size ≤ 140737488351300 ∧ tx.size ≤ 140737488351300 ∧ A.length + M.length ≤ 999999 ∧ nd.length ≤ 1000 ∧ L.length ≤ 60 ∧ ktF L p.data.toList = (kd, tx)) := ⟨hT, htx, hA, hn, hl, hkt⟩
  obtain ⟨YF, hYF⟩ : ∃ YF, YF = (subC [true, true, true, true, true, false, true, false, false, true, false, false, true, true, true, true, false, true, false] (Tryz.f36.body.getD .skip)) := ⟨_, rfl⟩
  have HYF : Hid (YF = (subC [true, true, true, true, true, false, true, false, false, true, false, false, true, true, true, true, false, true, false] (Tryz.f36.body.getD .skip))) := hYF
  have hlF : (subC [true, true, true, true, true, false, true, false, false, true, false, false, true, true, true, true, false, true, false] (Tryz.f36.body.getD .skip)) = YF := hYF.symm
  obtain ⟨YM, hYM⟩ : ∃ YM, YM = (subC [true, true, true, true, true, false, true, false, false, true, false, false, true, true, true, true, true, false, true, false, true, true, true, false] (Tryz.f36.body.getD .skip)) := ⟨_, rfl⟩
  have HYM : Hid (YM = (subC [true, true, true, true, true, false, true, false, false, true, false, false, true, true, true, true, true, false, true, false, true, true, true, false] (Tryz.f36.body.getD .skip))) := hYM
  have hlM : (subC [true, true, true, true, true, false, true, false, false, true, false, false, true, true, true, true, true, false, true, false, true, true, true, false] (Tryz.f36.body.getD .skip)) = YM := hYM.symm
  obtain ⟨YT, hYT⟩ : ∃ YT, YT = (subC [true, true, true, true, true, false, true, false, false, true, false, false, true, true, true, true, true, true] (Tryz.f36.body.getD .skip)) := ⟨_, rfl⟩
  have HYT : Hid (YT = (subC [true, true, true, true, true, false, true, false, false, true, false, false, true, true, true, true, true, true] (Tryz.f36.body.getD .skip))) := hYT
  have hlT : (subC [true, true, true, true, true, false, true, false, false, true, false, false, true, true, true, true, true, true] (Tryz.f36.body.getD .skip)) = YT := hYT.symm
  clear hexit hS hL hl hkt hD hT htx hA hn
  conv at hlF => lhs; whnf
  conv at hlM => lhs; whnf
  conv at hlT => lhs; whnf
  conv => arg 2; whnf
  rw [hlF, hlM, hlT]
  clear hlF hlM hlT hYF hYM hYT
  generalize (⟨(H[k]).toArray⟩ : ByteArray) = nm at *
  obtain ⟨Nb, hNb⟩ : ∃ Nb, Nb = w.heap.size := ⟨_, rfl⟩
  dsimp only
  go_wp2
  rw [← hW1, HYF.out]
  rw [← hNb] at HN HF1 HLn ⊢
  clear hW1 hNb hnm
  have hne : ∀ g o, ao = some ⟨g, o, none⟩ → L ≠ [] → g ≠ Nb := fun g o e h => (HLn.out g o e).resolve_right h
  refine findL2 _ _ _ _ _ _ _ _ _ _ _ _ _ _ _ _ _ _ _ _ _ _ _ _ _ _ _ _ _ _ _ _ _ _ _ _ _ _ _ _ _ _ _ _ _ _ _ _ _ _ _ _ _ _ _ _ _ _ _ _ _ _ _ _ _ _ _ _ _ _ _ _ _ _ _ _ _ _ _ _ _ _ _ _ _ _ _ _ _ _ _ _ _ _ _ _ _ _ _ _ _ _ _ _ _ _ _ _ _ _ _ _ _ _ _ _ _ _ _ _ _ _ _ ao cap L p nm Nb W1 HL1.out HZ.out.2.2.2.2.1 hne HF1.out _ ?_
  intro u15 u68 u69 u70 u71 u72 u73 u74 u75 u76 u77 u78 u79 u80 u81 u82 u83 u84 u85 u86 u87 u88 u89 u90 u91 u92 w2 HF2
  rw [HZ.out.2.2.2.2.2] at HF2 ⊢
  simp only at HF2 ⊢
  have HS2 : Hid (DrS w0 H nd A (.slice (some ⟨hg, 0, none⟩) H.length hc) nv tv w2) := HS1.out.fb HN.out HF2.out
  have HG2 : Hid (FB nm kd ⟨#[]⟩ Nb w2 w2) := ⟨HF2.out.blk, rfl, rfl, rfl, rfl, fun _ _ => rfl⟩
  have n1 := HF2.out.c1
  clear HF1 HS1 HL1 HLn HYF hne HF2
  by_cases hkd : kd = 3
  · subst hkd
    have HD2 : Hid (Calls Tryz.prog 36 #[.slice ao L.length cap, .string p] w2 (DjP T M w2)) := HD.out rfl w2 HS2.out.bel
    simp only [if_true] at HX
    go_wp2_with fail
    refine HD2.out.mono ?_
    rintro e w3 ⟨mo, mc, rfl, hm3, hb3⟩
    have HS3 : Hid (DrS w0 H nd A (.slice (some ⟨hg, 0, none⟩) H.length hc) nv tv w3) := HS2.out.up hb3
    have HM3 : Hid (w3.ownsRow w2.heap.size 9 1 (.slice mo M.length mc) M.length (M.map encStr)) := hm3
    have HG3 : Hid (FB nm 3 ⟨#[]⟩ Nb w3 w3) := ⟨(hb3.block Nb (Array.getElem?_eq_some_iff.1 HG2.out.blk).1).trans HG2.out.blk, rfl, rfl, rfl, rfl, fun _ _ => rfl⟩
    clear hm3 hb3 HD2 HD HS2 HG2 n1
    go_wp2
    rw [HYM.out]
    refine moreL _ _ _ _ _ _ _ _ _ _ _ _ _ _ _ _ _ _ _ _ _ _ _ _ _ _ _ _ _ _ _ _ _ _ _ _ _ _ _ _ _ _ _ _ _ _ _ _ _ _ _ _ _ _ _ _ _ _ _ _ _ _ _ _ _ _ _ _ _ _ _ _ _ _ _ _ _ _ _ _ _ _ _ _ _ _ _ _ _ _ _ _ _ _ _ _ _ _ _ _ _ _ _ _ _ _ _ _ _ _ _ _ _ _ _ _ _ _ _ _ _ _ _ _ _ w0.heap.size w2.heap.size A M tv mo mc w3 HS3.out.texts HM3.out (by have := HZ.out.2.2.1; omega) _ ?_
    intro u10 u18 u103 u104 u105 u106 u107 u108 u109 u110 u111 u112 u113 u114 w4 HM4
    obtain ⟨r4, b4, g4⟩ := HM4.out
    rw [List.take_length] at r4
    have HS4 : Hid (DrS w0 H nd (A ++ M) (.slice (some ⟨hg, 0, none⟩) H.length hc) nv u10 w4) := HS3.out.turn r4 b4 g4
    have hNb3 : Nb < w3.heap.size := (Array.getElem?_eq_some_iff.1 HG3.out.blk).1
    have HN4 : Hid (DrN w0 (.slice (some ⟨hg, 0, none⟩) H.length hc) nv u10 Nb) := HN.out.turn hNb3 g4
    have HG4 : Hid (FB nm 3 ⟨#[]⟩ Nb w4 w4) := ⟨(b4.block Nb hNb3).trans HG3.out.blk, rfl, rfl, rfl, rfl, fun _ _ => rfl⟩
    clear r4 b4 g4 HM4 HS3 HM3 HG3 hNb3
    go_wp2
    rw [HYT.out]
    refine tailL _ _ _ _ _ _ _ _ _ _ _ _ _ _ _ _ _ _ _ _ _ _ _ _ _ _ _ _ _ _ _ _ _ _ _ _ _ _ _ _ _ _ _ _ _ _ _ _ _ _ _ _ _ _ _ _ _ _ _ _ _ _ _ _ _ _ _ _ _ _ _ _ _ _ _ _ _ _ _ _ _ _ _ _ _ _ _ _ _ _ _ _ _ _ _ _ _ _ _ _ _ _ _ _ _ _ _ _ _ _ _ _ _ _ _ _ _ _ _ _ _ _ _ _ w0 w4 H (A ++ M) nd _ nv u10 Nb nm T 3 HS4.out HN4.out HG4.out HZ.out.1 (by rw [List.length_append]; have := HZ.out.2.2.1; omega) HZ.out.2.2.2.1 _ ?_
    intro u9 u10 u115 u116 u117 u118 u119 u120 u121 u122 u123 u124 w5 HS5
    rw [List.append_assoc] at HS5
    exact HX.out _ _ _ _ _ _ _ _ _ _ _ _ _ _ _ _ _ _ _ _ _ _ _ _ _ _ _ _ _ _ _ _ _ _ _ _ _ _ _ _ _ _ _ _ _ _ _ _ _ _ _ _ _ _ _ _ _ _ _ _ _ _ _ _ _ _ _ _ _ _ _ HS5
  · have hkd2 : (kd == 3) = false := beq_eq_false_iff_ne.2 hkd
    rw [if_neg hkd, if_neg hkd] at HX
    clear hkd HD
    go_wp2
    rw [HYT.out]
    refine tailL _ _ _ _ _ _ _ _ _ _ _ _ _ _ _ _ _ _ _ _ _ _ _ _ _ _ _ _ _ _ _ _ _ _ _ _ _ _ _ _ _ _ _ _ _ _ _ _ _ _ _ _ _ _ _ _ _ _ _ _ _ _ _ _ _ _ _ _ _ _ _ _ _ _ _ _ _ _ _ _ _ _ _ _ _ _ _ _ _ _ _ _ _ _ _ _ _ _ _ _ _ _ _ _ _ _ _ _ _ _ _ _ _ _ _ _ _ _ _ _ _ _ _ _ w0 w2 H A nd _ nv tv Nb nm tx kd HS2.out HN.out HG2.out HZ.out.2.1 (by have := HZ.out.2.2.1; omega) HZ.out.2.2.2.1 _ ?_
    intro u9 u10 u115 u116 u117 u118 u119 u120 u121 u122 u123 u124 w5 HS5
    exact HX.out _ _ _ _ _ _ _ _ _ _ _ _ _ _ _ _ _ _ _ _ _ _ _ _ _ _ _ _ _ _ _ _ _ _ _ _ _ _ _ _ _ _ _ _ _ _ _ _ _ _ _ _ _ _ _ _ _ _ _ _ _ _ _ _ _ _ _ _ _ _ _ HS5
end Go.Proofs.YtefdfcjohkndgaaGreatDoor

/- What the document's own CheckNodes, Rise and PackNodes answer. -/
namespace Go.Proofs.YtefdfcjohkndgaaGreatDoor
open Go.RowKit Go.Shelf

theorem leq_lss : ∀ (y x : List UInt8), (Op.bytesLess y x || y == x) = !Op.bytesLess x y
  | [], [] => rfl
  | [], _ :: _ => rfl
  | _ :: _, [] => rfl
  | a :: y, b :: x => by
    have ih := leq_lss y x
    have h1 : (a < b) = (a.toNat < b.toNat) := rfl
    have h2 : (b < a) = (b.toNat < a.toNat) := rfl
    unfold Op.bytesLess
    rcases Nat.lt_trichotomy a.toNat b.toNat with h | h | h
    · have hne : a ≠ b := fun e => by rw [e] at h; omega
      have h3 : ¬ b.toNat < a.toNat := by omega
      simp [h1, h2, h, h3, hne.symm]
    · obtain rfl : a = b := UInt8.toNat_inj.1 h
      simp [h1] at ih ⊢
      exact ih
    · have hne : a ≠ b := fun e => by rw [e] at h; omega
      have h3 : ¬ a.toNat < b.toNat := by omega
      simp [h1, h2, h, h3, hne]
theorem less_cls (a b : ByteArray) : (less a b = true ∧ Op.bytesLess b.toList a.toList = false ∧ (b.toList == a.toList) = false) ∨ (less a b = false ∧ Op.bytesLess b.toList a.toList = true) ∨ (less a b = false ∧ Op.bytesLess b.toList a.toList = false ∧ (b.toList == a.toList) = true) := by
  have h := leq_lss b.toList a.toList
  unfold less
  cases h1 : Op.bytesLess a.toList b.toList <;> cases h2 : Op.bytesLess b.toList a.toList <;> cases h3 : (b.toList == a.toList) <;> simp_all

set_option maxHeartbeats 2000000 in
set_option maxRecDepth 100000 in
theorem packnodes_some (B g o cap : Nat) (ns : List Nd) (w : World) (hok : okDs ns) (hg : g < B) (hB : B ≤ w.heap.size) (hc : NdAt g o ns w) :
    Calls Tryz.prog 74 #[.slice (some ⟨g, o, none⟩) ns.length cap] w fun e w' => e = .returned (.string ⟨(pk ns.length ++ pkDD ns).toArray⟩) ∧ Below B w w' := by
  have HC : Hid (NdAt g o ns w) := hc
  have HS : Hid _ := hok.2
  have HT : Hid _ := pkDs_len ns hok
  have hn := hok.1
  have hn1 : (ns.length : Int) ≤ 60 := by omega
  clear hc hok
  go_enter Tryz.func74, Tryz.ntmps74
  go_wp2_with fail
  refine (packn_any ns.length ns.length w (Nat.le_refl _) (by omega)).mono ?_
  rintro e w1 ⟨rfl, hb1⟩
  have B1 : Hid (Below B w w1) := hb1.mono hB
  clear hb1
  go_wp2_with fail
  go_loopw [3, 4] (fun s i wr => ∃ k : Nat, k ≤ ns.length ∧ i = .int .i64 k ∧ s = .string ⟨(pk ns.length ++ pkDD (ns.take k)).toArray⟩ ∧ Below B w wr) (fun _ i _ => ns.length - (intOf i).toNat)
  case atStart => exact ⟨0, Nat.zero_le _, rfl, by simp [pkDD], B1.out⟩
  case round =>
    obtain ⟨k, hk, rfl, rfl, hb⟩ := hrel
    have H3 : Hid (Below B w wr) := hb
    have hsz := hb.size
    by_cases hlt : k < ns.length
    · obtain ⟨a0, a1, a2⟩ := HC.out.below hb hg k hlt
      have hsp : pkDD (ns.take (k + 1)) = pkDD (ns.take k) ++ pkD ns[k] := by rw [List.take_succ_eq_append_getElem hlt, pkDD_append]; simp [pkDD]
      have hle : (pkDD (ns.take (k + 1))).length ≤ (pkDD ns).length := by
        have e1 : pkDD ns = pkDD (ns.take (k + 1)) ++ pkDD (ns.drop (k + 1)) := by rw [← pkDD_append, List.take_append_drop]
        rw [e1, List.length_append]
        omega
      have ho := HS.out _ (List.getElem_mem hlt)
      have hadd : ∀ W : World, (Op.stringOp .add ⟨(pk ns.length ++ pkDD (ns.take k)).toArray⟩ ⟨(pkD ns[k]).toArray⟩).run Tryz.prog W = .ok (.string ⟨(pk ns.length ++ pkDD (ns.take (k + 1))).toArray⟩) W := fun W => by
        rw [addll _ _ (by have := HT.out; rw [hsp] at hle; simp only [List.length_append] at *; omega) W, hsp, List.append_assoc]
      generalize hx : ns[k] = x at a0 a1 a2 ho hsp hadd
      obtain ⟨xa, xk, xd⟩ := x
      obtain ⟨o1, o2, o3, o4⟩ := ho
      simp only at a0 a1 a2 o1 o2 o3 o4
      obtain ⟨xn, rfl⟩ : ∃ n : Nat, xk = n := ⟨xk.toNat, by omega⟩
      have l1 := pkT_len xa o1
      have l2 := pkT_len xd o4
      have l3 := pk_len8 xn (by omega)
      have hadd1 : ∀ W : World, (Op.stringOp .add ⟨(pkT xa).toArray⟩ ⟨(pk xn).toArray⟩).run Tryz.prog W = .ok (.string ⟨(pkT xa ++ pk xn).toArray⟩) W := addll _ _ (by omega)
      have hadd2 : ∀ W : World, (Op.stringOp .add ⟨(pkT xa ++ pk xn).toArray⟩ ⟨(pkT xd).toArray⟩).run Tryz.prog W = .ok (.string ⟨(pkD (xa, (xn : Int), xd)).toArray⟩) W := fun W => by
        rw [addll _ _ (by rw [List.length_append]; omega) W]
        simp only [pkD, List.append_assoc, Int.toNat_natCast]
      have O1 : Hid (xa.size ≤ 9007199254740991) := by show _ ≤ _; omega
      have O2 : Hid (xn ≤ 9007199254740991) := by show _ ≤ _; omega
      have O3 : Hid (xd.size ≤ 9007199254740991) := by show _ ≤ _; omega
      have hgr : g < wr.heap.size := by omega
      have i2 : (k : Int) < ns.length := by omega
      clear hsp hb hle hx o1 o2 o3 o4 l1 l2 l3
      go_wp2_with fail
      go_region_held3 (fun w' => w'.cell? ⟨g, o + k * 3, none⟩ = some (.string xa) ∧ w'.cell? ⟨g, o + k * 3 + 1, none⟩ = some (.int .i64 xn) ∧ w'.cell? ⟨g, o + k * 3 + 2, none⟩ = some (.string xd) ∧ g < w'.heap.size)
        (first | (simp [go_sem, *]; done) | (go_split_ands; refine ⟨?_, ?_, ?_, ?_⟩ <;> first | (exact Nat.lt_of_lt_of_le (by assumption) hb4.size) | (rw [hb4.cell (p := ⟨g, _, none⟩) (by assumption)]; assumption) | (exact Nat.lt_of_lt_of_le (by assumption) hb3.size) | (rw [hb3.cell (p := ⟨g, _, none⟩) (by assumption)]; assumption) | (exact Nat.lt_of_lt_of_le (by assumption) hb2.size) | (rw [hb2.cell (p := ⟨g, _, none⟩) (by assumption)]; assumption)))
        (first
          | (go_at_call_of 115 (Value.string xa); refine (packtext_any xa _ O1.out).mono ?_; rintro e w2 ⟨rfl, hb2⟩)
          | (go_at_call 114; refine (packn_any xn xn _ (Nat.le_refl _) O2.out).mono ?_; rintro e w3 ⟨rfl, hb3⟩)
          | (go_at_call_of 115 (Value.string xd); refine (packtext_any xd _ O3.out).mono ?_; rintro e w4 ⟨rfl, hb4⟩))
      have hb5 : Below B w w4 := by
        have b0 : Below B w wr.drew := H3.out.drew
        have b1 := b0.trans (hb2.mono (Nat.le_trans hB b0.size))
        have b2 := b1.trans (hb3.mono (Nat.le_trans hB b1.size))
        exact b2.trans (hb4.mono (Nat.le_trans hB b2.size))
      have HB5 : Hid _ := hb5
      clear hb2 hb3 hb4 hb5
      go_wp2
      exact ⟨⟨k + 1, by omega, by go_num, rfl, HB5.out⟩, by simp [intOf]; omega⟩
    · obtain rfl : k = ns.length := by omega
      clear hb
      go_wp2
      go_ret
      exact ⟨by simp, H3.out⟩

set_option maxHeartbeats 1000000 in
set_option maxRecDepth 100000 in
theorem packnodes_zero (a : Option Addr) (cap : Nat) (w : World) :
    Calls Tryz.prog 74 #[.slice a 0 cap] w fun e w' => e = .returned (.string ⟨(pk 0 ++ pkDD []).toArray⟩) ∧ Below w.heap.size w w' := by
  go_enter Tryz.func74, Tryz.ntmps74
  go_wp2_with fail
  refine (packn_any 0 0 w (Nat.le_refl _) (by decide)).mono ?_
  rintro e w1 ⟨rfl, hb1⟩
  go_wp2_with fail
  refine wp_loop_rounds 1 ?_
  rw [rounds_succ]
  go_wp2
  go_ret
  exact ⟨by simp [pkDD], hb1⟩

theorem packnodes_any (v : Value) (ns : List Nd) (w : World) (hok : okDs ns) (h : OldNodes w.heap.size w v ns) :
    Calls Tryz.prog 74 #[v] w fun e w' => e = .returned (.string ⟨(pk ns.length ++ pkDD ns).toArray⟩) ∧ Below w.heap.size w w' := by
  obtain ⟨a, cap, rfl, hs⟩ := h
  rcases hs with rfl | ⟨g, o, rfl, hg, hc⟩
  · exact packnodes_zero a cap w
  · exact packnodes_some w.heap.size g o cap ns w hok hg (Nat.le_refl _) hc
end Go.Proofs.YtefdfcjohkndgaaGreatDoor

/- The document's Directory, whole. -/
namespace Go.Proofs.YtefdfcjohkndgaaGreatDoor
open Go.RowKit Go.Shelf Go.Maps Go.WideMaps Go.Sort
attribute [local go_sem ↓] appS_eq

theorem hs_size {S : List Fl} (h : okT S) {m : List UInt8} (hm : m ∈ hs S) : m.length ≤ 100 := by
  obtain ⟨f, hf, rfl⟩ := (hs_mem _ _).1 hm
  have h1 := fl_le h hf
  have h2 : (pth f).length = f.pa.size := Array.length_toList
  unfold hdF
  cases hsl : sl (pth f) with
  | none => simp only; omega
  | some x =>
    have e := congrArg List.length (sl_some (a := x.1) (b := x.2) hsl).1
    rw [List.length_append] at e
    simp only
    omega
theorem dir_small {L : List Fl} (hL : okT L) (d : ByteArray) (hS : okT (dv d L)) {m : List UInt8} (hm : m ∈ names (dv d L)) : (pj d m).size ≤ 100 := by
  have hm2 := name_in hm
  have e := dv_sub d L m (hs_slash hm2) (hs_ne hS hm2)
  obtain ⟨f, hf, hd, hh⟩ := (names_mem _ _).1 hm
  have h1 : subF f ∈ sub m (dv d L) := List.mem_map.2 ⟨f, List.mem_filter.2 ⟨hf, by rw [hd, hh]; simp⟩, rfl⟩
  rw [← e] at h1
  unfold dv at h1
  rw [if_neg (pj_ne d (hs_ne hS hm2))] at h1
  obtain ⟨g, hg, _⟩ := List.mem_map.1 h1
  rw [List.mem_filter] at hg
  have h2 := inB_lt hg.2
  have h3 := fl_le hL hg.1
  omega
theorem pj_add (d : ByteArray) (m : List UInt8) (hd : ¬ d.data.toList = []) : d ++ (⟨#[47]⟩ : ByteArray) ++ ⟨m.toArray⟩ = pj d m := by
  refine bytes_ext ?_
  rw [pj_list, if_neg hd]
  simp
/-- How it stands behind so many names. -/
def DmI (n : Nat) (L : List Fl) (d : ByteArray) (w0 : World) (hv : Value) (k : Nat) (nv tv : Value) (wr : World) : Prop := DrS w0 (hs (dv d L)) (((hs (dv d L)).take k).map (ndD n L d)) (((hs (dv d L)).take k).flatMap (adD n L d)) hv nv tv wr

set_option maxHeartbeats 16000000 in
set_option maxRecDepth 100000 in
theorem mainL (x2 x3 x4 x5 x7 x8 x12 x13 x14 x15 x16 x17 x18 x19 x20 x21 x22 x23 x24 x25 x26 x27 x28 x29 x30 x31 x32 x33 x34 x35 x36 x37 x38 x39 x40 x41 x42 x43 x44 x45 x46 x47 x48 x49 x50 x51 x52 x53 x54 x55 x56 x57 x58 x59 x60 x61 x62 x63 x64 x65 x66 x67 x68 x69 x70 x71 x72 x73 x74 x75 x76 x77 x78 x79 x80 x81 x82 x83 x84 x85 x86 x87 x88 x89 x90 x91 x92 x93 x94 x95 x96 x97 x98 x99 x100 x101 x102 x103 x104 x105 x106 x107 x108 x109 x110 x111 x112 x113 x114 x115 x116 x117 x118 x119 x120 x121 x122 x123 x124 x125 x126 x127 : Value) (n : Nat) (hn : n ≤ 100) (ao : Option Addr) (cap : Nat) (L : List Fl) (d : ByteArray) (w0 w : World) (hv : Value) (hL : IsFl w0 ao L) (hok : okT L) (hS : okT (dv d L)) (hz : ∀ f ∈ dv d L, f.pa.size < n + 1) (hd : d.size ≤ 100)
    (hI : DmI n L d w0 hv 0 (.slice none 0 0) (.slice none 0 0) w)
    (hD : ∀ m ∈ names (dv d L), ∀ W, Below w0.heap.size w0 W → Calls Tryz.prog 36 #[.slice ao L.length cap, .string (pj d m)] W (DjP (dirF smD n (sub m (dv d L))).1 (mrT n (dv d L) m) W)) (Q0 : Exit → Act → World → Prop)
    (hexit : ∀ (u9 u10 u11 u12 u13 u14 u15 u16 u17 u18 u47 u48 u49 u50 u51 u52 u53 u54 u55 u56 u57 u58 u59 u60 u61 u62 u63 u64 u65 u66 u67 u68 u69 u70 u71 u72 u73 u74 u75 u76 u77 u78 u79 u80 u81 u82 u83 u84 u85 u86 u87 u88 u89 u90 u91 u92 u93 u94 u95 u96 u97 u98 u99 u100 u101 u102 u103 u104 u105 u106 u107 u108 u109 u110 u111 u112 u113 u114 u115 u116 u117 u118 u119 u120 u121 u122 u123 u124 : Value) (w' : World), Hid (DmI n L d w0 hv (hs (dv d L)).length u9 u10 w') → Q0 (.exit 2) ⟨#[.slice ao L.length cap, .string d, x2, x3, x4, x5, hv, x7, x8, u9, u10, u11, u12, u13, u14, u15, u16, u17, u18, x19, x20, x21, x22, x23, x24, x25, x26, x27, x28, x29, x30, x31, x32, x33, x34, x35, x36, x37, x38, x39, x40, x41, x42, x43, x44, x45, x46, u47, u48, u49, u50, u51, u52, u53, u54, u55, u56, u57, u58, u59, u60, u61, u62, u63, u64, u65, u66, u67, u68, u69, u70, u71, u72, u73, u74, u75, u76, u77, u78, u79, u80, u81, u82, u83, u84, u85, u86, u87, u88, u89, u90, u91, u92, u93, u94, u95, u96, u97, u98, u99, u100, u101, u102, u103, u104, u105, u106, u107, u108, u109, u110, u111, u112, u113, u114, u115, u116, u117, u118, u119, u120, u121, u122, u123, u124, x125, x126, x127], []⟩ w') :
    Code.wp Tryz.prog (subC [true, true, true, true, true, false, true, false] (Tryz.f36.body.getD .skip)) Q0 ⟨#[.slice ao L.length cap, .string d, x2, x3, x4, x5, hv, x7, x8, .slice none 0 0, .slice none 0 0, .int .i64 0, x12, x13, x14, x15, x16, x17, x18, x19, x20, x21, x22, x23, x24, x25, x26, x27, x28, x29, x30, x31, x32, x33, x34, x35, x36, x37, x38, x39, x40, x41, x42, x43, x44, x45, x46, x47, x48, x49, x50, x51, x52, x53, x54, x55, x56, x57, x58, x59, x60, x61, x62, x63, x64, x65, x66, x67, x68, x69, x70, x71, x72, x73, x74, x75, x76, x77, x78, x79, x80, x81, x82, x83, x84, x85, x86, x87, x88, x89, x90, x91, x92, x93, x94, x95, x96, x97, x98, x99, x100, x101, x102, x103, x104, x105, x106, x107, x108, x109, x110, x111, x112, x113, x114, x115, x116, x117, x118, x119, x120, x121, x122, x123, x124, x125, x126, x127], []⟩ w := by
  have HX : Hid (∀ (u9 u10 u11 u12 u13 u14 u15 u16 u17 u18 u47 u48 u49 u50 u51 u52 u53 u54 u55 u56 u57 u58 u59 u60 u61 u62 u63 u64 u65 u66 u67 u68 u69 u70 u71 u72 u73 u74 u75 u76 u77 u78 u79 u80 u81 u82 u83 u84 u85 u86 u87 u88 u89 u90 u91 u92 u93 u94 u95 u96 u97 u98 u99 u100 u101 u102 u103 u104 u105 u106 u107 u108 u109 u110 u111 u112 u113 u114 u115 u116 u117 u118 u119 u120 u121 u122 u123 u124 : Value) (w' : World), Hid (DmI n L d w0 hv (hs (dv d L)).length u9 u10 w') → Q0 (.exit 2) ⟨#[.slice ao L.length cap, .string d, x2, x3, x4, x5, hv, x7, x8, u9, u10, u11, u12, u13, u14, u15, u16, u17, u18, x19, x20, x21, x22, x23, x24, x25, x26, x27, x28, x29, x30, x31, x32, x33, x34, x35, x36, x37, x38, x39, x40, x41, x42, x43, x44, x45, x46, u47, u48, u49, u50, u51, u52, u53, u54, u55, u56, u57, u58, u59, u60, u61, u62, u63, u64, u65, u66, u67, u68, u69, u70, u71, u72, u73, u74, u75, u76, u77, u78, u79, u80, u81, u82, u83, u84, u85, u86, u87, u88, u89, u90, u91, u92, u93, u94, u95, u96, u97, u98, u99, u100, u101, u102, u103, u104, u105, u106, u107, u108, u109, u110, u111, u112, u113, u114, u115, u116, u117, u118, u119, u120, u121, u122, u123, u124, x125, x126, x127], []⟩ w') := hexit
  have HI0 : Hid (DmI n L d w0 hv 0 (.slice none 0 0) (.slice none 0 0) w) := hI
  have HD : Hid (∀ m ∈ names (dv d L), ∀ W, Below w0.heap.size w0 W → Calls Tryz.prog 36 #[.slice ao L.length cap, .string (pj d m)] W (DjP (dirF smD n (sub m (dv d L))).1 (mrT n (dv d L) m) W)) := hD
  have HP : Hid (IsFl w0 ao L ∧ okT L ∧ okT (dv d L) ∧ (∀ f ∈ dv d L, f.pa.size < n + 1) ∧ n ≤ 100) := ⟨hL, hok, hS, hz, hn⟩
  have HHl : Hid ((hs (dv d L)).length ≤ 60) := Nat.le_trans (hs_len _) hS.1
  have hhi : ((hs (dv d L)).length : Int) ≤ 60 := by have := HHl.out; omega
  have hd2 : (d.size : Int) ≤ 100 := by omega
  obtain ⟨ha, hc, hvv⟩ := own_shape hI.names
  subst hvv
  clear hexit hL hok hS hz hI hD hn
  conv => arg 2; whnf
  dsimp only
  go_loopw [9, 10, 11] (fun nv tv i wr => ∃ k : Nat, k ≤ (hs (dv d L)).length ∧ i = .int .i64 (k : Int) ∧ Hid (DmI n L d w0 (.slice ha (hs (dv d L)).length hc) k nv tv wr)) (fun _ _ i _ => (hs (dv d L)).length - (RowKit.intOf i).toNat)
  case atStart => exact ⟨0, Nat.zero_le _, rfl, HI0⟩
  case round =>
    obtain ⟨k, hk, rfl, HI⟩ := hrel
    clear HI0
    by_cases hlt : k < (hs (dv d L)).length
    · have hki : (k : Int) < ((hs (dv d L)).length : Int) := by omega
      obtain ⟨k1, hk1⟩ : ∃ k1, k1 = k + 1 := ⟨_, rfl⟩
      have ek1 : (k : Int) + 1 = (k1 : Int) := by omega
      have ek2 : IntKind.i64.wrap (k1 : Int) = (k1 : Int) := by rw [IntKind.wrap_i64]; have := HHl.out; omega
      have HK1 : Hid (k1 = k + 1 ∧ k < (hs (dv d L)).length) := ⟨hk1, hlt⟩
      obtain ⟨hg, hc', hv', _, _⟩ := HI.out.names.form (by omega)
      cases hv'
      have c0 : wr.cell? ⟨hg, k, none⟩ = some (.string ⟨((hs (dv d L))[k]).toArray⟩) := by
        refine (HI.out.names.cellAt k (by omega)).trans ?_
        rw [List.getElem?_map, List.getElem?_eq_getElem hlt]
        rfl
      have hmem : (hs (dv d L))[k] ∈ hs (dv d L) := List.getElem_mem hlt
      obtain ⟨hL, hok, hS, hz, hn⟩ := HP.out
      have hml := hs_size hS hmem
      have hmz : ((⟨((hs (dv d L))[k]).toArray⟩ : ByteArray).size : Int) ≤ 100 := by
        have : (⟨((hs (dv d L))[k]).toArray⟩ : ByteArray).size = ((hs (dv d L))[k]).length := rfl
        omega
      obtain ⟨YB, hYB⟩ : ∃ YB, YB = (subC [true, true, true, true, true, false, true, false, false, true, false, false, true, true] (Tryz.f36.body.getD .skip)) := ⟨_, rfl⟩
      have HYB : Hid (YB = (subC [true, true, true, true, true, false, true, false, false, true, false, false, true, true] (Tryz.f36.body.getD .skip))) := hYB
      have hlB : (subC [true, true, true, true, true, false, true, false, false, true, false, false, true, true] (Tryz.f36.body.getD .skip)) = YB := hYB.symm
      conv at hlB => lhs; whnf
      rw [hlB]
      -- what this name comes to
      have hA1 := adK_len n d hS (by omega) k (by have := HHl.out; omega)
      have hM1 := mrT_len n hS ((hs (dv d L))[k]) (by omega)
      have hnd : (((hs (dv d L)).take k).map (ndD n L d)).length ≤ 1000 := by
        rw [List.length_map, List.length_take]
        have := HHl.out
        omega
      have hT1 : (dirF smD n (sub ((hs (dv d L))[k]) (dv d L))).1.size ≤ 140737488351300 := by
        cases n with
        | zero => show (⟨#[]⟩ : ByteArray).size ≤ _; decide
        | succ j =>
          have := txN_size smD smD_dig j (okT_sub hS ((hs (dv d L))[k]))
          omega
      have hkx : (ktF L (pj d (hs (dv d L))[k]).data.toList).2.size ≤ 140737488351300 := by
        rcases hs_cases d hok hS hmem with ⟨f, hf, _, _, e⟩ | ⟨_, e⟩
        · rw [e]
          have := (flE_pa (hS.2.1 f hf)).2
          show f.tx.size ≤ _
          omega
        · rw [e]
          decide
      have hDm : (ktF L (pj d (hs (dv d L))[k]).data.toList).1 = 3 → ∀ W, Below w0.heap.size w0 W → Calls Tryz.prog 36 #[.slice ao L.length cap, .string (pj d (hs (dv d L))[k])] W (DjP (dirF smD n (sub ((hs (dv d L))[k]) (dv d L))).1 (mrT n (dv d L) ((hs (dv d L))[k])) W) := fun e => by
        rcases hs_cases d hok hS hmem with ⟨f, hf, _, _, e2⟩ | ⟨hm2, _⟩
        · rw [e2] at e
          exact absurd e (kd_ne _)
        · exact HD.out _ hm2
      have HB : Hid (∀ (x1 x2 x3 x4 x5 x7 x8 x13 x14 x15 x16 x17 x18 x19 x20 x21 x22 x23 x24 x25 x26 x27 x28 x29 x30 x31 x32 x33 x34 x35 x36 x37 x38 x39 x40 x41 x42 x43 x44 x45 x46 x47 x48 x49 x50 x51 x52 x53 x54 x55 x56 x57 x58 x59 x60 x61 x62 x63 x64 x65 x66 x67 x68 x69 x70 x71 x72 x73 x74 x75 x76 x77 x78 x79 x80 x81 x82 x83 x84 x85 x86 x87 x88 x89 x90 x91 x92 x93 x94 x95 x96 x97 x98 x99 x100 x101 x102 x103 x104 x105 x106 x107 x108 x109 x110 x111 x112 x113 x114 x115 x116 x117 x118 x119 x120 x121 x122 x123 x124 x125 x126 x127 : Value) (Q0 : Exit → Act → World → Prop) (hexit : ∀ (u9 u10 u13 u14 u15 u16 u17 u18 u63 u64 u65 u66 u67 u68 u69 u70 u71 u72 u73 u74 u75 u76 u77 u78 u79 u80 u81 u82 u83 u84 u85 u86 u87 u88 u89 u90 u91 u92 u93 u94 u95 u96 u97 u98 u99 u100 u101 u102 u103 u104 u105 u106 u107 u108 u109 u110 u111 u112 u113 u114 u115 u116 u117 u118 u119 u120 u121 u122 u123 u124 : Value) (w' : World), Hid (DmI n L d w0 (.slice (some ⟨hg, 0, none⟩) (hs (dv d L)).length hc) (k + 1) u9 u10 w') → Q0 .normal ⟨#[.slice ao L.length cap, x1, x2, x3, x4, x5, .slice (some ⟨hg, 0, none⟩) (hs (dv d L)).length hc, x7, x8, u9, u10, .int .i64 (k : Int), .string (pj d (hs (dv d L))[k]), u13, u14, u15, u16, u17, u18, x19, x20, x21, x22, x23, x24, x25, x26, x27, x28, x29, x30, x31, x32, x33, x34, x35, x36, x37, x38, x39, x40, x41, x42, x43, x44, x45, x46, x47, x48, x49, x50, x51, x52, x53, x54, x55, x56, x57, x58, x59, x60, x61, x62, u63, u64, u65, u66, u67, u68, u69, u70, u71, u72, u73, u74, u75, u76, u77, u78, u79, u80, u81, u82, u83, u84, u85, u86, u87, u88, u89, u90, u91, u92, u93, u94, u95, u96, u97, u98, u99, u100, u101, u102, u103, u104, u105, u106, u107, u108, u109, u110, u111, u112, u113, u114, u115, u116, u117, u118, u119, u120, u121, u122, u123, u124, x125, x126, x127], []⟩ w'),
          Code.wp Tryz.prog YB Q0 ⟨#[.slice ao L.length cap, x1, x2, x3, x4, x5, .slice (some ⟨hg, 0, none⟩) (hs (dv d L)).length hc, x7, x8, u9, u10, .int .i64 (k : Int), .string (pj d (hs (dv d L))[k]), x13, x14, x15, x16, x17, x18, x19, x20, x21, x22, x23, x24, x25, x26, x27, x28, x29, x30, x31, x32, x33, x34, x35, x36, x37, x38, x39, x40, x41, x42, x43, x44, x45, x46, x47, x48, x49, x50, x51, x52, x53, x54, x55, x56, x57, x58, x59, x60, x61, x62, x63, x64, x65, x66, x67, x68, x69, x70, x71, x72, x73, x74, x75, x76, x77, x78, x79, x80, x81, x82, x83, x84, x85, x86, x87, x88, x89, x90, x91, x92, x93, x94, x95, x96, x97, x98, x99, x100, x101, x102, x103, x104, x105, x106, x107, x108, x109, x110, x111, x112, x113, x114, x115, x116, x117, x118, x119, x120, x121, x122, x123, x124, x125, x126, x127], []⟩ wr) := by
        intro x1 x2 x3 x4 x5 x7 x8 x13 x14 x15 x16 x17 x18 x19 x20 x21 x22 x23 x24 x25 x26 x27 x28 x29 x30 x31 x32 x33 x34 x35 x36 x37 x38 x39 x40 x41 x42 x43 x44 x45 x46 x47 x48 x49 x50 x51 x52 x53 x54 x55 x56 x57 x58 x59 x60 x61 x62 x63 x64 x65 x66 x67 x68 x69 x70 x71 x72 x73 x74 x75 x76 x77 x78 x79 x80 x81 x82 x83 x84 x85 x86 x87 x88 x89 x90 x91 x92 x93 x94 x95 x96 x97 x98 x99 x100 x101 x102 x103 x104 x105 x106 x107 x108 x109 x110 x111 x112 x113 x114 x115 x116 x117 x118 x119 x120 x121 x122 x123 x124 x125 x126 x127 Q0 hexit
        rw [hYB]
        refine bodyL x1 x2 x3 x4 x5 x7 x8 x13 x14 x15 x16 x17 x18 x19 x20 x21 x22 x23 x24 x25 x26 x27 x28 x29 x30 x31 x32 x33 x34 x35 x36 x37 x38 x39 x40 x41 x42 x43 x44 x45 x46 x47 x48 x49 x50 x51 x52 x53 x54 x55 x56 x57 x58 x59 x60 x61 x62 x63 x64 x65 x66 x67 x68 x69 x70 x71 x72 x73 x74 x75 x76 x77 x78 x79 x80 x81 x82 x83 x84 x85 x86 x87 x88 x89 x90 x91 x92 x93 x94 x95 x96 x97 x98 x99 x100 x101 x102 x103 x104 x105 x106 x107 x108 x109 x110 x111 x112 x113 x114 x115 x116 x117 x118 x119 x120 x121 x122 x123 x124 x125 x126 x127 ao cap L (pj d (hs (dv d L))[k]) w0 wr (hs (dv d L)) _ (mrT n (dv d L) ((hs (dv d L))[k])) _ _ u9 u10 k hlt HHl.out (dirF smD n (sub ((hs (dv d L))[k]) (dv d L))).1 HI.out hL hok.1 _ _ rfl hDm hT1 hkx (by omega) hnd Q0 ?_
        intro u9 u10 u13 u14 u15 u16 u17 u18 u63 u64 u65 u66 u67 u68 u69 u70 u71 u72 u73 u74 u75 u76 u77 u78 u79 u80 u81 u82 u83 u84 u85 u86 u87 u88 u89 u90 u91 u92 u93 u94 u95 u96 u97 u98 u99 u100 u101 u102 u103 u104 u105 u106 u107 u108 u109 u110 u111 u112 u113 u114 u115 u116 u117 u118 u119 u120 u121 u122 u123 u124 w' H
        refine hexit u9 u10 u13 u14 u15 u16 u17 u18 u63 u64 u65 u66 u67 u68 u69 u70 u71 u72 u73 u74 u75 u76 u77 u78 u79 u80 u81 u82 u83 u84 u85 u86 u87 u88 u89 u90 u91 u92 u93 u94 u95 u96 u97 u98 u99 u100 u101 u102 u103 u104 u105 u106 u107 u108 u109 u110 u111 u112 u113 u114 u115 u116 u117 u118 u119 u120 u121 u122 u123 u124 w' ?_
        have e1 : ((hs (dv d L)).take (k + 1)).map (ndD n L d) = ((hs (dv d L)).take k).map (ndD n L d) ++ [ndD n L d ((hs (dv d L))[k])] := by
          rw [List.take_succ_eq_append_getElem hlt, List.map_append]
          rfl
        have e2 : ((hs (dv d L)).take (k + 1)).flatMap (adD n L d) = ((hs (dv d L)).take k).flatMap (adD n L d) ++ adD n L d ((hs (dv d L))[k]) := by
          rw [List.take_succ_eq_append_getElem hlt, List.flatMap_append]
          simp
        show DrS _ _ _ _ _ _ _ _
        rw [e1, e2]
        exact H.out
      clear hlB hYB hA1 hM1 hnd hT1 hkx hDm hL hok hS hz hn hmem hk1 HD HI hml
      by_cases hd0 : d.data.toList = []
      · obtain rfl : d = ⟨#[]⟩ := bytes_ext hd0
        have epj : pj ⟨#[]⟩ (hs (dv ⟨#[]⟩ L))[k] = ⟨((hs (dv ⟨#[]⟩ L))[k]).toArray⟩ := if_pos rfl
        rw [epj] at HB
        generalize (⟨((hs (dv ⟨#[]⟩ L))[k]).toArray⟩ : ByteArray) = nm at *
        clear hd0 epj hk hlt
        go_wp2
        refine HB.out _ _ _ _ _ _ _ _ _ _ _ _ _ _ _ _ _ _ _ _ _ _ _ _ _ _ _ _ _ _ _ _ _ _ _ _ _ _ _ _ _ _ _ _ _ _ _ _ _ _ _ _ _ _ _ _ _ _ _ _ _ _ _ _ _ _ _ _ _ _ _ _ _ _ _ _ _ _ _ _ _ _ _ _ _ _ _ _ _ _ _ _ _ _ _ _ _ _ _ _ _ _ _ _ _ _ _ _ _ _ _ _ _ _ _ _ _ _ _ _ _ _ _ ?_
        intro u9 u10 u13 u14 u15 u16 u17 u18 u63 u64 u65 u66 u67 u68 u69 u70 u71 u72 u73 u74 u75 u76 u77 u78 u79 u80 u81 u82 u83 u84 u85 u86 u87 u88 u89 u90 u91 u92 u93 u94 u95 u96 u97 u98 u99 u100 u101 u102 u103 u104 u105 u106 u107 u108 u109 u110 u111 u112 u113 u114 u115 u116 u117 u118 u119 u120 u121 u122 u123 u124 w2 H2
        go_wp2
        refine ⟨⟨k1, by have := HK1.out; omega, rfl, by rw [HK1.out.1]; exact H2⟩, ?_⟩
        have := HK1.out
        simp [RowKit.intOf]; omega
      · have epj := pj_add d (hs (dv d L))[k] hd0
        rw [← epj] at HB
        have hdn : (d.toList == []) = false := by rw [Lib.toList_data]; simpa using hd0
        have hde : ¬ d.toList = [] := by rw [Lib.toList_data]; exact hd0
        generalize (⟨((hs (dv d L))[k]).toArray⟩ : ByteArray) = nm at *
        clear hd0 epj hk hlt
        go_wp2
        refine HB.out _ _ _ _ _ _ _ _ _ _ _ _ _ _ _ _ _ _ _ _ _ _ _ _ _ _ _ _ _ _ _ _ _ _ _ _ _ _ _ _ _ _ _ _ _ _ _ _ _ _ _ _ _ _ _ _ _ _ _ _ _ _ _ _ _ _ _ _ _ _ _ _ _ _ _ _ _ _ _ _ _ _ _ _ _ _ _ _ _ _ _ _ _ _ _ _ _ _ _ _ _ _ _ _ _ _ _ _ _ _ _ _ _ _ _ _ _ _ _ _ _ _ _ ?_
        intro u9 u10 u13 u14 u15 u16 u17 u18 u63 u64 u65 u66 u67 u68 u69 u70 u71 u72 u73 u74 u75 u76 u77 u78 u79 u80 u81 u82 u83 u84 u85 u86 u87 u88 u89 u90 u91 u92 u93 u94 u95 u96 u97 u98 u99 u100 u101 u102 u103 u104 u105 u106 u107 u108 u109 u110 u111 u112 u113 u114 u115 u116 u117 u118 u119 u120 u121 u122 u123 u124 w2 H2
        go_wp2
        refine ⟨⟨k1, by have := HK1.out; omega, rfl, by rw [HK1.out.1]; exact H2⟩, ?_⟩
        have := HK1.out
        simp [RowKit.intOf]; omega
    · obtain rfl : k = (hs (dv d L)).length := by omega
      have k2 : ¬ ((hs (dv d L)).length : Int) < ((hs (dv d L)).length : Int) := by omega
      clear hk hlt
      go_wp2
      exact HX.out _ _ _ _ _ _ _ _ _ _ _ _ _ _ _ _ _ _ _ _ _ _ _ _ _ _ _ _ _ _ _ _ _ _ _ _ _ _ _ _ _ _ _ _ _ _ _ _ _ _ _ _ _ _ _ _ _ _ _ _ _ _ _ _ _ _ _ _ _ _ _ _ _ _ _ _ _ _ _ _ _ _ _ _ _ _ _ _ _ HI
end Go.Proofs.YtefdfcjohkndgaaGreatDoor

/- The document's Directory, TreeRoot and TreeBlobs. -/
namespace Go.Proofs.YtefdfcjohkndgaaGreatDoor
open Go.RowKit Go.Shelf Go.Maps Go.WideMaps Go.Sort
attribute [local go_sem ↓] appS_eq

theorem PackNodes_row {B : Nat} {ns : List Nd} {v : Value} {w : World} (h : w.ownsRow B 79 3 v ns.length (ndCells ns)) (hok : okDs ns) :
    Calls Tryz.prog 74 #[v] w fun e w' => e = .returned (.string ⟨(pk ns.length ++ pkDD ns).toArray⟩) ∧ Below w.heap.size w w' := by
  rcases Nat.eq_zero_or_pos ns.length with h0 | h0
  · obtain ⟨a, c, rfl⟩ := own_shape h
    obtain rfl := List.length_eq_zero_iff.1 h0
    exact packnodes_zero a c w
  · obtain ⟨g, c, rfl, _, hlt⟩ := h.form h0
    refine packnodes_some w.heap.size g 0 c ns w hok hlt (Nat.le_refl _) fun j hj => ?_
    obtain ⟨k1, k2, k3⟩ := ndCells_get ns j hj
    rw [Nat.zero_add]
    exact ⟨(h.cellAt _ (by omega)).trans k1, (h.cellAt _ (by omega)).trans k2, (h.cellAt _ (by omega)).trans k3⟩
theorem ndD_ok (n : Nat) {L : List Fl} (d : ByteArray) (hL : okT L) (hS : okT (dv d L)) : okDs ((hs (dv d L)).map (ndD n L d)) := by
  refine ⟨by rw [List.length_map]; exact Nat.le_trans (hs_len _) hS.1, fun x hx => ?_⟩
  obtain ⟨m, hm, rfl⟩ := List.mem_map.1 hx
  have h1 := hs_size hS hm
  have h2 : (ndD n L d m).1.size = m.length := rfl
  have h3 : (ndD n L d m).2.2.size = 64 := smD_size _
  have h4 : 0 ≤ (ndD n L d m).2.1 ∧ (ndD n L d m).2.1 ≤ 3 := by
    show 0 ≤ (ktF L (pj d m).data.toList).1 ∧ (ktF L (pj d m).data.toList).1 ≤ 3
    rcases hs_cases d hL hS hm with ⟨f, _, _, _, e⟩ | ⟨_, e⟩
    · rw [e]
      unfold kdF
      simp only
      split <;> decide
    · rw [e]
      decide
  exact ⟨by omega, h4.1, h4.2, by omega⟩

/-- How a directory is answered. -/
def DrP (T : ByteArray) (M : List (List UInt8)) (w : World) (e : Ending) (w' : World) : Prop := ∃ tv, e = .returned (.tuple #[.string T, tv]) ∧ RowT w.heap.size M tv w' ∧ Below w.heap.size w w'

set_option maxHeartbeats 16000000 in
set_option maxRecDepth 100000 in
theorem Directory_one (n : Nat) (hn : n ≤ 100) (ao : Option Addr) (cap : Nat) (L : List Fl) (d : ByteArray) (w : World) (hL : IsFl w ao L) (hok : okT L) (hS : okT (dv d L)) (hz : ∀ f ∈ dv d L, f.pa.size < n + 1) (hd : d.size ≤ 100)
    (hD : ∀ m ∈ names (dv d L), ∀ W, Below w.heap.size w W → Calls Tryz.prog 36 #[.slice ao L.length cap, .string (pj d m)] W (DjP (dirF smD n (sub m (dv d L))).1 (mrT n (dv d L) m) W)) :
    Calls Tryz.prog 36 #[.slice ao L.length cap, .string d] w (DrP (dirF smD (n + 1) (dv d L)).1 (addAll (bL (inT n (dv d L)))) w) := by
  have HH : Hid (IsFl w ao L ∧ okT L ∧ okT (dv d L) ∧ (∀ f ∈ dv d L, f.pa.size < n + 1) ∧ d.size ≤ 100 ∧ n ≤ 100 ∧ ∀ m ∈ names (dv d L), ∀ W, Below w.heap.size w W → Calls Tryz.prog 36 #[.slice ao L.length cap, .string (pj d m)] W (DjP (dirF smD n (sub m (dv d L))).1 (mrT n (dv d L) m) W)) := ⟨hL, hok, hS, hz, hd, hn, hD⟩
  obtain ⟨YN, hYN⟩ : ∃ YN, YN = (subC [true, true, false, true, false] (Tryz.f36.body.getD .skip)) := ⟨_, rfl⟩
  have HYN : Hid (YN = (subC [true, true, false, true, false] (Tryz.f36.body.getD .skip))) := hYN
  have hlN : (subC [true, true, false, true, false] (Tryz.f36.body.getD .skip)) = YN := hYN.symm
  obtain ⟨YM, hYM⟩ : ∃ YM, YM = (subC [true, true, true, true, true, false, true, false] (Tryz.f36.body.getD .skip)) := ⟨_, rfl⟩
  have HYM : Hid (YM = (subC [true, true, true, true, true, false, true, false] (Tryz.f36.body.getD .skip))) := hYM
  have hlM : (subC [true, true, true, true, true, false, true, false] (Tryz.f36.body.getD .skip)) = YM := hYM.symm
  conv at hlN => lhs; whnf
  conv at hlM => lhs; whnf
  clear hL hok hS hz hd hn hD hYN hYM
  go_enter Tryz.func36, Tryz.ntmps36
  rw [hlN, hlM]
  clear hlN hlM
  go_wp2
  rw [HYN.out]
  refine namesL _ _ _ _ _ _ _ _ _ _ _ _ _ _ _ _ _ _ _ _ _ _ _ _ _ _ _ _ _ _ _ _ _ _ _ _ _ _ _ _ _ _ _ _ _ _ _ _ _ _ _ _ _ _ _ _ _ _ _ _ _ _ _ _ _ _ _ _ _ _ _ _ _ _ _ _ _ _ _ _ _ _ _ _ _ _ _ _ _ _ _ _ _ _ _ _ _ _ _ _ _ _ _ _ _ _ _ _ _ _ _ _ _ _ _ _ _ _ _ _ _ _ _ _ ao cap L d w HH.out.1 HH.out.2.1 (by have := HH.out.2.2.2.2.1; omega) _ ?_
  intro u6 u7 u8 u19 u20 u21 u22 u23 u24 u25 u26 u27 u28 u29 u30 u31 u32 u33 u34 u35 u36 u37 u38 u39 u40 u41 u42 u43 u44 u45 u46 w1 H1
  unfold NmI at H1
  rw [List.take_length] at H1
  clear HYN
  go_wp2
  rw [HYM.out]
  refine mainL _ _ _ _ _ _ _ _ _ _ _ _ _ _ _ _ _ _ _ _ _ _ _ _ _ _ _ _ _ _ _ _ _ _ _ _ _ _ _ _ _ _ _ _ _ _ _ _ _ _ _ _ _ _ _ _ _ _ _ _ _ _ _ _ _ _ _ _ _ _ _ _ _ _ _ _ _ _ _ _ _ _ _ _ _ _ _ _ _ _ _ _ _ _ _ _ _ _ _ _ _ _ _ _ _ _ _ _ _ _ _ _ _ _ _ _ _ _ _ _ _ _ n HH.out.2.2.2.2.2.1 ao cap L d w w1 u6 HH.out.1 HH.out.2.1 HH.out.2.2.1 HH.out.2.2.2.1 HH.out.2.2.2.2.1 ?_ HH.out.2.2.2.2.2.2 _ ?_
  · exact ⟨H1.out.1.own, World.ownsRow_nil _ _ _ _, RowT.start H1.out.2.size, fun b hb => by simp [Value.ownBlock] at hb, fun b hb => by simp [Value.ownBlock] at hb, H1.out.2⟩
  intro u9 u10 u11 u12 u13 u14 u15 u16 u17 u18 u47 u48 u49 u50 u51 u52 u53 u54 u55 u56 u57 u58 u59 u60 u61 u62 u63 u64 u65 u66 u67 u68 u69 u70 u71 u72 u73 u74 u75 u76 u77 u78 u79 u80 u81 u82 u83 u84 u85 u86 u87 u88 u89 u90 u91 u92 u93 u94 u95 u96 u97 u98 u99 u100 u101 u102 u103 u104 u105 u106 u107 u108 u109 u110 u111 u112 u113 u114 u115 u116 u117 u118 u119 u120 u121 u122 u123 u124 w2 H2
  clear HYM
  unfold DmI at H2
  rw [List.take_length] at H2
  have HP : Hid (Calls Tryz.prog 74 #[u9] w2 fun e w' => e = .returned (.string (dirF smD (n + 1) (dv d L)).1) ∧ Below w2.heap.size w2 w') := by
    have h1 := PackNodes_row H2.out.nodes (ndD_ok n d HH.out.2.1 HH.out.2.2.1)
    rw [ndD_sorted n d HH.out.2.1 HH.out.2.2.1] at h1
    exact h1
  have HR : Hid (RowT w.heap.size (addAll (bL (inT n (dv d L)))) u10 w2 ∧ Below w.heap.size w w2) := by
    have h1 := H2.out.texts
    rw [ad_all n d HH.out.2.1 HH.out.2.2.1 HH.out.2.2.2.1] at h1
    exact ⟨h1, H2.out.bel⟩
  generalize (dirF smD (n + 1) (dv d L)).1 = T9 at *
  clear H2 H1 HH
  go_wp2_with fail
  refine HP.out.mono ?_
  rintro e w3 ⟨rfl, hb3⟩
  have HE : Hid (RowT w.heap.size (addAll (bL (inT n (dv d L)))) u10 w3 ∧ Below w.heap.size w w3) := ⟨HR.out.1.up hb3, HR.out.2.trans (hb3.mono HR.out.2.size)⟩
  clear hb3 HR HP
  go_wp2
  refine bodyPost_ret (v := .tuple #[.string T9, u10]) (by simp [results, Tryz.results36, go_sem]) rfl ?_
  exact ⟨u10, rfl, HE.out⟩
theorem Directory_any (ao : Option Addr) (cap : Nat) (L : List Fl) (hok : okT L) : ∀ n, n ≤ 100 → ∀ (d : ByteArray) (w : World), IsFl w ao L → okT (dv d L) → (∀ f ∈ dv d L, f.pa.size < n + 1) → d.size ≤ 100 →
    Calls Tryz.prog 36 #[.slice ao L.length cap, .string d] w (DrP (dirF smD (n + 1) (dv d L)).1 (addAll (bL (inT n (dv d L)))) w) := by
  intro n
  induction n with
  | zero =>
    intro hn d w hL hS hz hd
    refine Directory_one 0 hn ao cap L d w hL hok hS hz hd fun m hm => ?_
    exact absurd (names_ne hm hz) (by omega)
  | succ n ih =>
    intro hn d w hL hS hz hd
    refine Directory_one (n + 1) hn ao cap L d w hL hok hS hz hd fun m hm W hW => ?_
    have hm2 := name_in hm
    have e := dv_sub d L m (hs_slash hm2) (hs_ne hS hm2)
    have h1 := ih (by omega) (pj d m) W (hL.below hW (Nat.le_refl _)) (by rw [e]; exact okT_sub hS m) (by rw [e]; exact sub_less hz m) (dir_small hok d hS hm)
    rw [e] at h1
    refine h1.mono ?_
    rintro e w' ⟨tv, rfl, hr, hb⟩
    obtain ⟨a, c, rfl⟩ := own_shape hr.own
    exact ⟨a, c, rfl, hr.own, hb⟩
theorem inT_whole (L : List Fl) : (pkT1 L).2 = inT 100 L ++ [(pkT1 L).1] := dirF_in 100 L
theorem Directory_whole (ao : Option Addr) (cap : Nat) (L : List Fl) (w : World) (hok : okT L) (hL : IsFl w ao L) :
    Calls Tryz.prog 36 #[.slice ao L.length cap, .string ⟨#[]⟩] w (DrP (pkT1 L).1 (addAll (bL (inT 100 L))) w) := by
  have h := Directory_any ao cap L hok 100 (Nat.le_refl _) ⟨#[]⟩ w hL (by rw [dv_none]; exact hok) (by rw [dv_none]; intro f hf; have := fl_le hok hf; omega) (by decide)
  rw [dv_none] at h
  exact h
/-- The document's blobs are the program's. -/
theorem blF_doc (L : List Fl) : insN (pkT1 L).1.data.toList (addAll (bL (inT 100 L))) = blF L := by
  rw [← addAll_snoc]
  unfold blF
  refine rise_uniq (addAll_up _) (compact_up _ ?_) fun x => ?_
  · have := List.pairwise_mergeSort (le := fun x y : List UInt8 => decide (x ≤ y)) (fun a b c h1 h2 => by rw [decide_eq_true_eq] at *; exact List.le_trans h1 h2) (fun a b => by rw [Bool.or_eq_true, decide_eq_true_eq, decide_eq_true_eq]; exact List.le_total _ _) ((pkT1 L).2.map fun b => b.data.toList)
    exact this.imp fun h => by simpa using h
  · rw [addAll_mem, mem_compact, List.mem_mergeSort, inT_whole, List.map_append]
    rfl

set_option maxHeartbeats 4000000 in
set_option maxRecDepth 100000 in
theorem TreeRoot_any (ao : Option Addr) (cap : Nat) (L : List Fl) (w : World) (hok : okT L) (hL : IsFl w ao L) :
    Calls Tryz.prog 15 #[.slice ao L.length cap] w fun e w' => e = .returned (.string (smD (pkT1 L).1)) ∧ Below w.heap.size w w' := by
  have HD : Hid (Calls Tryz.prog 36 #[.slice ao L.length cap, .string ⟨#[]⟩] w (DrP (pkT1 L).1 (addAll (bL (inT 100 L))) w)) := Directory_whole ao cap L w hok hL
  have HS : Hid (∀ W, Calls Tryz.prog 33 #[.string (pkT1 L).1] W fun e w' => e = .returned (.string (smD (pkT1 L).1)) ∧ Below W.heap.size W w') := fun W => RSm_any _ W (by have := pkT1_size hok; omega)
  generalize smD (pkT1 L).1 = r9 at *
  generalize (pkT1 L).1 = t9 at *
  clear hok hL
  go_enter Tryz.func15, Tryz.ntmps15
  go_wp2_with fail
  refine HD.out.mono ?_
  rintro e w1 ⟨tv, rfl, _, hb1⟩
  have HB1 : Hid (Below w.heap.size w w1) := hb1
  clear hb1
  go_wp2_with fail
  refine (HS.out _).mono ?_
  rintro e w2 ⟨rfl, hb2⟩
  have HB2 : Hid (Below w.heap.size w w2) := HB1.out.trans (hb2.mono HB1.out.size)
  clear hb2
  go_wp2
  go_ret
  exact ⟨rfl, HB2.out⟩

set_option maxHeartbeats 4000000 in
set_option maxRecDepth 100000 in
theorem TreeBlobs_any (ao : Option Addr) (cap : Nat) (L : List Fl) (w : World) (hok : okT L) (hL : IsFl w ao L) :
    Calls Tryz.prog 17 #[.slice ao L.length cap] w fun e w' => ∃ a c, e = .returned (.slice a (blF L).length c) ∧ w'.ownsRow w.heap.size 9 1 (.slice a (blF L).length c) (blF L).length ((blF L).map encStr) ∧ Below w.heap.size w w' := by
  have HD : Hid (Calls Tryz.prog 36 #[.slice ao L.length cap, .string ⟨#[]⟩] w (DrP (pkT1 L).1 (addAll (bL (inT 100 L))) w)) := Directory_whole ao cap L w hok hL
  have HAd : Hid (∀ (tv : Value) (W : World), RowT w.heap.size (addAll (bL (inT 100 L))) tv W → Calls Tryz.prog 37 #[tv, .string (pkT1 L).1] W fun e w' => ∃ a c, e = .returned (.slice a (blF L).length c) ∧ w'.ownsRow w.heap.size 9 1 (.slice a (blF L).length c) (blF L).length ((blF L).map encStr) ∧ Below W.heap.size W w') := fun tv W h => by
    have hl : (addAll (bL (inT 100 L))).length ≤ 1000000 := by
      have h1 := addAll_len (bL (inT 100 L))
      unfold bL at h1
      rw [List.length_map] at h1
      have h2 := inT_len 100 hok (by decide)
      exact Nat.le_trans h1 (Nat.le_trans h2 (by decide))
    refine (h.add (pkT1 L).1 hl).mono ?_
    rintro e w' ⟨v', rfl, hr, hb, _⟩
    rw [blF_doc] at hr
    obtain ⟨a, c, rfl⟩ := own_shape hr.own
    exact ⟨a, c, rfl, hr.own, hb⟩
  generalize (pkT1 L).1 = t9 at *
  clear hok hL
  go_enter Tryz.func17, Tryz.ntmps17
  go_wp2_with fail
  refine HD.out.mono ?_
  rintro e w1 ⟨tv, rfl, hr1, hb1⟩
  have HB1 : Hid (Below w.heap.size w w1 ∧ RowT w.heap.size (addAll (bL (inT 100 L))) tv w1) := ⟨hb1, hr1⟩
  clear hb1 hr1
  go_wp2_with fail
  refine (HAd.out _ _ HB1.out.2).mono ?_
  rintro e w2 ⟨a, c, rfl, hr2, hb2⟩
  have HB2 : Hid (w2.ownsRow w.heap.size 9 1 (.slice a (blF L).length c) (blF L).length ((blF L).map encStr) ∧ Below w.heap.size w w2) := ⟨hr2, HB1.out.1.trans (hb2.mono HB1.out.1.size)⟩
  clear hb2 hr2
  go_wp2
  go_ret
  exact ⟨a, c, rfl, HB2.out⟩
end Go.Proofs.YtefdfcjohkndgaaGreatDoor

/- The document's Clash, for trees: where it says no, no two of the texts have one digest. -/
namespace Go.Proofs.YtefdfcjohkndgaaGreatDoor
open Go.RowKit Go.Shelf

/-- These texts lie in block g, from o on. -/
def Row (w : World) (g o : Nat) (ss : List ByteArray) : Prop := ∀ j (hj : j < ss.length), w.cell? ⟨g, o + j, none⟩ = some (.string ss[j])
theorem Row.up {w w' : World} {g o : Nat} {ss : List ByteArray} (h : Row w g o ss) (hb : Below w.heap.size w w') (hg : g < w.heap.size) : Row w' g o ss := fun j hj => (hb.cell (p := ⟨g, o + j, none⟩) hg).trans (h j hj)
/-- A slice of these texts. -/
def Tx (w : World) (v : Value) (ss : List ByteArray) : Prop :=
  ss.length ≤ 4611686018427387904 ∧ ((ss = [] ∧ ∃ a cap, v = .slice a 0 cap) ∨ (0 < ss.length ∧ ∃ g o cap, v = .slice (some ⟨g, o, none⟩) ss.length cap ∧ ss.length ≤ cap ∧ Row w g o ss))
theorem Tx.up {w w' : World} {v : Value} {ss : List ByteArray} (h : Tx w v ss) (hb : Below w.heap.size w w') : Tx w' v ss := by
  refine ⟨h.1, ?_⟩
  rcases h.2 with h1 | ⟨h0, g, o, cap, hv, hc, hr⟩
  · exact Or.inl h1
  · exact Or.inr ⟨h0, g, o, cap, hv, hc, hr.up hb (World.block_lt_of_cell? w ⟨g, o + 0, none⟩ (hr 0 h0))⟩
theorem Tx.shape {w : World} {v : Value} {ss : List ByteArray} (h : Tx w v ss) : ∃ a cap, v = .slice a ss.length cap := by
  rcases h.2 with ⟨rfl, a, cap, hv⟩ | ⟨_, g, o, cap, hv, _⟩
  · exact ⟨a, cap, hv⟩
  · exact ⟨_, cap, hv⟩
def scs (l : List ByteArray) : List Value := l.map Value.string
theorem scs_get (l : List ByteArray) (j : Nat) (hj : j < l.length) : (scs l)[j]? = some (.string l[j]) := by simp [scs, hj]
theorem own_below {w w' : World} {base : Nat} {e : TypeId} {size : Nat} {v : Value} {n : Nat} {xs : List Value} (h : w.ownsRow base e size v n xs) (hb : Below w.heap.size w w') : w'.ownsRow base e size v n xs := by
  refine ⟨h.1, ?_⟩
  rcases h.2 with hn | ⟨g, cap, cur, rfl, hg, hgg, rest⟩
  · exact .inl hn
  · exact .inr ⟨g, cap, cur, rfl, hg, (hb.block g (Array.getElem?_eq_some_iff.1 hgg).1).trans hgg, rest⟩
theorem new_one (W : World) (x : ByteArray) : ∀ (j : Nat) (u : Value), [Value.string x][j]? = some u → (W.alloc (.cells #[.string x] 9)).cell? ((⟨W.heap.size, 0, none⟩ : Addr).add j) = some u := by
  intro j u hj
  match j, hj with
  | 0, hj =>
    simp at hj
    subst hj
    exact al_at W _ _ _ 0 _ rfl rfl
theorem scs_snoc (l : List ByteArray) (x : ByteArray) : scs (l ++ [x]) = scs l ++ [.string x] := by simp [scs]
theorem row_of_own {w : World} {B g cap n : Nat} {xs : List ByteArray} (h : w.ownsRow B 9 1 (.slice (some ⟨g, 0, none⟩) n cap) n (scs xs)) (hn : xs.length = n) : Row w g 0 xs := fun j hj => by
  rw [Nat.zero_add]
  exact (h.cellAt j (by omega)).trans (scs_get xs j hj)
/-- A row that is one's own is a slice that is read. -/
theorem tx_own {w : World} {B : Nat} {v : Value} {xs : List ByteArray} (hx : xs.length ≤ 4611686018427387904) (h : w.ownsRow B 9 1 v xs.length (scs xs)) : Tx w v xs := by
  rcases h.2 with ⟨rfl, h0⟩ | ⟨g, cap, cur, rfl, hb, hg, hc, _⟩
  · have : xs = [] := List.length_eq_zero_iff.1 h0
    subst this
    exact ⟨by decide, Or.inl ⟨rfl, none, 0, rfl⟩⟩
  · refine ⟨hx, ?_⟩
    by_cases h0 : xs.length = 0
    · have : xs = [] := List.length_eq_zero_iff.1 h0
      subst this
      exact Or.inl ⟨rfl, _, cap, rfl⟩
    · exact Or.inr ⟨by omega, g, 0, cap, rfl, hc, row_of_own h rfl⟩
theorem b_ext {a b : ByteArray} (h : a.toList = b.toList) : a = b := toL_inj h

set_option maxHeartbeats 2000000 in
theorem HasText_any (v : Value) (xs : List ByteArray) (s : ByteArray) (w : World) (h : Tx w v xs) (b : Bool) (hb : b = true ↔ s ∈ xs) :
    Calls Tryz.prog 32 #[v, .string s] w fun e w' => e = .returned (.bool b) ∧ w' = w := by
  have hn1 : (xs.length : Int) ≤ 4611686018427387904 := by have := h.1; omega
  have HB : Hid (b = true ↔ s ∈ xs) := hb
  rcases h.2 with ⟨rfl, a, cap, rfl⟩ | ⟨h0, g, o, cap, rfl, hc, hrow⟩
  · have hbf : b = false := by
      cases b with
      | false => rfl
      | true => exact absurd (hb.1 rfl) (by simp)
    subst hbf
    clear h hb HB
    go_enter Tryz.func32, Tryz.ntmps32
    go_wp2
    refine wp_loop_rounds 1 ?_
    rw [rounds_succ]
    go_wp2
    go_ret
    exact ⟨rfl, rfl⟩
  · have HC : Hid (Row w g o xs) := hrow
    clear h hrow hb
    go_enter Tryz.func32, Tryz.ntmps32
    go_wp2
    go_loop [5] (fun i => ∃ k : Nat, k ≤ xs.length ∧ i = .int .i64 k ∧ Hid (s ∉ xs.take k)) (fun i => xs.length - (intOf i).toNat)
    case atStart => exact ⟨0, Nat.zero_le _, rfl, by show _ ∉ _; simp⟩
    case round =>
      obtain ⟨k, hk, rfl, HK⟩ := hrel
      by_cases hlt : k < xs.length
      · have c1 := HC.out k hlt
        by_cases he : xs[k] = s
        · have hq : (xs[k].toList == s.toList) = true := by rw [he]; simp
          have hbt : b = true := HB.out.2 (by rw [← he]; exact List.getElem_mem hlt)
          subst hbt
          clear he HB
          generalize xs[k] = x at c1 hq
          go_wp2
          go_ret
          exact ⟨rfl, rfl⟩
        · have hq : (xs[k].toList == s.toList) = false := by
            rw [beq_eq_false_iff_ne]
            exact fun h => he (b_ext h)
          have HN : Hid (s ∉ xs.take (k + 1)) := by
            show _ ∉ _
            rw [List.take_succ_eq_append_getElem hlt, List.mem_append]
            rintro (h | h)
            · exact HK.out h
            · simp at h; exact he h.symm
          clear he
          generalize xs[k] = x at c1 hq
          go_wp2
          refine ⟨⟨k + 1, by omega, by go_num, HN⟩, by simp [intOf]; omega⟩
      · obtain rfl : k = xs.length := by omega
        have hbf : b = false := by
          cases b with
          | false => rfl
          | true =>
            have := HK.out
            rw [List.take_length] at this
            exact absurd (HB.out.1 rfl) this
        subst hbf
        clear HB
        go_wp2
        go_ret
        exact ⟨rfl, rfl⟩

theorem own_grown {w w' : World} {base : Nat} {e : TypeId} {size : Nat} {v : Value} {n : Nat} {xs : List Value} {row : Option Nat} (h : w.ownsRow base e size v n xs) (hg : w.grownBy w' row) (hne : ∀ k, v.ownBlock = some k → row ≠ some k) : w'.ownsRow base e size v n xs := by
  refine ⟨h.1, ?_⟩
  rcases h.2 with hn | ⟨g, cap, cur, rfl, hb, hgg, rest⟩
  · exact .inl hn
  · exact .inr ⟨g, cap, cur, rfl, hb, (hg.block g (Array.getElem?_eq_some_iff.1 hgg).1 (fun e => hne g rfl e.symm)).trans hgg, rest⟩
def InjL (L : List ByteArray) : Prop := ∀ x y, x ∈ L → y ∈ L → smD x = smD y → x = y
theorem inj_snoc {T : List ByteArray} {x : ByteArray} (h : InjL T) (hx : smD x ∉ T.map smD) : InjL (T ++ [x]) := by
  intro a b ha hb he
  rcases List.mem_append.1 ha with h1 | h1
  · rcases List.mem_append.1 hb with h2 | h2
    · exact h a b h1 h2 he
    · simp at h2; subst h2; exact absurd (List.mem_map.2 ⟨a, h1, he⟩) hx
  · rcases List.mem_append.1 hb with h2 | h2
    · simp at h1; subst h1; exact absurd (List.mem_map.2 ⟨b, h2, he.symm⟩) hx
    · simp at h1 h2; rw [h1, h2]
/-- The texts met so far, and their digests. -/
structure ClI (w wr : World) (tv dv : Value) (T seen : List ByteArray) : Prop where
  ot : wr.ownsRow w.heap.size 9 1 tv T.length (scs T)
  od : wr.ownsRow w.heap.size 9 1 dv T.length (scs (T.map smD))
  ne : ∀ a, tv.ownBlock = some a → dv.ownBlock ≠ some a
  bl : Below w.heap.size w wr
  inj : InjL T
  all : ∀ x ∈ seen, x ∈ T
  le : T.length ≤ seen.length
theorem tx_own' {w : World} {B : Nat} {v : Value} {xs : List ByteArray} {n : Nat} (hx : xs.length ≤ 4611686018427387904) (hn : xs.length = n) (h : w.ownsRow B 9 1 v n (scs xs)) : Tx w v xs := by
  subst hn
  exact tx_own hx h

set_option maxHeartbeats 8000000 in
set_option maxRecDepth 100000 in
theorem Clash_any (gl ol cap : Nat) (ls : List (List ByteArray)) (w : World) (hl : ls.length ≤ 1000) (htot : ls.flatten.length ≤ 100000000) (hsz : ∀ l ∈ ls, ∀ s ∈ l, s.size ≤ 140737488351300)
    (hcell : ∀ j (hj : j < ls.length), ∃ u, w.cell? ⟨gl, ol + j, none⟩ = some u ∧ Tx w u ls[j]) :
    Calls Tryz.prog 11 #[.slice (some ⟨gl, ol, none⟩) ls.length cap] w fun e w' => ∃ b, e = .returned (.bool b) ∧ (b = false → InjL ls.flatten) ∧ Below w.heap.size w w' := by
  obtain ⟨i0, hi0, hz0, hz1, hz2⟩ := info_p infS
  have HC : Hid (∀ j (hj : j < ls.length), ∃ u, w.cell? ⟨gl, ol + j, none⟩ = some u ∧ Tx w u ls[j]) := hcell
  have HZ : Hid (∀ l ∈ ls, ∀ s ∈ l, s.size ≤ 140737488351300) := hsz
  have HT : Hid (ls.flatten.length ≤ 100000000) := htot
  have hli : (ls.length : Int) ≤ 1000 := by omega
  clear hcell hsz htot
  go_enter Tryz.func11, Tryz.ntmps11
  go_wp2
  go_loopw [3, 4, 5] (fun tv dv i wr => ∃ (j : Nat) (T : List ByteArray), j ≤ ls.length ∧ i = .int .i64 j ∧ Hid (ClI w wr tv dv T (ls.take j).flatten)) (fun _ _ i _ => ls.length - (intOf i).toNat)
  case atStart => exact ⟨0, [], by omega, rfl, ⟨World.ownsRow_nil _ _ _ _, World.ownsRow_nil _ _ _ _, fun a ha => (by simp [Value.ownBlock] at ha), Below.refl _ _, fun x y hx => (by cases hx), fun x hx => (by simp at hx), (by simp)⟩⟩
  case round =>
    obtain ⟨j, T, hj, rfl, HI⟩ := hrel
    by_cases hlt : j < ls.length
    · have hji : (j : Int) < (ls.length : Int) := by omega
      obtain ⟨u, hcu, htu⟩ := HC.out j hlt
      have hglt : gl < w.heap.size := World.block_lt_of_cell? w ⟨gl, ol + j, none⟩ hcu
      have HU : Hid (∀ Y, Below w.heap.size w Y → Y.cell? ⟨gl, ol + j, none⟩ = some u ∧ Tx Y u ls[j]) := fun Y hY => ⟨(hY.cell (p := ⟨gl, ol + j, none⟩) hglt).trans hcu, htu.up hY⟩
      have hul : ls[j].length ≤ 4611686018427387904 := htu.1
      have hui : (ls[j].length : Int) ≤ 4611686018427387904 := by omega
      have HTX : Hid (Tx w u ls[j]) := htu
      obtain ⟨ua, ucap, hu⟩ := htu.shape
      have HFL : Hid ((ls.take (j + 1)).flatten = (ls.take j).flatten ++ ls[j]) := by
        show _ = _
        rw [List.take_succ_eq_append_getElem hlt, List.flatten_append]
        simp
      have HSL : Hid (∀ s ∈ ls[j], s.size ≤ 140737488351300) := HZ.out _ (List.getElem_mem hlt)
      have HLE : Hid ((ls.take j).flatten.length + ls[j].length ≤ 100000000) := by
        have h1 := HT.out
        have h2 : ls.flatten = (ls.take (j + 1)).flatten ++ (ls.drop (j + 1)).flatten := by rw [← List.flatten_append, List.take_append_drop]
        rw [h2, List.length_append, HFL.out, List.length_append] at h1
        show _ ≤ _
        omega
      generalize (ls.take j).flatten = seen at HI HFL HLE
      generalize ls[j] = row at *
      clear hcu htu
      go_wp2
      go_loopw [3, 4, 6] (fun tv dv k wr => ∃ (m : Nat) (T : List ByteArray), m ≤ row.length ∧ k = .int .i64 m ∧ Hid (ClI w wr tv dv T (seen ++ row.take m))) (fun _ _ k _ => row.length - (intOf k).toNat)
      case atStart => exact ⟨0, T, by omega, rfl, by rw [List.take_zero, List.append_nil]; exact HI⟩
      case round =>
        clear HI
        obtain ⟨m, T, hm, rfl, HI⟩ := hrel
        have cu := (HU.out _ HI.out.bl).1
        by_cases hmt : m < row.length
        · have hmi : (m : Int) < (row.length : Int) := by omega
          have hmz : m ≤ 100000000 := by have := HLE.out; omega
          have HTl : Hid (T.length ≤ 100000000) := by
            have h1 := HI.out.le
            have h2 := HLE.out
            rw [List.length_append, List.length_take] at h1
            show _ ≤ _
            omega
          rcases HTX.out.2 with ⟨rfl, _⟩ | ⟨h0, g, o, cap', hv', hc, hrow⟩
          · simp at hmt
          · subst hv'
            injection hu with e1 e2 e3
            subst e1
            subst e3
            have hgw : g < w.heap.size := World.block_lt_of_cell? w ⟨g, o + 0, none⟩ (hrow 0 h0)
            have HXX : Hid (∀ Y, Below w.heap.size w Y → Y.cell? ⟨g, o + m, none⟩ = some (.string row[m])) := fun Y hY => (hrow.up hY hgw) m hmt
            have cx := HXX.out _ HI.out.bl
            have HXS : Hid (row[m].size ≤ 140737488351300) := HSL.out _ (List.getElem_mem hmt)
            have HTK : Hid (row.take (m + 1) = row.take m ++ [row[m]]) := List.take_succ_eq_append_getElem hmt
            generalize row[m] = x at cx HXX HXS HTK
            have HH1 : Hid (∀ b, (b = true ↔ x ∈ T) → Calls Tryz.prog 32 #[u3, .string x] wr fun e w' => e = .returned (.bool b) ∧ w' = wr) := fun b hb => HasText_any u3 T x wr (tx_own (by have := HTl.out; omega) HI.out.ot) b hb
            by_cases hin : x ∈ T
            · have HH : Hid (Calls Tryz.prog 32 #[u3, .string x] wr fun e w' => e = .returned (.bool true) ∧ w' = wr) := HH1.out true (by simp [hin])
              have HIN : Hid (ClI w wr u3 u4 T (seen ++ row.take (m + 1))) := by
                refine ⟨HI.out.ot, HI.out.od, HI.out.ne, HI.out.bl, HI.out.inj, fun y hy => ?_, ?_⟩
                · rw [HTK.out, ← List.append_assoc] at hy
                  rcases List.mem_append.1 hy with h1 | h1
                  · exact HI.out.all y h1
                  · simp at h1; subst h1; exact hin
                · have h1 := HI.out.le
                  rw [HTK.out, ← List.append_assoc, List.length_append]
                  omega
              clear hin hrow
              go_wp2_with fail
              refine HH.out.mono ?_
              rintro e w' ⟨rfl, rfl⟩
              go_wp2
              refine ⟨⟨m + 1, T, by omega, by go_num, HIN⟩, by simp [intOf]; omega⟩
            · have HH : Hid (Calls Tryz.prog 32 #[u3, .string x] wr fun e w' => e = .returned (.bool false) ∧ w' = wr) := HH1.out false (by simp [hin])
              have HSM : Hid (Calls Tryz.prog 33 #[.string x] wr fun e w' => e = .returned (.string (smD x)) ∧ Below wr.heap.size wr w') := RSm_any x wr HXS.out
              have HNI : Hid (x ∉ T) := hin
              have HH2 : Hid (∀ b Y, Below wr.heap.size wr Y → (b = true ↔ smD x ∈ T.map smD) → Calls Tryz.prog 32 #[u4, .string (smD x)] Y fun e w' => e = .returned (.bool b) ∧ w' = Y) := fun b Y hY hb => HasText_any u4 (T.map smD) (smD x) Y (tx_own' (by rw [List.length_map]; have := HTl.out; omega) (List.length_map ..) (own_below HI.out.od hY)) b hb
              clear hin hrow
              go_wp2_with fail
              refine HH.out.mono ?_
              rintro e w' ⟨rfl, rfl⟩
              go_wp2_with fail
              refine HSM.out.mono ?_
              rintro e w3 ⟨rfl, hb3⟩
              have B3 : Hid (Below _ _ w3) := hb3
              have cu3 := (HU.out w3 (bl_tr HI.out.bl hb3)).1
              have cx3 := HXX.out w3 (bl_tr HI.out.bl hb3)
              clear hb3
              by_cases hin2 : smD x ∈ T.map smD
              · have HH3 : Hid (Calls Tryz.prog 32 #[u4, .string (smD x)] w3 fun e w' => e = .returned (.bool true) ∧ w' = w3) := HH2.out true w3 B3.out (by simp only [hin2])
                clear hin2
                generalize smD x = d at *
                go_wp2_with fail
                refine HH3.out.mono ?_
                rintro e w' ⟨rfl, rfl⟩
                go_wp2
                go_ret
                exact ⟨true, rfl, fun h => (by cases h), bl_tr HI.out.bl B3.out⟩
              · have HH3 : Hid (Calls Tryz.prog 32 #[u4, .string (smD x)] w3 fun e w' => e = .returned (.bool false) ∧ w' = w3) := HH2.out false w3 B3.out (by simp only [hin2]; simp)
                have HN2 : Hid (smD x ∉ T.map smD) := hin2
                have HJ : Hid (InjL (T ++ [x])) := inj_snoc HI.out.inj hin2
                have HMP : Hid ((T ++ [x]).map smD = T.map smD ++ [smD x]) := by show _ = _; simp
                clear hin2
                generalize smD x = d at *
                have hTz : T.length ≤ 100000000 := HTl.out
                have HO3 : Hid (w3.ownsRow w.heap.size 9 1 u3 T.length (scs T) ∧ w3.ownsRow w.heap.size 9 1 u4 T.length (scs (T.map smD)) ∧ Below w.heap.size w w3) := ⟨own_below HI.out.ot B3.out, own_below HI.out.od B3.out, bl_tr HI.out.bl B3.out⟩
                go_wp2_with fail
                refine HH3.out.mono ?_
                rintro e w' ⟨rfl, rfl⟩
                go_wp2_with (at_builtin; refine wpList_append_lies _ rfl _ _ 23 rfl w.heap.size 9 i0 (.string ⟨#[]⟩) 1 16 Tryz.underlying23 hi0 hz0 hz1 hz2 rfl (by decide) _ T.length (scs T) rfl (HO3.out.1.alloc _) ⟨_, 0, none⟩ 1 1 [.string x] rfl rfl ?c1 ?c2 (by decide) ?c3 ?c4 ?c5 (w'.heap.size + 1) ?c6 ?_)
                case c1 => exact new_one w' x
                case c2 => intro u hu; simp at hu; subst hu; rfl
                case c3 => unfold maxLen; omega
                case c4 => omega
                case c5 => rw [World.size_alloc]; have := HO3.out.2.2.size; omega
                case c6 => rw [World.size_alloc]
                intro g1 cap1 w1 hown1 hgrow1 hat1 hlt1
                have HD1 : Hid (∀ b, u4.ownBlock = some b → b < w'.heap.size) := fun b hb => (HO3.out.2.1.lt b hb).2
                have HO1 : Hid (w1.ownsRow w.heap.size 9 1 (.slice (some ⟨g1, 0, none⟩) (T.length + 1) cap1) (T.length + 1) (scs (T ++ [x])) ∧ w1.ownsRow w.heap.size 9 1 u4 T.length (scs (T.map smD)) ∧ Below w.heap.size w w1 ∧ u4.ownBlock ≠ some g1 ∧ g1 < w1.heap.size) := by
                  refine ⟨by rw [scs_snoc]; exact hown1, own_grown (HO3.out.2.1.alloc _) hgrow1 (fun b hb he => HI.out.ne b he hb), (bl_al HO3.out.2.2 _).grown hgrow1 (bl_al HO3.out.2.2 _).size (fun j hj => (HO3.out.1.lt j hj).1), ?_, hlt1⟩
                  intro he
                  rcases hat1 with h1 | h1
                  · exact HI.out.ne g1 h1 he
                  · have := HD1.out g1 he
                    omega
                clear hown1 hgrow1 hat1 hlt1
                go_wp2_with (at_builtin; refine wpList_append_lies _ rfl _ _ 23 rfl w.heap.size 9 i0 (.string ⟨#[]⟩) 1 16 Tryz.underlying23 hi0 hz0 hz1 hz2 rfl (by decide) _ T.length (scs (T.map smD)) rfl (HO1.out.2.1.alloc _) ⟨_, 0, none⟩ 1 1 [.string d] rfl rfl ?c1 ?c2 (by decide) ?c3 ?c4 ?c5 (w1.heap.size + 1) ?c6 ?_)
                case c1 => exact new_one w1 d
                case c2 => intro u hu; simp at hu; subst hu; rfl
                case c3 => unfold maxLen; omega
                case c4 => omega
                case c5 => rw [World.size_alloc]; have := HO1.out.2.2.1.size; omega
                case c6 => rw [World.size_alloc]
                intro g2 cap2 w2 hown2 hgrow2 hat2 hlt2
                have HIN : Hid (ClI w w2 (.slice (some ⟨g1, 0, none⟩) (T.length + 1) cap1) (.slice (some ⟨g2, 0, none⟩) (T.length + 1) cap2) (T ++ [x]) (seen ++ row.take (m + 1))) := by
                  have hTl : (T ++ [x]).length = T.length + 1 := by simp
                  refine ⟨?_, by rw [hTl, HMP.out, scs_snoc]; exact hown2, fun a ha hb => ?_, (bl_al HO1.out.2.2.1 _).grown hgrow2 (bl_al HO1.out.2.2.1 _).size (fun j hj => (HO1.out.2.1.lt j hj).1), HJ.out, fun y hy => ?_, ?_⟩
                  · rw [hTl]
                    refine own_grown (HO1.out.1.alloc _) hgrow2 (fun b hb he => ?_)
                    simp [Value.ownBlock] at hb
                    subst hb
                    exact HO1.out.2.2.2.1 he
                  · simp [Value.ownBlock] at ha hb
                    subst ha
                    subst hb
                    rcases hat2 with h1 | h1
                    · exact HO1.out.2.2.2.1 h1
                    · have := HO1.out.2.2.2.2
                      omega
                  · rw [HTK.out, ← List.append_assoc] at hy
                    rcases List.mem_append.1 hy with h1 | h1
                    · exact List.mem_append_left _ (HI.out.all y h1)
                    · exact List.mem_append_right _ h1
                  · have h1 := HI.out.le
                    rw [hTl, HTK.out, ← List.append_assoc, List.length_append]
                    simp only [List.length_cons, List.length_nil]
                    omega
                clear hown2 hgrow2 hat2 hlt2
                go_wp2
                refine ⟨⟨m + 1, T ++ [x], by omega, by go_num, HIN⟩, by simp [intOf]; omega⟩
        · obtain rfl : m = row.length := by omega
          subst hu
          have HIN : Hid (ClI w wr u3 u4 T (ls.take (j + 1)).flatten) := by
            have := HI.out
            rw [List.take_length, ← HFL.out] at this
            exact this
          go_wp2
          refine ⟨⟨j + 1, T, by omega, by go_num, HIN⟩, by simp [intOf]; omega⟩
    · obtain rfl : j = ls.length := by omega
      have HIN : Hid (InjL ls.flatten) := by
        intro x y hx hy he
        have h2 := HI.out.all
        rw [List.take_length] at h2
        exact HI.out.inj x y (h2 x hx) (h2 y hy) he
      go_wp2
      go_ret
      exact ⟨false, rfl, fun _ => HIN.out, HI.out.bl⟩
end Go.Proofs.YtefdfcjohkndgaaGreatDoor

/- Two lists of texts are never packed alike. -/
namespace Go.Proofs.YtefdfcjohkndgaaGreatDoor
open Go.RowKit Go.Shelf

theorem u8_ofNat_inj {a b : Nat} (ha : a < 256) (hb : b < 256) (h : UInt8.ofNat a = UInt8.ofNat b) : a = b := by
  have := congrArg UInt8.toNat h
  simp [UInt8.toNat_ofNat'] at this
  omega
theorem pk_inj : ∀ f n m : Nat, n ≤ f → ∀ r r' : List UInt8, pk n ++ r = pk m ++ r' → n = m ∧ r = r' := by
  intro f
  induction f with
  | zero =>
    intro n m hn r r' h
    obtain rfl : n = 0 := by omega
    by_cases hm : m < 128
    · rw [pk_small 0 (by decide), pk_small m hm] at h
      simp only [List.cons_append, List.nil_append, List.cons.injEq] at h
      exact ⟨u8_ofNat_inj (by decide) (by omega) h.1, h.2⟩
    · rw [pk_small 0 (by decide), pk_more m (by omega)] at h
      simp only [List.cons_append, List.nil_append, List.cons.injEq] at h
      have := u8_ofNat_inj (by decide) (by omega) h.1
      omega
  | succ f ih =>
    intro n m hn r r' h
    by_cases h1 : n < 128
    · by_cases hm : m < 128
      · rw [pk_small n h1, pk_small m hm] at h
        simp only [List.cons_append, List.nil_append, List.cons.injEq] at h
        exact ⟨u8_ofNat_inj (by omega) (by omega) h.1, h.2⟩
      · rw [pk_small n h1, pk_more m (by omega)] at h
        simp only [List.cons_append, List.nil_append, List.cons.injEq] at h
        have := u8_ofNat_inj (by omega) (by omega) h.1
        omega
    · by_cases hm : m < 128
      · rw [pk_more n (by omega), pk_small m hm] at h
        simp only [List.cons_append, List.nil_append, List.cons.injEq] at h
        have := u8_ofNat_inj (by omega) (by omega) h.1
        omega
      · rw [pk_more n (by omega), pk_more m (by omega)] at h
        simp only [List.cons_append, List.cons.injEq] at h
        have e1 := u8_ofNat_inj (by omega) (by omega) h.1
        have e2 := ih (n / 128) (m / 128) (by omega) r r' h.2
        exact ⟨by omega, e2.2⟩
theorem pkT_inj (s s' : ByteArray) (r r' : List UInt8) (h : pkT s ++ r = pkT s' ++ r') : s = s' ∧ r = r' := by
  unfold pkT at h
  rw [List.append_assoc, List.append_assoc] at h
  obtain ⟨e1, e2⟩ := pk_inj s.size s.size s'.size (Nat.le_refl _) _ _ h
  have hl : s.data.toList.length = s'.data.toList.length := by rw [← size_of (s := s) rfl, ← size_of (s := s') rfl]; exact e1
  obtain ⟨e3, e4⟩ := List.append_inj e2 hl
  exact ⟨(bytes_eq e3).trans (bytes_eq rfl).symm, e4⟩
theorem pkSS_inj : ∀ (ss ss' : List ByteArray) (r r' : List UInt8), ss.length = ss'.length → pkSS ss ++ r = pkSS ss' ++ r' → ss = ss' ∧ r = r' := by
  intro ss
  induction ss with
  | nil =>
    intro ss' r r' hl h
    have : ss' = [] := List.length_eq_zero_iff.1 hl.symm
    subst this
    exact ⟨rfl, by simpa [pkSS] using h⟩
  | cons s l ih =>
    intro ss' r r' hl h
    cases ss' with
    | nil => simp at hl
    | cons s' l' =>
      simp only [pkSS, List.append_assoc] at h
      obtain ⟨e1, e2⟩ := pkT_inj s s' _ _ h
      obtain ⟨e3, e4⟩ := ih l' r r' (by simpa using hl) e2
      exact ⟨by rw [e1, e3], e4⟩
theorem pkTexts_inj (ss ss' : List ByteArray) (h : pk ss.length ++ pkSS ss = pk ss'.length ++ pkSS ss') : ss = ss' := by
  obtain ⟨e1, e2⟩ := pk_inj ss.length ss.length ss'.length (Nat.le_refl _) _ _ h
  exact (pkSS_inj ss ss' [] [] e1 (by simpa using e2)).1
theorem map_bytes (ss : List ByteArray) : (ss.map fun s => s.data.toList).map (fun t => (⟨t.toArray⟩ : ByteArray)) = ss := by
  rw [List.map_map]
  conv => rhs; rw [← List.map_id ss]
  apply List.map_congr_left
  intro s _
  exact (bytes_eq rfl).symm
theorem pkAll_map (ss : List ByteArray) : pkAll (ss.map fun s => s.data.toList) = pkSS ss := by
  rw [← pkSS_all, map_bytes]
end Go.Proofs.YtefdfcjohkndgaaGreatDoor

/- What SameNodes answers; two lists of nodes are never packed alike. -/
namespace Go.Proofs.YtefdfcjohkndgaaGreatDoor
open Go.RowKit Go.Shelf

theorem pkDD_inj : ∀ (ns ns' : List Nd) (r r' : List UInt8), (∀ n ∈ ns, 0 ≤ n.2.1) → (∀ n ∈ ns', 0 ≤ n.2.1) → ns.length = ns'.length → pkDD ns ++ r = pkDD ns' ++ r' → ns = ns' ∧ r = r' := by
  intro ns
  induction ns with
  | nil =>
    intro ns' r r' _ _ hl h
    have : ns' = [] := List.length_eq_zero_iff.1 hl.symm
    subst this
    exact ⟨rfl, by simpa [pkDD] using h⟩
  | cons n l ih =>
    intro ns' r r' p p' hl h
    cases ns' with
    | nil => simp at hl
    | cons n' l' =>
      simp only [pkDD, pkD, List.append_assoc] at h
      obtain ⟨e1, h1⟩ := pkT_inj n.1 n'.1 _ _ h
      obtain ⟨e2, h2⟩ := pk_inj n.2.1.toNat n.2.1.toNat n'.2.1.toNat (Nat.le_refl _) _ _ h1
      obtain ⟨e3, h3⟩ := pkT_inj n.2.2 n'.2.2 _ _ h2
      obtain ⟨e4, e5⟩ := ih l' r r' (fun x hx => p x (List.mem_cons_of_mem _ hx)) (fun x hx => p' x (List.mem_cons_of_mem _ hx)) (by simpa using hl) h3
      have q := p n (List.mem_cons_self ..)
      have q' := p' n' (List.mem_cons_self ..)
      have e6 : n.2.1 = n'.2.1 := by omega
      have e7 : n = n' := by
        obtain ⟨x, y, z⟩ := n
        obtain ⟨x', y', z'⟩ := n'
        simp only at e1 e6 e3
        rw [e1, e6, e3]
      exact ⟨by rw [e7, e4], e5⟩
theorem pkNodes_inj (ns ns' : List Nd) (p : okDs ns) (p' : okDs ns') (h : pk ns.length ++ pkDD ns = pk ns'.length ++ pkDD ns') : ns = ns' := by
  obtain ⟨e1, e2⟩ := pk_inj ns.length ns.length ns'.length (Nat.le_refl _) _ _ h
  exact (pkDD_inj ns ns' [] [] (fun n hn => (p.2 n hn).2.1) (fun n hn => (p'.2 n hn).2.1) e1 (by simpa using e2)).1
end Go.Proofs.YtefdfcjohkndgaaGreatDoor

/- Two trees with one root are one, plain, where no two of their texts have one digest. -/
namespace Go.Proofs.YtefdfcjohkndgaaGreatDoor
open Go.RowKit Go.Shelf Go.Maps Go.WideMaps Go.Sort

theorem addP_none (f : Fl) : addP ⟨#[]⟩ f = f := by
  unfold addP
  exact fl_ext (show [] ++ pth f = pth f from List.nil_append _) rfl rfl
theorem kd_inj {a b : Bool} (h : kdF a = kdF b) : a = b := by
  cases a <;> cases b <;> first | rfl | (exact absurd h (by decide))
theorem bytes_mk {a b : List UInt8} (h : (⟨a.toArray⟩ : ByteArray) = ⟨b.toArray⟩) : a = b := by
  have := congrArg (fun x : ByteArray => x.data.toList) h
  simpa using this
theorem up_uniq {A C : List Fl} (ha : okT A) (hc : okT C) (hp : A.Perm C) : A = C :=
  List.Perm.eq_of_pairwise (le := fun f g : Fl => pth f < pth g) (fun _ _ _ _ h1 h2 => absurd (List.lt_trans h1 h2) (List.lt_irrefl _)) (ha.2.2.imp fun h => h.1) (hc.2.2.imp fun h => h.1) hp
theorem dir_inj : ∀ (n : Nat) (A C : List Fl), okT A → okT C → (∀ f ∈ A, f.pa.size < n) → (∀ f ∈ C, f.pa.size < n) → InjL ((dirF smD n A).2 ++ (dirF smD n C).2) → (dirF smD n A).1 = (dirF smD n C).1 → A = C := by
  intro n
  induction n with
  | zero =>
    intro A C _ _ hA hC _ _
    have e : ∀ L : List Fl, (∀ f ∈ L, f.pa.size < 0) → L = [] := fun L h => List.eq_nil_iff_forall_not_mem.2 fun f hf => absurd (h f hf) (by omega)
    rw [e A hA, e C hC]
  | succ n ih =>
    intro A C okA okC hA hC hinj heq
    have hs : sortN (nsF smD n A) = sortN (nsF smD n C) := by
      have h1 := (neC_ok (nsF_ok smD smD_dig n okA)).1
      have h2 := (neC_ok (nsF_ok smD smD_dig n okC)).1
      have h3 : txN (nsF smD n A) = txN (nsF smD n C) := heq
      unfold txN at h3
      exact pkNodes_inj _ _ h1 h2 (bytes_mk h3)
    have hf : ∀ x ∈ sortN (nsF smD n A), filesOf ⟨#[]⟩ A (kyN x) = filesOf ⟨#[]⟩ C (kyN x) := fun x hx => by
      have hx2 : x ∈ sortN (nsF smD n C) := by rw [← hs]; exact hx
      rcases node_cases smD n okA hx ⟨#[]⟩ with ⟨f, hf1, hf2, hf3, hf4⟩ | ⟨m, hm1, hm2, hm3⟩
      · rcases node_cases smD n okC hx2 ⟨#[]⟩ with ⟨g, hg1, hg2, hg3, hg4⟩ | ⟨m, hm1, hm2, hm3⟩
        · rw [hf4, hg4]
          have e : ndF smD f = ndF smD g := by rw [← hf3, ← hg3]
          unfold ndF at e
          injection e with e1 e
          injection e with e2 e3
          have e4 : f.tx = g.tx := hinj _ _ (List.mem_append_left _ (top_text smD n A hf1 hf2)) (List.mem_append_right _ (top_text smD n C hg1 hg2)) e3
          have e5 : f = g := fl_ext (by show f.pa.data.toList = g.pa.data.toList; rw [e1]) e4 (kd_inj e2)
          rw [e5]
        · exfalso
          have e : ndF smD f = ndM smD m (dirF smD n (sub m C)).1 := by rw [← hf3, ← hm2]
          unfold ndF ndM at e
          injection e with _ e
          injection e with e2 _
          exact kd_ne _ e2
      · rcases node_cases smD n okC hx2 ⟨#[]⟩ with ⟨g, hg1, hg2, hg3, hg4⟩ | ⟨m', hm1', hm2', hm3'⟩
        · exfalso
          have e : ndM smD m (dirF smD n (sub m A)).1 = ndF smD g := by rw [← hg3, ← hm2]
          unfold ndF ndM at e
          injection e with _ e
          injection e with e2 _
          exact kd_ne _ e2.symm
        · have e : ndM smD m (dirF smD n (sub m A)).1 = ndM smD m' (dirF smD n (sub m' C)).1 := by rw [← hm2, ← hm2']
          unfold ndM at e
          injection e with e1 e
          injection e with _ e3
          obtain rfl := bytes_mk e1
          have hn : 0 < n := names_ne hm1 hA
          obtain ⟨k, rfl⟩ : ∃ k, n = k + 1 := ⟨n - 1, by omega⟩
          have hI : InjL ((dirF smD (k + 1) (sub m A)).2 ++ (dirF smD (k + 1) (sub m C)).2) := fun x y hx hy hxy => by
            refine hinj x y ?_ ?_ hxy
            · rcases List.mem_append.1 hx with h | h
              · exact List.mem_append_left _ (sub_texts smD (k + 1) A hm1 x h)
              · exact List.mem_append_right _ (sub_texts smD (k + 1) C hm1' x h)
            · rcases List.mem_append.1 hy with h | h
              · exact List.mem_append_left _ (sub_texts smD (k + 1) A hm1 y h)
              · exact List.mem_append_right _ (sub_texts smD (k + 1) C hm1' y h)
          have e4 := hI _ _ (List.mem_append_left _ (own_text smD k (sub m A))) (List.mem_append_right _ (own_text smD k (sub m C))) e3
          have e5 := ih (sub m A) (sub m C) (okT_sub okA m) (okT_sub okC m) (sub_less hA m) (sub_less hC m) hI e4
          rw [hm3, hm3', e5]
    have p1 := all_files smD n okA ⟨#[]⟩
    have p2 := all_files smD n okC ⟨#[]⟩
    rw [fm_congr hf, hs] at p1
    have e6 : ∀ L : List Fl, L.map (addP ⟨#[]⟩) = L := fun L => by
      have : addP ⟨#[]⟩ = id := funext addP_none
      rw [this, List.map_id]
    rw [e6] at p1 p2
    exact up_uniq okA okC (p1.symm.trans p2)
/-- A tree's texts, rising, as bytes. -/
def bxF (L : List Fl) : List ByteArray := (blF L).map fun t => ⟨t.toArray⟩
theorem bxF_scs (L : List Fl) : scs (bxF L) = (blF L).map encStr := by
  unfold scs bxF
  rw [List.map_map]
  rfl
theorem bxF_len (L : List Fl) : (bxF L).length = (blF L).length := by unfold bxF; rw [List.length_map]
theorem bxF_mem (L : List Fl) (t : ByteArray) : t ∈ bxF L ↔ t ∈ (pkT1 L).2 := by
  unfold bxF blF
  rw [List.mem_map]
  constructor
  · rintro ⟨x, hx, rfl⟩
    rw [mem_compact, List.mem_mergeSort, List.mem_map] at hx
    obtain ⟨b, hb, rfl⟩ := hx
    rw [Array.toArray_toList]
    exact hb
  · intro h
    refine ⟨t.data.toList, ?_, by rw [Array.toArray_toList]⟩
    rw [mem_compact, List.mem_mergeSort, List.mem_map]
    exact ⟨t, h, rfl⟩
theorem blF_len {L : List Fl} (h : okT L) : (blF L).length ≤ 6061 := by
  have h1 := compact_len (((pkT1 L).2.map fun b => b.data.toList).mergeSort fun x y => decide (x ≤ y))
  have h2 := pkT1_len h
  rw [List.length_mergeSort, List.length_map] at h1
  show (Lib.compact _).length ≤ _
  omega
theorem tree_inj {A C : List Fl} (hA : okT A) (hC : okT C) (hi : InjL (bxF A ++ bxF C)) (h : smD (pkT1 A).1 = smD (pkT1 C).1) : A = C := by
  have hI : InjL ((pkT1 A).2 ++ (pkT1 C).2) := fun x y hx hy e => by
    have m : ∀ z, z ∈ (pkT1 A).2 ++ (pkT1 C).2 → z ∈ bxF A ++ bxF C := fun z hz => by
      rcases List.mem_append.1 hz with h | h
      · exact List.mem_append_left _ ((bxF_mem A z).2 h)
      · exact List.mem_append_right _ ((bxF_mem C z).2 h)
    exact hi x y (m x hx) (m y hy) e
  have hz : ∀ {L : List Fl}, okT L → ∀ f ∈ L, f.pa.size < 101 := fun h f hf => by have := fl_le h hf; omega
  exact dir_inj 101 A C hA hC (hz hA) (hz hC) hI (hI _ _ (List.mem_append_left _ (own_text smD 100 A)) (List.mem_append_right _ (own_text smD 100 C)) h)
/-- What a tree's texts weigh. -/
theorem dirF_small : ∀ (n : Nat) (L : List Fl), okT L → ∀ t ∈ (dirF smD n L).2, t.size ≤ 200016008
  | 0, _, _, t, ht => by cases ht
  | n + 1, L, hok, t, ht => by
    rw [dirF_succ] at ht
    simp only [List.mem_append] at ht
    rcases ht with (ht | ht) | ht
    · obtain ⟨f, hf, rfl⟩ := List.mem_map.1 ht
      have := (flE_pa (hok.2.1 f (List.mem_filter.1 hf).1)).2
      omega
    · obtain ⟨m, _, hm⟩ := List.mem_flatMap.1 ht
      exact dirF_small n (sub m L) (okT_sub hok m) t hm
    · rw [List.mem_singleton] at ht
      rw [ht]
      exact txN_size smD smD_dig n hok
theorem bxF_small {L : List Fl} (h : okT L) : ∀ t ∈ bxF L, t.size ≤ 200016008 := fun t ht => dirF_small 101 L h t ((bxF_mem L t).1 ht)
theorem othF_none {A C : List Fl} (h : A = C) (hn : okT C) : othF A C = [] := by
  subst h
  unfold othF
  rw [List.filter_eq_nil_iff.2, List.map_nil]
  intro f hf
  have : getF A (pth f) = f := by
    have h2 := okT_nodup hn
    obtain ⟨i, hi, rfl⟩ := List.getElem_of_mem hf
    refine getF_at i hi rfl fun j hj hji e => ?_
    have h3 := List.pairwise_iff_getElem.1 h2 j i (by simpa using hj) (by simpa using hi) hji
    rw [List.getElem_map, List.getElem_map] at h3
    exact h3 e
  rw [this]
  have : sameB f f = true := (sameB_iff f f).2 rfl
  rw [this]
  decide
/-- Nothing differs just if they are the same. -/
theorem dif_none {A C : List Fl} (hA : okT A) (hC : okT C) : difF A C = [] ↔ A = C := by
  rw [dif_same]
  constructor
  · intro h
    have hno : ∀ x, x ∉ othF A C ++ othF C A := fun x hx => by
      have := (addAll_mem (othF A C ++ othF C A) x).2 hx
      rw [h] at this
      cases this
    have key : ∀ {X Y : List Fl}, okT X → (∀ x, x ∉ othF X Y) → ∀ f ∈ X, f ∈ Y := fun {X Y} hX hx f hf => by
      have h1 : sameB (getF Y (pth f)) f = true := by
        cases e : sameB (getF Y (pth f)) f with
        | true => rfl
        | false => exact absurd (List.mem_map.2 ⟨f, List.mem_filter.2 ⟨hf, by rw [e]; rfl⟩, rfl⟩) (hx (pth f))
      have h2 := (sameB_iff _ _).1 h1
      unfold getF at h2
      cases e : Y.find? fun g => decide (pth g = pth f) with
      | none =>
        rw [e] at h2
        have h3 : pth f = [] := by rw [← h2]; rfl
        exact absurd h3 (pathOk_ne (flE_pa (hX.2.1 f hf)).1)
      | some g =>
        rw [e] at h2
        have h3 : g = f := h2
        rw [← h3]
        exact List.mem_of_find?_eq_some e
    have h1 := key hA fun x hx => hno x (List.mem_append_left _ hx)
    have h2 := key hC fun x hx => hno x (List.mem_append_right _ hx)
    exact up_uniq hA hC ((List.perm_ext_iff_of_nodup (map_nodup (okT_nodup hA)) (map_nodup (okT_nodup hC))).2 fun f => ⟨h1 f, h2 f⟩)
  · intro h
    rw [othF_none h hC, othF_none h.symm hA]
    rfl
end Go.Proofs.YtefdfcjohkndgaaGreatDoor

/- Flat of whatever texts ends; two lists of texts put one behind the other. -/
namespace Go.Proofs.YtefdfcjohkndgaaGreatDoor
open Go.RowKit Go.Shelf Go.Maps Go.WideMaps Go.Sort Go.Lib
attribute [local go_sem ↓] appS_eq

theorem sortFiles_tot {B : Nat} {F : List Fl} {v : Value} {w : World} (h : w.ownsRow B 44 3 v F.length (flCells F)) (hl : F.length ≤ 1000000) :
    Calls Tryz.prog 30 #[v, .func (.func 31) #[] #[]] w fun e w' => e = .returned (.tuple #[]) ∧ w.grownBy w' v.ownBlock := by
  have hh := h
  rcases h.2 with ⟨rfl, h0⟩ | ⟨g, cap, cur, rfl, hbase, hb, _⟩
  · refine (sortFF_none none 0 _ w).mono ?_
    rintro e w' ⟨rfl, rfl⟩
    exact ⟨rfl, ⟨rfl, rfl, rfl, Nat.le_refl _, fun _ _ _ => rfl⟩⟩
  · rw [flT] at hh
    have hlen : F.length = (F.map tri).length := by simp
    have hH : HoldsK encT 3 w g 0 (F.map tri).toArray := holdsK_row encT (fun x => .string x.1) (fun x => .string x.2.1) (fun x => .bool x.2.2) (fun _ => rfl) (F.map tri) hlen hh
    have hc : CmpLays Tryz.prog 31 #[] encT 3 (fun x y : ByteArray × ByteArray × Bool => cmpB x.1 y.1) g 0 (F.map tri).toArray.size w := fun m os dk _ x y => by
      refine (comparePaths_w (ofT x) (ofT y) _).mono ?_
      rintro e w' ⟨rfl, rfl⟩
      exact ⟨rfl, 0, _, by rw [alloc_eq_grow, alloc_eq_grow, grow_grow]; rfl⟩
    have := sortFF_any encT (fun _ => rfl) encT_one (fun x y : ByteArray × ByteArray × Bool => cmpB x.1 y.1) swoT 31 #[] g 0 cap (F.map tri).toArray w (enters_of Tryz.func31 (by kernel_rfl) rfl) hc hH (Array.getElem?_eq_some_iff.1 hb).1 (by simp; omega)
    rw [show (F.map tri).toArray.size = F.length from by simp] at this
    refine this.mono ?_
    rintro e w' ⟨rfl, d', m, os, hpp, hs, rfl⟩
    have e1 : d'.size = F.length := by rw [hpp.1]; simp
    have hput := rowK_put (m := m) (os := os) encT (fun x => .string x.1) (fun x => .string x.2.1) (fun x => .bool x.2.2) (fun _ => rfl) (F.map tri) d'.toList hlen (by rw [Array.length_toList, e1, List.length_map]) hh
    rw [Array.toArray_toList] at hput
    exact ⟨rfl, hput.2⟩

/-- How flattening ends, whatever it met. -/
def FtQ (w : World) (e : Ending) (w' : World) : Prop := ∃ v er, e = .returned (.tuple #[v, .int .i64 er]) ∧ Below w.heap.size w w'

set_option maxHeartbeats 4000000 in
set_option maxRecDepth 100000 in
theorem Flat_tot (t : ByteArray) (ba : Option Addr) (bc : Nat) (bs : List ByteArray) (w : World) (hn : bs.length ≤ 2000) (ht : IsTxs w ba bs) (hs : ∀ b ∈ bs, b.size ≤ 100000) (he : Env w) :
    Calls Tryz.prog 10 #[.string (smD t), .slice ba bs.length bc] w (FtQ w) := by
  have hany : (bs.any fun b => decide (100000 < b.size)) = false := List.any_eq_false.2 fun b hb => by have := hs b hb; simp; omega
  have hC := cfL_any ba bc bs w (by omega) ht
  rw [hany] at hC
  have HC : Hid (Calls Tryz.prog 25 #[.slice ba bs.length bc, .func (.func 26) #[] #[]] w fun e w' => e = .returned (.bool false) ∧ Below w.heap.size w w') := hC
  have HI : Hid (∀ W, Calls Tryz.prog 27 #[.string (smD t)] W fun e w' => e = .returned (.bool true) ∧ w' = W) := fun W => by
    have := Is_any (smD t) W
    rw [smD_dig] at this
    exact this
  have HW : Hid (∀ W, Below w.heap.size w W → Calls Tryz.prog 28 #[.slice ba bs.length bc] W (NwP ba bc bs W)) := fun W hW => newWalk_any ba bc bs W (by omega) (ht.below hW (Nat.le_refl _)) hs (he.up hW)
  have HO : Hid (∀ B P M W, WS B P M (ixD bs bs.length) ba bc bs [] (.slice none 0 0) W → Calls Tryz.prog 29 #[.pointer (some ⟨P, 0, none⟩), .string (smD t)] W (TtP B P M (ixD bs bs.length) ba bc bs [] (.slice none 0 0) W)) := fun B P M W hW => whole_tot hW (ixD_ok bs) hs (by simp) (smD t) (by rw [smD_size]; decide)
  have hn2 : (bs.length : Int) ≤ 2000 := by omega
  clear hany hC ht hs he
  generalize smD t = rt at *
  go_enter Tryz.func10, Tryz.ntmps10
  go_wp2_with fail
  refine HC.out.mono ?_
  rintro e w1 ⟨rfl, hb1⟩
  go_wp2_with fail
  refine (HI.out _).mono ?_
  rintro e wb ⟨rfl, rfl⟩
  go_wp2_with fail
  refine (HW.out _ hb1).mono ?_
  rintro e w2 ⟨P, M, rfl, hws, hb2⟩
  have HB2 : Hid (Below w.heap.size w w2) := hb1.trans (hb2.mono hb1.size)
  have HO2 : Hid (Calls Tryz.prog 29 #[.pointer (some ⟨P, 0, none⟩), .string rt] w2 (TtP wb.heap.size P M (ixD bs bs.length) ba bc bs [] (.slice none 0 0) w2)) := HO.out _ _ _ _ hws
  have hsz := hb1.size
  clear hws hb1 hb2 HW HC HI HO
  go_wp2_with fail
  refine HO2.out.mono ?_
  rintro e w3 ⟨er, fv, Y, rfl, hws, hlen, hfr⟩
  rw [List.nil_append] at hws hlen
  have c2 := hws.c2
  have HB3 : Hid (Below w.heap.size w w3) := by
    have h0 := HB2.out
    refine ⟨hfr.os.trans h0.os, hfr.tape.trans h0.tape, hfr.output.trans h0.output, Nat.le_trans h0.size hfr.size, fun b hb => ?_⟩
    refine (hfr.blk b (Nat.lt_of_lt_of_le hb h0.size) (fun e => ?_) (by simp [Value.ownBlock])).trans (h0.block b hb)
    have := hws.loP
    omega
  by_cases h0 : er = 0
  · subst h0
    have HS : Hid (Calls Tryz.prog 30 #[fv, .func (.func 31) #[] #[]] w3 fun e w' => e = .returned (.tuple #[]) ∧ w3.grownBy w' fv.ownBlock) := sortFiles_tot hws.files (by omega)
    have HWS : Hid (WS wb.heap.size P M (ixD bs bs.length) ba bc bs Y fv w3) := hws
    clear hws hfr HO2 hlen
    go_wp2_with fail
    refine HS.out.mono ?_
    rintro e w4 ⟨rfl, hg⟩
    have d2 : w4.cell? ⟨P, 2, none⟩ = some fv := (World.cell?_of_block (w := w3) (a := ⟨P, 2, none⟩) (hg.block P HWS.out.lt (fun e => HWS.out.fP e.symm))).trans c2
    have HF : Hid (Below w.heap.size w w4) := HB3.out.grown hg HB3.out.size fun k hk => Nat.le_trans hsz (HWS.out.files.lt k hk).1
    clear hg HS c2
    go_wp2
    refine bodyPost_ret (v := .tuple #[fv, .int .i64 0]) (by simp [results, Tryz.results10, go_sem]) rfl ?_
    exact ⟨fv, 0, rfl, HF.out⟩
  · have h1 : (er != 0) = true := by simpa using h0
    clear hws hfr HO2 hlen h0 c2
    go_wp2
    refine bodyPost_ret (v := .tuple #[.slice none 0 0, .int .i64 er]) (by simp [results, Tryz.results10, go_sem]) rfl ?_
    exact ⟨_, er, rfl, HB3.out⟩

set_option maxHeartbeats 4000000 in
set_option maxRecDepth 100000 in
theorem Flat_many (rt : ByteArray) (ba : Option Addr) (bc : Nat) (bs : List ByteArray) (w : World) (hn : bs.length ≤ 4611686018427387904) (ht : IsTxs w ba bs) (hno : ¬ (bs.length ≤ 2000 ∧ ∀ b ∈ bs, b.size ≤ 100000)) :
    Calls Tryz.prog 10 #[.string rt, .slice ba bs.length bc] w fun e w' => e = .returned (.tuple #[.slice none 0 0, .int .i64 2]) ∧ Below w.heap.size w w' := by
  have HC : Hid (Calls Tryz.prog 25 #[.slice ba bs.length bc, .func (.func 26) #[] #[]] w fun e w' => e = .returned (.bool (bs.any fun b => decide (100000 < b.size))) ∧ Below w.heap.size w w') := cfL_any ba bc bs w hn ht
  by_cases h1 : bs.length ≤ 2000
  · have hany : (bs.any fun b => decide (100000 < b.size)) = true := by
      cases e : (bs.any fun b => decide (100000 < b.size)) with
      | true => rfl
      | false =>
        exfalso
        refine hno ⟨h1, fun b hb => ?_⟩
        have := List.any_eq_false.1 e b hb
        simp at this
        exact this
    rw [hany] at HC
    have h2 : (bs.length : Int) ≤ 2000 := by omega
    clear hno hany h1 ht hn
    go_enter Tryz.func10, Tryz.ntmps10
    go_wp2_with fail
    refine HC.out.mono ?_
    rintro e w1 ⟨rfl, hb1⟩
    have HB : Hid (Below w.heap.size w w1) := hb1
    clear hb1
    go_wp2
    refine bodyPost_ret (v := .tuple #[.slice none 0 0, .int .i64 2]) (by simp [results, Tryz.results10, go_sem]) rfl ?_
    exact ⟨rfl, HB.out⟩
  · have h2 : ¬ (bs.length : Int) ≤ 2000 := by omega
    have h3 : (2000 : Int) < (bs.length : Int) := by omega
    clear hno h1 ht hn
    go_enter Tryz.func10, Tryz.ntmps10
    go_wp2
    refine bodyPost_ret (v := .tuple #[.slice none 0 0, .int .i64 2]) (by simp [results, Tryz.results10, go_sem]) rfl ?_
    exact ⟨rfl, Below.refl _ _⟩
end Go.Proofs.YtefdfcjohkndgaaGreatDoor
