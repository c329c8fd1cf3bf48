/- The document's own Sum: what is added behind the rounds. -/
import Derived.Test.YtagelkaenbdlaaaDoorRSumZ
namespace Go.Proofs.YtagelkaenbdlaaaDoor
open Go.RowKit

def N8.l (q : N8) : List Nat := [q.a, q.b, q.c, q.d, q.e, q.f, q.g, q.h]
theorem N8.l_lt {q : N8} (h : q.ok) (j : Nat) : q.l.getD j 0 < 2 ^ 32 := get_lt q.l (by
  obtain ⟨h1, h2, h3, h4, h5, h6, h7, h8⟩ := h
  intro x hx
  simp [N8.l] at hx
  rcases hx with rfl | rfl | rfl | rfl | rfl | rfl | rfl | rfl <;> assumption) j
/-- Block b holds these numbers, and no more. -/
def HAt (w : World) (b : Nat) (l : List Nat) : Prop := w.heap[b]? = some (.cells (intCells l) 3 (0, 0))
theorem HAt.lat {w : World} {b : Nat} {l : List Nat} (h : HAt w b l) : LAt w b l := fun j hj => by
  rw [Lib.cell_of_heap h, List.getD_eq_getElem?_getD, List.getElem?_eq_getElem hj]
  simp [intCells, hj]
theorem HAt.fro {w : World} {b : Nat} {l : List Nat} (h : HAt w b l) (k : Nat) : w.frozen? ⟨b, k, none⟩ = false := Lib.frozen_of_heap h k
theorem HAt.up {B : Nat} {w w' : World} {b : Nat} {l : List Nat} (h : HAt w b l) (hb : Below B w w') (hB : b < B) : HAt w' b l := (hb.block b hB).trans h
theorem HAt.lt {w : World} {b : Nat} {l : List Nat} (h : HAt w b l) : b < w.heap.size := (Array.getElem?_eq_some_iff.1 h).1
theorem HAt.set {w : World} {b : Nat} {l : List Nat} (h : HAt w b l) (k v : Nat) : HAt (w.setCell ⟨b, k, none⟩ (.int .i64 (v : Int))) b (l.set k v) := by
  have := heap_setCell_same w b k _ 3 (.int .i64 (v : Int)) h
  unfold HAt intCells at *
  rw [this]
  congr 2
  apply Array.toList_inj.1
  simp [List.map_set]
theorem VAt.at {w : World} {g : Nat} {q : N8} (h : VAt w g q) (j : Nat) (hj : j < 8) : w.cell? ⟨g, j, none⟩ = some (.int .i64 (q.l.getD j 0 : Nat)) := by
  obtain ⟨h0, h1, h2, h3, h4, h5, h6, h7⟩ := h
  match j, hj with
  | 0, _ => exact h0
  | 1, _ => exact h1
  | 2, _ => exact h2
  | 3, _ => exact h3
  | 4, _ => exact h4
  | 5, _ => exact h5
  | 6, _ => exact h6
  | 7, _ => exact h7
theorem VAt.far {w : World} {g b k : Nat} {v : Value} {q : N8} (h : VAt w g q) (hne : b ≠ g) : VAt (w.setCell ⟨b, k, none⟩ v) g q := by
  obtain ⟨h0, h1, h2, h3, h4, h5, h6, h7⟩ := h
  have e := fun j => World.cell?_setCell_far w ⟨b, k, none⟩ ⟨g, j, none⟩ v hne
  exact ⟨(e 0).trans h0, (e 1).trans h1, (e 2).trans h2, (e 3).trans h3, (e 4).trans h4, (e 5).trans h5, (e 6).trans h6, (e 7).trans h7⟩
def AddedN (x y : List Nat) (j : Nat) (l : List Nat) : Prop := l.length = 8 ∧ ∀ t, l.getD t 0 = if t < j then (x.getD t 0 + y.getD t 0) % 4294967296 else x.getD t 0
theorem AddedN.zero (x y : List Nat) (h : x.length = 8) : AddedN x y 0 x := ⟨h, fun t => by rw [if_neg (by omega)]⟩
theorem AddedN.step {x y l : List Nat} {j : Nat} (h : AddedN x y j l) (hj : j < 8) : AddedN x y (j + 1) (l.set j ((l.getD j 0 + y.getD j 0) % 4294967296)) := by
  have h8 := h.1
  refine ⟨by simpa using h.1, fun t => ?_⟩
  have ht := h.2 t
  have hjj := h.2 j
  rw [if_neg (by omega)] at hjj
  by_cases e : t = j
  · subst e
    rw [if_pos (by omega), List.getD_eq_getElem?_getD, List.getElem?_set_self (by omega), Option.getD_some, hjj]
  · rw [List.getD_eq_getElem?_getD, List.getElem?_set_ne (by omega), ← List.getD_eq_getElem?_getD, ht]
    by_cases e2 : t < j
    · rw [if_pos e2, if_pos (by omega)]
    · rw [if_neg e2, if_neg (by omega)]
/-- Two states, added. -/
def addN (q r : N8) : N8 := ⟨(q.a + r.a) % 4294967296, (q.b + r.b) % 4294967296, (q.c + r.c) % 4294967296, (q.d + r.d) % 4294967296, (q.e + r.e) % 4294967296, (q.f + r.f) % 4294967296, (q.g + r.g) % 4294967296, (q.h + r.h) % 4294967296⟩
theorem AddedN.done {q r : N8} {l : List Nat} (h : AddedN q.l r.l 8 l) : l = (addN q r).l := by
  refine List.ext_getElem (by rw [h.1]; rfl) fun t h1 h2 => ?_
  have ht := h.2 t
  have h8 := h.1
  rw [if_pos (by omega), List.getD_eq_getElem?_getD, List.getElem?_eq_getElem h1, Option.getD_some] at ht
  rw [ht]
  match t, (show t < 8 by omega) with
  | 0, _ => rfl
  | 1, _ => rfl
  | 2, _ => rfl
  | 3, _ => rfl
  | 4, _ => rfl
  | 5, _ => rfl
  | 6, _ => rfl
  | 7, _ => rfl
theorem l_eight (q : N8) : q.l.length = 8 := rfl
theorem AddedN.lt {q r : N8} {j : Nat} {l : List Nat} (h : AddedN q.l r.l j l) (hq : q.ok) (t : Nat) : l.getD t 0 < 2 ^ 32 := by
  rw [h.2 t]
  split
  · exact Nat.mod_lt _ (by decide)
  · exact N8.l_lt hq t

set_option maxHeartbeats 40000000 in
set_option maxRecDepth 100000 in
theorem loop7 (x0 x1 x2 x3 x4 x5 x6 x8 x9 x10 x11 x12 x13 x14 x15 x16 x18 x19 x20 x21 x22 x23 x24 x26 x27 x28 x29 x30 x31 x32 x33 x34 x35 x36 x37 x38 x39 x40 x41 x42 x43 x44 x45 x46 x47 x48 x49 x50 x51 x52 x53 x54 x55 x56 x57 x58 x59 x60 x61 x62 x63 x64 x65 x66 x67 x68 x69 x70 x71 x72 x73 x74 x75 x76 x77 x78 x79 x80 x81 x82 x83 x84 x85 x86 x87 x88 x89 x90 x91 x92 x93 x94 x95 x96 x97 x98 x99 x100 x101 x102 x103 x104 x105 x106 x107 x108 x109 x110 x111 x112 x113 x114 x115 x116 x117 x118 x119 x120 x121 x122 x123 x124 x125 x126 x127 x128 x129 x130 x131 x132 x133 x134 x135 x136 x137 x138 x139 x140 x141 x142 x143 x144 x145 x146 x147 x148 x149 x150 x151 x152 x153 x154 x155 x156 x157 x158 x159 x160 x161 x162 x163 x164 x165 x166 x167 x168 x169 x170 x171 x172 x173 x174 x175 x176 x177 x178 x179 x180 x181 x182 x183 x184 x185 x186 x187 x188 x189 x190 x191 x192 x193 x194 x195 x196 x197 x198 x199 x200 x201 x202 x203 x204 x205 x206 x207 x208 x209 x210 x211 x212 x213 x214 x215 x216 x217 x218 x219 x220 x221 x222 x223 x224 x225 x226 x227 x228 x229 x230 x231 x232 x233 x234 x235 x236 x237 x238 x239 x240 x241 x242 x243 x244 x245 x246 x247 x248 x249 x250 x251 x252 x253 x254 x255 x256 x257 x258 x259 x260 x261 x262 x263 x264 x265 x266 x267 x268 x269 x270 x271 x272 x273 x274 x275 x276 x277 x278 x279 x280 x281 x282 x283 : Value) (w : World) (q r : N8) (hq : q.ok) (hr : r.ok) (hb hc g c : Nat) (hh : HAt w hb q.l) (hv : VAt w g r) (hne : hb ≠ g) (Q0 : Exit → Act → World → Prop)
    (hexit : ∀ (u25 u246 u247 u248 u249 u250 u251 u252 u253 u254 u255 u256 u257 u258 u259 u260 u261 u262 : Value) (w' : World), HAt w' hb (addN q r).l → Below hb w w' → Q0 (.exit 12) ⟨#[x0, x1, x2, x3, x4, x5, x6, .slice (some ⟨hb, 0, none⟩) 8 hc, x8, x9, x10, x11, x12, x13, x14, x15, x16, .slice (some ⟨g, 0, none⟩) 8 c, x18, x19, x20, x21, x22, x23, x24, u25, x26, x27, x28, x29, x30, x31, x32, x33, x34, x35, x36, x37, x38, x39, x40, x41, x42, x43, x44, x45, x46, x47, x48, x49, x50, x51, x52, x53, x54, x55, x56, x57, x58, x59, x60, x61, x62, x63, x64, x65, x66, x67, x68, x69, x70, x71, x72, x73, x74, x75, x76, x77, x78, x79, x80, x81, x82, x83, x84, x85, x86, x87, x88, x89, x90, x91, x92, x93, x94, x95, x96, x97, x98, x99, x100, x101, x102, x103, x104, x105, x106, x107, x108, x109, x110, x111, x112, x113, x114, x115, x116, x117, x118, x119, x120, x121, x122, x123, x124, x125, x126, x127, x128, x129, x130, x131, x132, x133, x134, x135, x136, x137, x138, x139, x140, x141, x142, x143, x144, x145, x146, x147, x148, x149, x150, x151, x152, x153, x154, x155, x156, x157, x158, x159, x160, x161, x162, x163, x164, x165, x166, x167, x168, x169, x170, x171, x172, x173, x174, x175, x176, x177, x178, x179, x180, x181, x182, x183, x184, x185, x186, x187, x188, x189, x190, x191, x192, x193, x194, x195, x196, x197, x198, x199, x200, x201, x202, x203, x204, x205, x206, x207, x208, x209, x210, x211, x212, x213, x214, x215, x216, x217, x218, x219, x220, x221, x222, x223, x224, x225, x226, x227, x228, x229, x230, x231, x232, x233, x234, x235, x236, x237, x238, x239, x240, x241, x242, x243, x244, x245, u246, u247, u248, u249, u250, u251, u252, u253, u254, u255, u256, u257, u258, u259, u260, u261, u262, x263, x264, x265, x266, x267, x268, x269, x270, x271, x272, x273, x274, x275, x276, x277, x278, x279, x280, x281, x282, x283], []⟩ w') :
    Code.wp Tryd.prog (sub [true, true, true, true, true, true, false, true, false, false, true, false, false, true, true, true, true, true, false] (Tryd.f11.body.getD .skip)) Q0 ⟨#[x0, x1, x2, x3, x4, x5, x6, .slice (some ⟨hb, 0, none⟩) 8 hc, x8, x9, x10, x11, x12, x13, x14, x15, x16, .slice (some ⟨g, 0, none⟩) 8 c, x18, x19, x20, x21, x22, x23, x24, .int .i64 0, x26, x27, x28, x29, x30, x31, x32, x33, x34, x35, x36, x37, x38, x39, x40, x41, x42, x43, x44, x45, x46, x47, x48, x49, x50, x51, x52, x53, x54, x55, x56, x57, x58, x59, x60, x61, x62, x63, x64, x65, x66, x67, x68, x69, x70, x71, x72, x73, x74, x75, x76, x77, x78, x79, x80, x81, x82, x83, x84, x85, x86, x87, x88, x89, x90, x91, x92, x93, x94, x95, x96, x97, x98, x99, x100, x101, x102, x103, x104, x105, x106, x107, x108, x109, x110, x111, x112, x113, x114, x115, x116, x117, x118, x119, x120, x121, x122, x123, x124, x125, x126, x127, x128, x129, x130, x131, x132, x133, x134, x135, x136, x137, x138, x139, x140, x141, x142, x143, x144, x145, x146, x147, x148, x149, x150, x151, x152, x153, x154, x155, x156, x157, x158, x159, x160, x161, x162, x163, x164, x165, x166, x167, x168, x169, x170, x171, x172, x173, x174, x175, x176, x177, x178, x179, x180, x181, x182, x183, x184, x185, x186, x187, x188, x189, x190, x191, x192, x193, x194, x195, x196, x197, x198, x199, x200, x201, x202, x203, x204, x205, x206, x207, x208, x209, x210, x211, x212, x213, x214, x215, x216, x217, x218, x219, x220, x221, x222, x223, x224, x225, x226, x227, x228, x229, x230, x231, x232, x233, x234, x235, x236, x237, x238, x239, x240, x241, x242, x243, x244, x245, x246, x247, x248, x249, x250, x251, x252, x253, x254, x255, x256, x257, x258, x259, x260, x261, x262, x263, x264, x265, x266, x267, x268, x269, x270, x271, x272, x273, x274, x275, x276, x277, x278, x279, x280, x281, x282, x283], []⟩ w := by
  have HX : Hid _ := hexit
  clear hexit
  have HQ : Hid (q.ok ∧ r.ok ∧ hb ≠ g ∧ HAt w hb q.l ∧ VAt w g r) := ⟨hq, hr, hne, hh, hv⟩
  clear hq hr hne hh hv
  conv => arg 2; whnf
  dsimp only
  go_loopw [25] (fun i wr => ∃ (j : Nat) (l : List Nat), j ≤ 8 ∧ i = .int .i64 j ∧ AddedN q.l r.l j l ∧ HAt wr hb l ∧ VAt wr g r ∧ Below hb w wr) (fun i _ => 8 - (intOf i).toNat)
  case atStart => exact ⟨0, q.l, by omega, rfl, AddedN.zero _ _ rfl, HQ.out.2.2.2.1, HQ.out.2.2.2.2, Below.refl _ _⟩
  case round =>
    obtain ⟨j, l, hj, rfl, had, hh, hv, hbl⟩ := hrel
    have HV : Hid (AddedN q.l r.l j l ∧ HAt wr hb l ∧ VAt wr g r ∧ Below hb w wr) := ⟨had, hh, hv, hbl⟩
    clear had hh hv hbl
    by_cases hlt : j < 8
    · have hji : (j : Int) < 8 := by omega
      have c1 := HV.out.2.1.lat j (by rw [HV.out.1.1]; exact hlt)
      have c2 := HV.out.2.2.1.at j hlt
      have f0 := HV.out.2.1.fro j
      have l1 := AddedN.lt HV.out.1 HQ.out.1 j
      have l2 := N8.l_lt HQ.out.2.1 j
      have HN : Hid (AddedN q.l r.l (j + 1) (l.set j ((l.getD j 0 + r.l.getD j 0) % 4294967296))) := HV.out.1.step hlt
      generalize l.getD j 0 = x at c1 l1 HN
      generalize r.l.getD j 0 = y at c2 l2 HN
      obtain ⟨s, hs⟩ : ∃ s, s = x + y := ⟨_, rfl⟩
      obtain ⟨m, hm⟩ : ∃ m, m = s % 4294967296 := ⟨_, rfl⟩
      rw [← hs, ← hm] at HN
      have e1 : (x : Int) + (y : Int) = (s : Int) := by omega
      have HW : Hid (∀ W : World, Calls Tryd.prog 38 #[.int .i64 s] W fun e w' => e = .returned (.int .i64 (m : Int)) ∧ w' = W) := fun W => by rw [hm]; exact Wrap_any s W
      have f1 := wr60 s (by omega)
      clear hm hs l1 l2
      go_wp2
      refine wp_region_noPanic ?_
      go_region_with (go_at_call 38; refine (HW.out _).mono ?_; rintro e w' ⟨rfl, rfl⟩)
      all_goals clear f1
      all_goals refine NoPanic.normal ?_
      all_goals go_wp2
      all_goals refine ⟨⟨j + 1, _, by omega, by go_num, HN.out, HV.out.2.1.set j m, HV.out.2.2.1.far HQ.out.2.2.1, (HV.out.2.2.2.setCell (p := ⟨hb, j, none⟩) (Nat.le_refl _) _).drew⟩, by simp [intOf]; omega⟩
    · obtain rfl : j = 8 := by omega
      go_wp2
      obtain ⟨h1, h2, h3, h4⟩ := HV.out
      exact HX.out _ _ _ _ _ _ _ _ _ _ _ _ _ _ _ _ _ _ _ (by rw [← h1.done]; exact h2) h4
end Go.Proofs.YtagelkaenbdlaaaDoor
