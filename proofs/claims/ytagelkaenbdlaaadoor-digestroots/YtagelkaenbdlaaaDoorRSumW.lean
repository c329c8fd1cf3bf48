/- The document's own Sum: the words of a block. -/
import Derived.Test.YtagelkaenbdlaaaDoorRSumH
import Derived.Deep.RegionLaw
namespace Go.Proofs.YtagelkaenbdlaaaDoor
open Go.RowKit

theorem infI : (Tryd.prog.info? 3).map (fun i => (i.zero, i.size, i.bytes)) = some (some (.int .i64 0), 1, 8) := by kernel_rfl
/-- Numbers, as cells in a row. -/
def ics (l : List Nat) : List Value := l.map fun (n : Nat) => Value.int .i64 (n : Int)
theorem ics_get (l : List Nat) (j : Nat) (hj : j < l.length) : (ics l)[j]? = some (.int .i64 (l.getD j 0 : Nat)) := by
  rw [List.getD_eq_getElem?_getD, List.getElem?_eq_getElem hj]
  simp [ics, hj]

theorem step_call {P : Program} {ops : Array Oper} {o : Oper} {a : Act} {w : World} {K : Act → World → Prop} {Q : Exit → Act → World → Prop} {E : Prop} (hg : o.guard = none) (h : Oper.wp P o a w K Q) : if Region.wanted o (yielded ops a.tmps) = true then Oper.wp P o a w K Q else E := by
  have hw : Region.wanted o (yielded ops a.tmps) = true := by simp [Region.wanted, hg]
  rw [if_pos hw]
  exact h

set_option maxHeartbeats 4000000 in
set_option maxRecDepth 100000 in
theorem r27 (x0 x1 x2 x3 x4 x5 x6 x7 x8 x11 x12 x13 x14 x17 x18 x19 x20 x21 x22 x23 x24 x25 x26 x27 x28 x29 x30 x31 x32 x33 x34 x35 x36 x37 x38 x39 x40 x41 x42 x43 x44 x45 x46 x47 x48 x49 x50 x51 x52 x53 x54 x55 x56 x57 x58 x59 x60 x61 x62 x63 x64 x65 x66 x67 x68 x69 x70 x71 x72 x73 x74 x75 x76 x77 x78 x79 x80 x81 x82 x83 x84 x85 x86 x87 x88 x89 x90 x91 x92 x93 x94 x95 x96 x97 x98 x99 x100 x101 x102 x103 x104 x105 x106 x107 x108 x109 x110 x111 x112 x113 x114 x115 x116 x117 x118 x119 x120 x121 x122 x123 x124 x125 x126 x127 x128 x129 x130 x131 x132 x133 x134 x135 x136 x137 x138 x139 x140 x141 x142 x143 x144 x145 x146 x147 x148 x149 x150 x151 x152 x153 x154 x155 x156 x157 x158 x159 x160 x161 x162 x163 x164 x165 x166 x167 x168 x169 x170 x171 x172 x173 x174 x175 x176 x177 x178 x179 x180 x181 x182 x183 x184 x185 x186 x187 x188 x189 x190 x191 x192 x193 x194 x195 x196 x197 x198 x199 x200 x201 x202 x203 x204 x205 x206 x207 x208 x209 x210 x211 x212 x213 x214 x215 x216 x217 x218 x219 x220 x221 x222 x223 x224 x225 x226 x227 x228 x229 x230 x231 x232 x233 x234 x235 x236 x237 x238 x239 x240 x241 x242 x243 x244 x245 x246 x247 x248 x249 x250 x251 x252 x253 x254 x255 x256 x257 x258 x259 x260 x261 x262 x263 x264 x265 x266 x267 x268 x269 x270 x271 x272 x273 x274 x275 x276 x277 x278 x279 x280 x281 x282 x283 : Value) (w0 w : World) (t g cap s0 s1 : Nat) (l : List Nat) (ht : 16 ≤ t) (ht2 : t < 64) (hl : l.length = t) (h32 : ∀ x ∈ l, x < 2 ^ 32) (h0 : s0 < 2 ^ 32) (h1 : s1 < 2 ^ 32)
    (hown : w.ownsRow w0.heap.size 3 1 (.slice (some ⟨g, 0, none⟩) t cap) t (ics l)) (hb : Below w0.heap.size w0 w) (Q0 : Exit → Act → World → Prop)
    (hexit : ∀ (u118 u119 u120 u121 u122 u123 u124 u125 u126 u127 u128 u129 u130 u131 u132 u133 u134 u135 u136 : Value) (g' cap' : Nat) (w' : World), w'.ownsRow w0.heap.size 3 1 (.slice (some ⟨g', 0, none⟩) (t + 1) cap') (t + 1) (ics (l ++ [(l.getD (t - 16) 0 + s0 + l.getD (t - 7) 0 + s1) % 4294967296])) → Below w0.heap.size w0 w' → Q0 .normal ⟨#[x0, x1, x2, x3, x4, x5, x6, x7, x8, .slice (some ⟨g', 0, none⟩) (t + 1) cap', .int .i64 t, x11, x12, x13, x14, .int .i64 s0, .int .i64 s1, x17, x18, x19, x20, x21, x22, x23, x24, x25, x26, x27, x28, x29, x30, x31, x32, x33, x34, x35, x36, x37, x38, x39, x40, x41, x42, x43, x44, x45, x46, x47, x48, x49, x50, x51, x52, x53, x54, x55, x56, x57, x58, x59, x60, x61, x62, x63, x64, x65, x66, x67, x68, x69, x70, x71, x72, x73, x74, x75, x76, x77, x78, x79, x80, x81, x82, x83, x84, x85, x86, x87, x88, x89, x90, x91, x92, x93, x94, x95, x96, x97, x98, x99, x100, x101, x102, x103, x104, x105, x106, x107, x108, x109, x110, x111, x112, x113, x114, x115, x116, x117, u118, u119, u120, u121, u122, u123, u124, u125, u126, u127, u128, u129, u130, u131, u132, u133, u134, u135, u136, x137, x138, x139, x140, x141, x142, x143, x144, x145, x146, x147, x148, x149, x150, x151, x152, x153, x154, x155, x156, x157, x158, x159, x160, x161, x162, x163, x164, x165, x166, x167, x168, x169, x170, x171, x172, x173, x174, x175, x176, x177, x178, x179, x180, x181, x182, x183, x184, x185, x186, x187, x188, x189, x190, x191, x192, x193, x194, x195, x196, x197, x198, x199, x200, x201, x202, x203, x204, x205, x206, x207, x208, x209, x210, x211, x212, x213, x214, x215, x216, x217, x218, x219, x220, x221, x222, x223, x224, x225, x226, x227, x228, x229, x230, x231, x232, x233, x234, x235, x236, x237, x238, x239, x240, x241, x242, x243, x244, x245, x246, x247, x248, x249, x250, x251, x252, x253, x254, x255, x256, x257, x258, x259, x260, x261, x262, x263, x264, x265, x266, x267, x268, x269, x270, x271, x272, x273, x274, x275, x276, x277, x278, x279, x280, x281, x282, x283], []⟩ w') :
    Code.wp Tryd.prog (sub [true, true, true, true, true, true, false, true, false, false, true, false, false, true, false, true, false, false, true, false, false, true, true, true, true] (Tryd.f11.body.getD .skip)) Q0 ⟨#[x0, x1, x2, x3, x4, x5, x6, x7, x8, .slice (some ⟨g, 0, none⟩) t cap, .int .i64 t, x11, x12, x13, x14, .int .i64 s0, .int .i64 s1, x17, x18, x19, x20, x21, x22, x23, x24, x25, x26, x27, x28, x29, x30, x31, x32, x33, x34, x35, x36, x37, x38, x39, x40, x41, x42, x43, x44, x45, x46, x47, x48, x49, x50, x51, x52, x53, x54, x55, x56, x57, x58, x59, x60, x61, x62, x63, x64, x65, x66, x67, x68, x69, x70, x71, x72, x73, x74, x75, x76, x77, x78, x79, x80, x81, x82, x83, x84, x85, x86, x87, x88, x89, x90, x91, x92, x93, x94, x95, x96, x97, x98, x99, x100, x101, x102, x103, x104, x105, x106, x107, x108, x109, x110, x111, x112, x113, x114, x115, x116, x117, x118, x119, x120, x121, x122, x123, x124, x125, x126, x127, x128, x129, x130, x131, x132, x133, x134, x135, x136, x137, x138, x139, x140, x141, x142, x143, x144, x145, x146, x147, x148, x149, x150, x151, x152, x153, x154, x155, x156, x157, x158, x159, x160, x161, x162, x163, x164, x165, x166, x167, x168, x169, x170, x171, x172, x173, x174, x175, x176, x177, x178, x179, x180, x181, x182, x183, x184, x185, x186, x187, x188, x189, x190, x191, x192, x193, x194, x195, x196, x197, x198, x199, x200, x201, x202, x203, x204, x205, x206, x207, x208, x209, x210, x211, x212, x213, x214, x215, x216, x217, x218, x219, x220, x221, x222, x223, x224, x225, x226, x227, x228, x229, x230, x231, x232, x233, x234, x235, x236, x237, x238, x239, x240, x241, x242, x243, x244, x245, x246, x247, x248, x249, x250, x251, x252, x253, x254, x255, x256, x257, x258, x259, x260, x261, x262, x263, x264, x265, x266, x267, x268, x269, x270, x271, x272, x273, x274, x275, x276, x277, x278, x279, x280, x281, x282, x283], []⟩ w := by
  obtain ⟨i0, hi, hz0, hz1, hz2⟩ := info_p infI
  have HX : Hid _ := hexit
  have HO : Hid (w.ownsRow w0.heap.size 3 1 (.slice (some ⟨g, 0, none⟩) t cap) t (ics l)) := hown
  have HB : Hid (Below w0.heap.size w0 w) := hb
  have c1 : w.cell? ⟨g, t - 16, none⟩ = some (.int .i64 (l.getD (t - 16) 0 : Nat)) := (hown.cellAt (t - 16) (by omega)).trans (ics_get l _ (by omega))
  have c2 : w.cell? ⟨g, t - 7, none⟩ = some (.int .i64 (l.getD (t - 7) 0 : Nat)) := (hown.cellAt (t - 7) (by omega)).trans (ics_get l _ (by omega))
  have l1 := get_lt l h32 (t - 16)
  have l2 := get_lt l h32 (t - 7)
  clear hexit hown hb
  generalize l.getD (t - 16) 0 = x at c1 HX l1
  generalize l.getD (t - 7) 0 = y at c2 HX l2
  obtain ⟨i16, h16⟩ : ∃ i16, i16 = t - 16 := ⟨_, rfl⟩
  obtain ⟨i7, h7⟩ : ∃ i7, i7 = t - 7 := ⟨_, rfl⟩
  rw [← h16] at c1
  rw [← h7] at c2
  have e16 : (t : Int) - 16 = (i16 : Int) := by omega
  have e7 : (t : Int) - 7 = (i7 : Int) := by omega
  have d16 : (i16 : Int) < (t : Int) := by omega
  have d7 : (i7 : Int) < (t : Int) := by omega
  obtain ⟨a1, ha1⟩ : ∃ a1, a1 = x + s0 := ⟨_, rfl⟩
  obtain ⟨a2, ha2⟩ : ∃ a2, a2 = a1 + y := ⟨_, rfl⟩
  obtain ⟨a3, ha3⟩ : ∃ a3, a3 = a2 + s1 := ⟨_, rfl⟩
  obtain ⟨m, hm⟩ : ∃ m, m = a3 % 4294967296 := ⟨_, rfl⟩
  rw [← ha1, ← ha2, ← ha3, ← hm] at HX
  have e1 : (x : Int) + (s0 : Int) = (a1 : Int) := by omega
  have e2 : (a1 : Int) + (y : Int) = (a2 : Int) := by omega
  have e3 : (a2 : Int) + (s1 : Int) = (a3 : Int) := by omega
  have HW : Hid (∀ W : World, Calls Tryd.prog 38 #[.int .i64 a3] W fun e w' => e = .returned (.int .i64 (m : Int)) ∧ w' = W) := fun W => by rw [hm]; exact Wrap_any a3 W
  have q1 : t + 1 ≤ maxLen := by unfold maxLen; omega
  have q2 : (t + 1) * 8 ≤ 140737488355328 := by omega
  have hti : (t : Int) < 64 := by omega
  have q3 : w0.heap.size ≤ ((w.alloc (.cells #[.int .i64 (m : Int)] 3)).drew).heap.size := by show w0.heap.size ≤ (w.alloc (.cells #[.int .i64 (m : Int)] 3)).heap.size; rw [World.size_alloc]; have := HB.out.size; omega
  have q4 : ((w.alloc (.cells #[.int .i64 (m : Int)] 3)).drew).heap.size = w.heap.size + 1 := by show (w.alloc (.cells #[.int .i64 (m : Int)] 3)).heap.size = _; rw [World.size_alloc]
  have HOW : Hid (((w.alloc (.cells #[.int .i64 (m : Int)] 3)).drew).ownsRow w0.heap.size 3 1 (.slice (some ⟨g, 0, none⟩) t cap) t (ics l)) := HO.out.alloc _
  have HNW : Hid (∀ (j : Nat) (u : Value), [Value.int .i64 (m : Int)][j]? = some u → ((w.alloc (.cells #[.int .i64 (m : Int)] 3)).drew).cell? ((⟨w.heap.size, 0, none⟩ : Addr).add j) = some u) := by
    intro j u hj
    match j, hj with
    | 0, hj =>
      simp at hj
      subst hj
      exact al_at w _ _ _ 0 _ rfl rfl
  have hone : ∀ u ∈ [Value.int .i64 (m : Int)], u.oneCell' = true := by intro u hu; simp at hu; subst hu; rfl
  have f1 := wr60 a1 (by omega)
  have f2 := wr60 a2 (by omega)
  have f3 := wr60 a3 (by omega)
  have f4 := wr60 i16 (by omega)
  have f5 := wr60 i7 (by omega)
  clear ha1 ha2 ha3 hm h16 h7 l1 l2 h0 h1 h32 hl ht ht2
  conv => arg 2; whnf
  refine wp_region_noPanic ?_
  go_region_law (first
      | ((refine step_append_lies ((w.alloc (.cells #[.int .i64 (m : Int)] 3)).drew) (by rfl) (Operand.tmp 118) (Operand.tmp 135) 57 (by rfl) w0.heap.size 3 i0 (.int .i64 0) 1 8 Tryd.underlying57 hi hz0 hz1 hz2 rfl (by decide) (.slice (some ⟨g, 0, none⟩) t cap) t (ics l) (by rfl) HOW.out ⟨w.heap.size, 0, none⟩ 1 1 [.int .i64 (m : Int)] (by rfl) rfl HNW.out hone (by decide) q1 q2 q3 (w.heap.size + 1) q4 ?_; intro g' cap' w1 hown1 hgrow hat hltg))
      | (refine step_call (by rfl) ?_; go_simp; go_at_call 38; refine (HW.out _).mono ?_; rintro e w' ⟨rfl, rfl⟩)
      | fail)
  all_goals exact HX.out _ _ _ _ _ _ _ _ _ _ _ _ _ _ _ _ _ _ _ _ _ _ (by rw [show ics (l ++ [m]) = ics l ++ [.int .i64 (m : Int)] from by simp [ics]]; exact hown1) (((HB.out.alloc HB.out.size _).drew).grown hgrow q3 (fun j hj => (HO.out.lt j hj).1))
end Go.Proofs.YtagelkaenbdlaaaDoor
