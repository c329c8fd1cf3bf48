/- The document's own Sum: one round's parts. -/
import Derived.Test.YtagelkaenbdlaaaDoorRSumC
namespace Go.Proofs.YtagelkaenbdlaaaDoor
open Go.RowKit

theorem Xor_2 (W : World) (b a1 a2 : Nat) (h1 : a1 < 2 ^ 32) (h2 : a2 < 2 ^ 32) (r : Nat) (hr : r = a1 ^^^ a2) (c0 : W.cell? ⟨b, 0, none⟩ = some (.int .i64 a1)) (c1 : W.cell? ⟨b, 1, none⟩ = some (.int .i64 a2)) :
    Calls Tryd.prog 36 #[.slice (some ⟨b, 0, none⟩) 2 2] W fun e w' => e = .returned (.int .i64 (r : Int)) ∧ w' = W := by
  have := Xor_any b 2 [a1, a2] W (by simp) (by simp [h1, h2]) (fun j hj => by match j, hj with | 0, _ => exact c0 | 1, _ => exact c1)
  rw [hr]
  simpa [xors] using this
theorem Xor_3 (W : World) (b a1 a2 a3 : Nat) (h1 : a1 < 2 ^ 32) (h2 : a2 < 2 ^ 32) (h3 : a3 < 2 ^ 32) (r : Nat) (hr : r = a1 ^^^ a2 ^^^ a3) (c0 : W.cell? ⟨b, 0, none⟩ = some (.int .i64 a1)) (c1 : W.cell? ⟨b, 1, none⟩ = some (.int .i64 a2)) (c2 : W.cell? ⟨b, 2, none⟩ = some (.int .i64 a3)) :
    Calls Tryd.prog 36 #[.slice (some ⟨b, 0, none⟩) 3 3] W fun e w' => e = .returned (.int .i64 (r : Int)) ∧ w' = W := by
  have := Xor_any b 3 [a1, a2, a3] W (by simp) (by simp [h1, h2, h3]) (fun j hj => by match j, hj with | 0, _ => exact c0 | 1, _ => exact c1 | 2, _ => exact c2)
  rw [hr]
  simpa [xors] using this

set_option maxHeartbeats 4000000 in
set_option maxRecDepth 100000 in
theorem r33 (x0 x1 x2 x3 x4 x5 x6 x7 x8 x9 x10 x11 x12 x13 x14 x15 x16 x18 x19 x21 x22 x23 x24 x25 x26 x27 x28 x29 x30 x31 x32 x33 x34 x35 x36 x37 x38 x39 x40 x41 x42 x43 x44 x45 x46 x47 x48 x49 x50 x51 x52 x53 x54 x55 x56 x57 x58 x59 x60 x61 x62 x63 x64 x65 x66 x67 x68 x69 x70 x71 x72 x73 x74 x75 x76 x77 x78 x79 x80 x81 x82 x83 x84 x85 x86 x87 x88 x89 x90 x91 x92 x93 x94 x95 x96 x97 x98 x99 x100 x101 x102 x103 x104 x105 x106 x107 x108 x109 x110 x111 x112 x113 x114 x115 x116 x117 x118 x119 x120 x121 x122 x123 x124 x125 x126 x127 x128 x129 x130 x131 x132 x133 x134 x135 x136 x137 x138 x139 x140 x141 x142 x143 x144 x145 x146 x147 x148 x149 x150 x151 x152 x153 x154 x155 x156 x157 x158 x159 x160 x161 x162 x163 x164 x165 x166 x167 x168 x169 x170 x171 x172 x173 x174 x175 x176 x177 x178 x179 x180 x181 x182 x183 x184 x185 x186 x187 x188 x189 x190 x191 x192 x193 x194 x195 x196 x197 x198 x199 x200 x201 x202 x203 x204 x205 x206 x207 x208 x209 x210 x211 x212 x213 x214 x215 x216 x217 x218 x219 x220 x221 x222 x223 x224 x225 x226 x227 x228 x229 x230 x231 x232 x233 x234 x235 x236 x237 x238 x239 x240 x241 x242 x243 x244 x245 x246 x247 x248 x249 x250 x251 x252 x253 x254 x255 x256 x257 x258 x259 x260 x261 x262 x263 x264 x265 x266 x267 x268 x269 x270 x271 x272 x273 x274 x275 x276 x277 x278 x279 x280 x281 x282 x283 : Value) (w : World) (e f h g c : Nat) (he : e < 2 ^ 32) (hf : f < 2 ^ 32) (hh : h < 2 ^ 32)
    (c5 : w.cell? ⟨g, 5, none⟩ = some (.int .i64 f)) (c6 : w.cell? ⟨g, 6, none⟩ = some (.int .i64 h)) (hg : g < w.heap.size) (Q0 : Exit → Act → World → Prop)
    (hexit : ∀ (u150 u151 u152 u153 u154 u155 u156 u157 u158 u159 u160 u161 u162 : Value) (w' : World), Below w.heap.size w w' → Q0 .normal ⟨#[x0, x1, x2, x3, x4, x5, x6, x7, x8, x9, x10, x11, x12, x13, x14, x15, x16, .slice (some ⟨g, 0, none⟩) 8 c, x18, x19, .int .i64 e, .int .i64 (chN e f h : Nat), x22, x23, x24, x25, x26, x27, x28, x29, x30, x31, x32, x33, x34, x35, x36, x37, x38, x39, x40, x41, x42, x43, x44, x45, x46, x47, x48, x49, x50, x51, x52, x53, x54, x55, x56, x57, x58, x59, x60, x61, x62, x63, x64, x65, x66, x67, x68, x69, x70, x71, x72, x73, x74, x75, x76, x77, x78, x79, x80, x81, x82, x83, x84, x85, x86, x87, x88, x89, x90, x91, x92, x93, x94, x95, x96, x97, x98, x99, x100, x101, x102, x103, x104, x105, x106, x107, x108, x109, x110, x111, x112, x113, x114, x115, x116, x117, x118, x119, x120, x121, x122, x123, x124, x125, x126, x127, x128, x129, x130, x131, x132, x133, x134, x135, x136, x137, x138, x139, x140, x141, x142, x143, x144, x145, x146, x147, x148, x149, u150, u151, u152, u153, u154, u155, u156, u157, u158, u159, u160, u161, u162, x163, x164, x165, x166, x167, x168, x169, x170, x171, x172, x173, x174, x175, x176, x177, x178, x179, x180, x181, x182, x183, x184, x185, x186, x187, x188, x189, x190, x191, x192, x193, x194, x195, x196, x197, x198, x199, x200, x201, x202, x203, x204, x205, x206, x207, x208, x209, x210, x211, x212, x213, x214, x215, x216, x217, x218, x219, x220, x221, x222, x223, x224, x225, x226, x227, x228, x229, x230, x231, x232, x233, x234, x235, x236, x237, x238, x239, x240, x241, x242, x243, x244, x245, x246, x247, x248, x249, x250, x251, x252, x253, x254, x255, x256, x257, x258, x259, x260, x261, x262, x263, x264, x265, x266, x267, x268, x269, x270, x271, x272, x273, x274, x275, x276, x277, x278, x279, x280, x281, x282, x283], []⟩ w') :
    Code.wp Tryd.prog (sub [true, true, true, true, true, true, false, true, false, false, true, false, false, true, true, true, false, true, false, false, true, false, false, true, false] (Tryd.f11.body.getD .skip)) Q0 ⟨#[x0, x1, x2, x3, x4, x5, x6, x7, x8, x9, x10, x11, x12, x13, x14, x15, x16, .slice (some ⟨g, 0, none⟩) 8 c, x18, x19, .int .i64 e, x21, x22, x23, x24, x25, x26, x27, x28, x29, x30, x31, x32, x33, x34, x35, x36, x37, x38, x39, x40, x41, x42, x43, x44, x45, x46, x47, x48, x49, x50, x51, x52, x53, x54, x55, x56, x57, x58, x59, x60, x61, x62, x63, x64, x65, x66, x67, x68, x69, x70, x71, x72, x73, x74, x75, x76, x77, x78, x79, x80, x81, x82, x83, x84, x85, x86, x87, x88, x89, x90, x91, x92, x93, x94, x95, x96, x97, x98, x99, x100, x101, x102, x103, x104, x105, x106, x107, x108, x109, x110, x111, x112, x113, x114, x115, x116, x117, x118, x119, x120, x121, x122, x123, x124, x125, x126, x127, x128, x129, x130, x131, x132, x133, x134, x135, x136, x137, x138, x139, x140, x141, x142, x143, x144, x145, x146, x147, x148, x149, x150, x151, x152, x153, x154, x155, x156, x157, x158, x159, x160, x161, x162, x163, x164, x165, x166, x167, x168, x169, x170, x171, x172, x173, x174, x175, x176, x177, x178, x179, x180, x181, x182, x183, x184, x185, x186, x187, x188, x189, x190, x191, x192, x193, x194, x195, x196, x197, x198, x199, x200, x201, x202, x203, x204, x205, x206, x207, x208, x209, x210, x211, x212, x213, x214, x215, x216, x217, x218, x219, x220, x221, x222, x223, x224, x225, x226, x227, x228, x229, x230, x231, x232, x233, x234, x235, x236, x237, x238, x239, x240, x241, x242, x243, x244, x245, x246, x247, x248, x249, x250, x251, x252, x253, x254, x255, x256, x257, x258, x259, x260, x261, x262, x263, x264, x265, x266, x267, x268, x269, x270, x271, x272, x273, x274, x275, x276, x277, x278, x279, x280, x281, x282, x283], []⟩ w := by
  have HX : Hid (∀ (u150 u151 u152 u153 u154 u155 u156 u157 u158 u159 u160 u161 u162 : Value) (w' : World), Below w.heap.size w w' → Q0 .normal ⟨#[x0, x1, x2, x3, x4, x5, x6, x7, x8, x9, x10, x11, x12, x13, x14, x15, x16, .slice (some ⟨g, 0, none⟩) 8 c, x18, x19, .int .i64 e, .int .i64 (chN e f h : Nat), x22, x23, x24, x25, x26, x27, x28, x29, x30, x31, x32, x33, x34, x35, x36, x37, x38, x39, x40, x41, x42, x43, x44, x45, x46, x47, x48, x49, x50, x51, x52, x53, x54, x55, x56, x57, x58, x59, x60, x61, x62, x63, x64, x65, x66, x67, x68, x69, x70, x71, x72, x73, x74, x75, x76, x77, x78, x79, x80, x81, x82, x83, x84, x85, x86, x87, x88, x89, x90, x91, x92, x93, x94, x95, x96, x97, x98, x99, x100, x101, x102, x103, x104, x105, x106, x107, x108, x109, x110, x111, x112, x113, x114, x115, x116, x117, x118, x119, x120, x121, x122, x123, x124, x125, x126, x127, x128, x129, x130, x131, x132, x133, x134, x135, x136, x137, x138, x139, x140, x141, x142, x143, x144, x145, x146, x147, x148, x149, u150, u151, u152, u153, u154, u155, u156, u157, u158, u159, u160, u161, u162, x163, x164, x165, x166, x167, x168, x169, x170, x171, x172, x173, x174, x175, x176, x177, x178, x179, x180, x181, x182, x183, x184, x185, x186, x187, x188, x189, x190, x191, x192, x193, x194, x195, x196, x197, x198, x199, x200, x201, x202, x203, x204, x205, x206, x207, x208, x209, x210, x211, x212, x213, x214, x215, x216, x217, x218, x219, x220, x221, x222, x223, x224, x225, x226, x227, x228, x229, x230, x231, x232, x233, x234, x235, x236, x237, x238, x239, x240, x241, x242, x243, x244, x245, x246, x247, x248, x249, x250, x251, x252, x253, x254, x255, x256, x257, x258, x259, x260, x261, x262, x263, x264, x265, x266, x267, x268, x269, x270, x271, x272, x273, x274, x275, x276, x277, x278, x279, x280, x281, x282, x283], []⟩ w') := hexit
  clear hexit
  have HB : Hid (Below w.heap.size w w) := Below.refl _ _
  obtain ⟨ne, hne⟩ : ∃ ne, ne = 4294967295 - e := ⟨_, rfl⟩
  have hsub : (4294967295 : Int) - (e : Int) = (ne : Int) := by omega
  obtain ⟨a1, ha1⟩ : ∃ a1, a1 = e &&& f := ⟨_, rfl⟩
  obtain ⟨a2, ha2⟩ : ∃ a2, a2 = ne &&& h := ⟨_, rfl⟩
  obtain ⟨r, hr⟩ : ∃ r, r = a1 ^^^ a2 := ⟨_, rfl⟩
  have HR : Hid (chN e f h = r) := by show _ = _; unfold chN; rw [hr, ha1, ha2, hne]
  have HA1 : Hid (∀ W : World, Calls Tryd.prog 39 #[.int .i64 e, .int .i64 f] W fun e w' => e = .returned (.int .i64 (a1 : Int)) ∧ w' = W) := fun W => by rw [ha1]; exact And_any e f W he hf
  have HA2 : Hid (∀ W : World, Calls Tryd.prog 39 #[.int .i64 ne, .int .i64 h] W fun e w' => e = .returned (.int .i64 (a2 : Int)) ∧ w' = W) := fun W => by rw [ha2]; exact And_any ne h W (by omega) hh
  have HXO : Hid (∀ (W : World) (b : Nat), W.cell? ⟨b, 0, none⟩ = some (.int .i64 a1) → W.cell? ⟨b, 1, none⟩ = some (.int .i64 a2) → Calls Tryd.prog 36 #[.slice (some ⟨b, 0, none⟩) 2 2] W fun e w' => e = .returned (.int .i64 (r : Int)) ∧ w' = W) := fun W b =>
    Xor_2 W b a1 a2 (by rw [ha1]; exact Nat.and_lt_two_pow _ hf) (by rw [ha2]; exact Nat.and_lt_two_pow _ hh) r hr
  rw [HR.out] at HX
  have wn : IntKind.i64.wrap (ne : Int) = (ne : Int) := wr62 ne (by omega)
  clear hr ha1 ha2 he hf hh HR hne
  conv => arg 2; whnf
  go_region_held3 (fun w' => w'.cell? ⟨g, 5, none⟩ = some (.int .i64 f) ∧ w'.cell? ⟨g, 6, none⟩ = some (.int .i64 h) ∧ g < w'.heap.size)
    (first | (simp [go_sem, *]; done) | (simp [go_sem, c5, c6, hg]; omega))
    (first
      | (go_at_call_of 39 (Value.int IntKind.i64 (e : Int)); refine (HA1.out _).mono ?_; rintro e w' ⟨rfl, rfl⟩)
      | (go_at_call_of 39 (Value.int IntKind.i64 (ne : Int)); refine (HA2.out _).mono ?_; rintro e w' ⟨rfl, rfl⟩)
      | (go_at_call 36; refine (HXO.out _ _ (by simp [go_sem]) (by simp [go_sem])).mono ?_; rintro e w' ⟨rfl, rfl⟩)
      | fail)
  all_goals exact HX.out _ _ _ _ _ _ _ _ _ _ _ _ _ _ (HB.out.alloc (Nat.le_refl _) _).drew

theorem al_at (W : World) (b : Nat) (cs : Array Value) (ty : TypeId) (k : Nat) (v : Value) (hb : b = W.heap.size) (hv : cs[k]? = some v) : (W.alloc (.cells cs ty)).cell? ⟨b, k, none⟩ = some v := by
  subst hb
  rw [Lib.cell_of_heap (heap_alloc_new W _)]
  exact hv
theorem bl_al {a w : World} (h : Below a.heap.size a w) (o : Obj) : Below a.heap.size a (w.alloc o) := h.alloc h.size o
theorem bl_dn {a w : World} (h : Below a.heap.size a w) (n : Nat) : Below a.heap.size a (w.drewN n) := below_drewN h n
theorem bl_dr {a w : World} (h : Below a.heap.size a w) : Below a.heap.size a w.drew := h.drew
theorem wr60 (n : Nat) (h : n < 2 ^ 40) : IntKind.i64.wrap (n : Int) = (n : Int) := by rw [IntKind.wrap_i64]; omega
theorem big_lt (x : Nat) (hx : x < 2 ^ 32) : big1N x < 2 ^ 32 ∧ big0N x < 2 ^ 32 ∧ sig0N x < 2 ^ 32 ∧ sig1N x < 2 ^ 32 := ⟨(big1_nat x hx).2, (big0_nat x hx).2, (sig0_nat x hx).2, (sig1_nat x hx).2⟩

set_option maxHeartbeats 4000000 in
set_option maxRecDepth 100000 in
theorem r34 (x0 x1 x2 x3 x4 x5 x7 x8 x10 x11 x12 x13 x14 x15 x16 x19 x22 x23 x24 x25 x26 x27 x28 x29 x30 x31 x32 x33 x34 x35 x36 x37 x38 x39 x40 x41 x42 x43 x44 x45 x46 x47 x48 x49 x50 x51 x52 x53 x54 x55 x56 x57 x58 x59 x60 x61 x62 x63 x64 x65 x66 x67 x68 x69 x70 x71 x72 x73 x74 x75 x76 x77 x78 x79 x80 x81 x82 x83 x84 x85 x86 x87 x88 x89 x90 x91 x92 x93 x94 x95 x96 x97 x98 x99 x100 x101 x102 x103 x104 x105 x106 x107 x108 x109 x110 x111 x112 x113 x114 x115 x116 x117 x118 x119 x120 x121 x122 x123 x124 x125 x126 x127 x128 x129 x130 x131 x132 x133 x134 x135 x136 x137 x138 x139 x140 x141 x142 x143 x144 x145 x146 x147 x148 x149 x150 x151 x152 x153 x154 x155 x156 x157 x158 x159 x160 x161 x162 x163 x164 x165 x166 x167 x168 x169 x170 x171 x172 x173 x174 x175 x176 x177 x178 x179 x180 x181 x182 x183 x184 x185 x186 x187 x188 x189 x190 x191 x192 x193 x194 x195 x196 x197 x198 x199 x200 x201 x202 x203 x204 x205 x206 x207 x208 x209 x210 x211 x212 x213 x214 x215 x216 x217 x218 x219 x220 x221 x222 x223 x224 x225 x226 x227 x228 x229 x230 x231 x232 x233 x234 x235 x236 x237 x238 x239 x240 x241 x242 x243 x244 x245 x246 x247 x248 x249 x250 x251 x252 x253 x254 x255 x256 x257 x258 x259 x260 x261 x262 x263 x264 x265 x266 x267 x268 x269 x270 x271 x272 x273 x274 x275 x276 x277 x278 x279 x280 x281 x282 x283 : Value) (w : World) (e h ch kv wv g c kb kc wb wc t : Nat) (he : e < 2 ^ 32) (hh : h < 2 ^ 32) (hch : ch < 2 ^ 32) (hkv : kv < 2 ^ 32) (hwv : wv < 2 ^ 32) (ht : t < 64)
    (c7 : w.cell? ⟨g, 7, none⟩ = some (.int .i64 h)) (ck : w.cell? ⟨kb, t, none⟩ = some (.int .i64 kv)) (cw : w.cell? ⟨wb, t, none⟩ = some (.int .i64 wv)) (hg : g < w.heap.size) (hkb : kb < w.heap.size) (hwb : wb < w.heap.size) (Q0 : Exit → Act → World → Prop)
    (hexit : ∀ (u163 u164 u165 u166 u167 u168 u169 u170 u171 u172 u173 u174 u175 u176 u177 u178 u179 u180 u181 u182 u183 u184 u185 u186 u187 : Value) (w' : World), Below w.heap.size w w' → Q0 .normal ⟨#[x0, x1, x2, x3, x4, x5, .slice (some ⟨kb, 0, none⟩) 64 kc, x7, x8, .slice (some ⟨wb, 0, none⟩) 64 wc, x10, x11, x12, x13, x14, x15, x16, .slice (some ⟨g, 0, none⟩) 8 c, .int .i64 t, x19, .int .i64 e, .int .i64 ch, .int .i64 ((h + big1N e + ch + kv + wv) % 4294967296 : Nat), x23, x24, x25, x26, x27, x28, x29, x30, x31, x32, x33, x34, x35, x36, x37, x38, x39, x40, x41, x42, x43, x44, x45, x46, x47, x48, x49, x50, x51, x52, x53, x54, x55, x56, x57, x58, x59, x60, x61, x62, x63, x64, x65, x66, x67, x68, x69, x70, x71, x72, x73, x74, x75, x76, x77, x78, x79, x80, x81, x82, x83, x84, x85, x86, x87, x88, x89, x90, x91, x92, x93, x94, x95, x96, x97, x98, x99, x100, x101, x102, x103, x104, x105, x106, x107, x108, x109, x110, x111, x112, x113, x114, x115, x116, x117, x118, x119, x120, x121, x122, x123, x124, x125, x126, x127, x128, x129, x130, x131, x132, x133, x134, x135, x136, x137, x138, x139, x140, x141, x142, x143, x144, x145, x146, x147, x148, x149, x150, x151, x152, x153, x154, x155, x156, x157, x158, x159, x160, x161, x162, u163, u164, u165, u166, u167, u168, u169, u170, u171, u172, u173, u174, u175, u176, u177, u178, u179, u180, u181, u182, u183, u184, u185, u186, u187, x188, x189, x190, x191, x192, x193, x194, x195, x196, x197, x198, x199, x200, x201, x202, x203, x204, x205, x206, x207, x208, x209, x210, x211, x212, x213, x214, x215, x216, x217, x218, x219, x220, x221, x222, x223, x224, x225, x226, x227, x228, x229, x230, x231, x232, x233, x234, x235, x236, x237, x238, x239, x240, x241, x242, x243, x244, x245, x246, x247, x248, x249, x250, x251, x252, x253, x254, x255, x256, x257, x258, x259, x260, x261, x262, x263, x264, x265, x266, x267, x268, x269, x270, x271, x272, x273, x274, x275, x276, x277, x278, x279, x280, x281, x282, x283], []⟩ w') :
    Code.wp Tryd.prog (sub [true, true, true, true, true, true, false, true, false, false, true, false, false, true, true, true, false, true, false, false, true, false, false, true, true, false] (Tryd.f11.body.getD .skip)) Q0 ⟨#[x0, x1, x2, x3, x4, x5, .slice (some ⟨kb, 0, none⟩) 64 kc, x7, x8, .slice (some ⟨wb, 0, none⟩) 64 wc, x10, x11, x12, x13, x14, x15, x16, .slice (some ⟨g, 0, none⟩) 8 c, .int .i64 t, x19, .int .i64 e, .int .i64 ch, x22, x23, x24, x25, x26, x27, x28, x29, x30, x31, x32, x33, x34, x35, x36, x37, x38, x39, x40, x41, x42, x43, x44, x45, x46, x47, x48, x49, x50, x51, x52, x53, x54, x55, x56, x57, x58, x59, x60, x61, x62, x63, x64, x65, x66, x67, x68, x69, x70, x71, x72, x73, x74, x75, x76, x77, x78, x79, x80, x81, x82, x83, x84, x85, x86, x87, x88, x89, x90, x91, x92, x93, x94, x95, x96, x97, x98, x99, x100, x101, x102, x103, x104, x105, x106, x107, x108, x109, x110, x111, x112, x113, x114, x115, x116, x117, x118, x119, x120, x121, x122, x123, x124, x125, x126, x127, x128, x129, x130, x131, x132, x133, x134, x135, x136, x137, x138, x139, x140, x141, x142, x143, x144, x145, x146, x147, x148, x149, x150, x151, x152, x153, x154, x155, x156, x157, x158, x159, x160, x161, x162, x163, x164, x165, x166, x167, x168, x169, x170, x171, x172, x173, x174, x175, x176, x177, x178, x179, x180, x181, x182, x183, x184, x185, x186, x187, x188, x189, x190, x191, x192, x193, x194, x195, x196, x197, x198, x199, x200, x201, x202, x203, x204, x205, x206, x207, x208, x209, x210, x211, x212, x213, x214, x215, x216, x217, x218, x219, x220, x221, x222, x223, x224, x225, x226, x227, x228, x229, x230, x231, x232, x233, x234, x235, x236, x237, x238, x239, x240, x241, x242, x243, x244, x245, x246, x247, x248, x249, x250, x251, x252, x253, x254, x255, x256, x257, x258, x259, x260, x261, x262, x263, x264, x265, x266, x267, x268, x269, x270, x271, x272, x273, x274, x275, x276, x277, x278, x279, x280, x281, x282, x283], []⟩ w := by
  have HX : Hid _ := hexit
  clear hexit
  have HB : Hid (Below w.heap.size w w) := Below.refl _ _
  have hti : (t : Int) < 64 := by omega
  have bl := (big_lt e he).1
  have l1 := (right_lt e 6 he (by decide)).2
  have l2 := (right_lt e 11 he (by decide)).2
  have l3 := (right_lt e 25 he (by decide)).2
  have HA1 : Hid (∀ W : World, Calls Tryd.prog 37 #[.int .i64 e, .int .i64 6] W fun e' w' => e' = .returned (.int .i64 (rightN e 6 : Nat)) ∧ ∃ m, w' = W.drewN m) := fun W => Right_any e 6 W he (by decide) (by decide)
  have HA2 : Hid (∀ W : World, Calls Tryd.prog 37 #[.int .i64 e, .int .i64 11] W fun e' w' => e' = .returned (.int .i64 (rightN e 11 : Nat)) ∧ ∃ m, w' = W.drewN m) := fun W => Right_any e 11 W he (by decide) (by decide)
  have HA3 : Hid (∀ W : World, Calls Tryd.prog 37 #[.int .i64 e, .int .i64 25] W fun e' w' => e' = .returned (.int .i64 (rightN e 25 : Nat)) ∧ ∃ m, w' = W.drewN m) := fun W => Right_any e 25 W he (by decide) (by decide)
  have HXO : Hid (∀ (W : World) (b : Nat), W.cell? ⟨b, 0, none⟩ = some (.int .i64 (rightN e 6 : Nat)) → W.cell? ⟨b, 1, none⟩ = some (.int .i64 (rightN e 11 : Nat)) → W.cell? ⟨b, 2, none⟩ = some (.int .i64 (rightN e 25 : Nat)) → Calls Tryd.prog 36 #[.slice (some ⟨b, 0, none⟩) 3 3] W fun e' w' => e' = .returned (.int .i64 (big1N e : Nat)) ∧ w' = W) := fun W b => Xor_3 W b _ _ _ l1 l2 l3 _ rfl
  generalize rightN e 6 = p1 at HA1 HXO
  generalize rightN e 11 = p2 at HA2 HXO
  generalize rightN e 25 = p3 at HA3 HXO
  generalize big1N e = bg at HX HXO bl
  obtain ⟨s1, hs1⟩ : ∃ s1, s1 = h + bg := ⟨_, rfl⟩
  obtain ⟨s2, hs2⟩ : ∃ s2, s2 = s1 + ch := ⟨_, rfl⟩
  obtain ⟨s3, hs3⟩ : ∃ s3, s3 = s2 + kv := ⟨_, rfl⟩
  obtain ⟨s4, hs4⟩ : ∃ s4, s4 = s3 + wv := ⟨_, rfl⟩
  obtain ⟨u, hu⟩ : ∃ u, u = s4 % 4294967296 := ⟨_, rfl⟩
  have e1 : (h : Int) + (bg : Int) = (s1 : Int) := by omega
  have e2 : (s1 : Int) + (ch : Int) = (s2 : Int) := by omega
  have e3 : (s2 : Int) + (kv : Int) = (s3 : Int) := by omega
  have e4 : (s3 : Int) + (wv : Int) = (s4 : Int) := by omega
  have HWR : Hid (∀ W : World, Calls Tryd.prog 38 #[.int .i64 s4] W fun e w' => e = .returned (.int .i64 (u : Int)) ∧ w' = W) := fun W => by rw [hu]; exact Wrap_any s4 W
  rw [← hs1, ← hs2, ← hs3, ← hs4, ← hu] at HX
  have f1 := wr60 s1 (by omega)
  have f2 := wr60 s2 (by omega)
  have f3 := wr60 s3 (by omega)
  have f4 := wr60 s4 (by omega)
  clear hs1 hs2 hs3 hs4 hu he hh hch hkv hwv bl l1 l2 l3
  conv => arg 2; whnf
  have HS : Hid (∀ W : World, Below w.heap.size w W → W.cell? ⟨g, 7, none⟩ = some (.int .i64 h) ∧ W.cell? ⟨kb, t, none⟩ = some (.int .i64 kv) ∧ W.cell? ⟨wb, t, none⟩ = some (.int .i64 wv)) := fun W hW => ⟨(hW.cell (p := ⟨g, 7, none⟩) hg).trans c7, (hW.cell (p := ⟨kb, t, none⟩) hkb).trans ck, (hW.cell (p := ⟨wb, t, none⟩) hwb).trans cw⟩
  clear c7 ck cw hg hkb hwb
  go_region_held3 (fun w' => w'.cell? ⟨g, 7, none⟩ = some (.int .i64 h) ∧ w'.cell? ⟨kb, t, none⟩ = some (.int .i64 kv) ∧ w'.cell? ⟨wb, t, none⟩ = some (.int .i64 wv))
    (first | (refine HS.out _ ?_; repeat' (with_reducible (first | exact HB.out | refine bl_al ?_ _ | refine bl_dn ?_ _ | refine bl_dr ?_))) | fail)
    (first
      | (go_at_call_of 37 (Value.int IntKind.i64 (6 : Int)); refine (HA1.out _).mono ?_; rintro e w' ⟨rfl, m1, rfl⟩)
      | (go_at_call_of 37 (Value.int IntKind.i64 (11 : Int)); refine (HA2.out _).mono ?_; rintro e w' ⟨rfl, m2, rfl⟩)
      | (go_at_call_of 37 (Value.int IntKind.i64 (25 : Int)); refine (HA3.out _).mono ?_; rintro e w' ⟨rfl, m3, rfl⟩)
      | (go_at_call 36; refine (HXO.out _ _ (al_at _ _ _ _ 0 _ rfl rfl) (al_at _ _ _ _ 1 _ rfl rfl) (al_at _ _ _ _ 2 _ rfl rfl)).mono ?_; rintro e w' ⟨rfl, rfl⟩)
      | (go_at_call 38; refine (HWR.out _).mono ?_; rintro e w' ⟨rfl, rfl⟩)
      | fail)
  all_goals exact HX.out _ _ _ _ _ _ _ _ _ _ _ _ _ _ _ _ _ _ _ _ _ _ _ _ _ _ (by repeat' (with_reducible (first | exact HB.out | refine bl_al ?_ _ | refine bl_dn ?_ _ | refine bl_dr ?_)))
end Go.Proofs.YtagelkaenbdlaaaDoor
