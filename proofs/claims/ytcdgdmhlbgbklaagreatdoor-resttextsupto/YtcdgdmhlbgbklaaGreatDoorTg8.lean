/- The document's own Sum: one round's parts. -/
import Derived.Deep.RegionLaw
import Derived.Test.YtcdgdmhlbgbklaaGreatDoorTg7
namespace Go.Proofs.YtcdgdmhlbgbklaaGreatDoor
open Go.RowKit

theorem Xor_2 (W : World) (b a1 a2 : Nat) (h1 : a1 < 2 ^ 32) (h2 : a2 < 2 ^ 32) (r : Nat) (hr : r = a1 ^^^ a2) (c0 : W.cell? ⟨b, 0, none⟩ = some (.int .i64 a1)) (c1 : W.cell? ⟨b, 1, none⟩ = some (.int .i64 a2)) :
    Calls Tryz.prog 126 #[.slice (some ⟨b, 0, none⟩) 2 2] W fun e w' => e = .returned (.int .i64 (r : Int)) ∧ w' = W := by
  have := Xor_any b 2 [a1, a2] W (by simp) (by simp [h1, h2]) (fun j hj => by match j, hj with | 0, _ => exact c0 | 1, _ => exact c1)
  rw [hr]
  simpa [xors] using this
theorem Xor_3 (W : World) (b a1 a2 a3 : Nat) (h1 : a1 < 2 ^ 32) (h2 : a2 < 2 ^ 32) (h3 : a3 < 2 ^ 32) (r : Nat) (hr : r = a1 ^^^ a2 ^^^ a3) (c0 : W.cell? ⟨b, 0, none⟩ = some (.int .i64 a1)) (c1 : W.cell? ⟨b, 1, none⟩ = some (.int .i64 a2)) (c2 : W.cell? ⟨b, 2, none⟩ = some (.int .i64 a3)) :
    Calls Tryz.prog 126 #[.slice (some ⟨b, 0, none⟩) 3 3] W fun e w' => e = .returned (.int .i64 (r : Int)) ∧ w' = W := by
  have := Xor_any b 3 [a1, a2, a3] W (by simp) (by simp [h1, h2, h3]) (fun j hj => by match j, hj with | 0, _ => exact c0 | 1, _ => exact c1 | 2, _ => exact c2)
  rw [hr]
  simpa [xors] using this

set_option maxHeartbeats 4000000 in
set_option maxRecDepth 100000 in
theorem r33 (x0 x1 x2 x3 x4 x5 x6 x7 x8 x9 x10 x11 x12 x13 x14 x15 x16 x18 x19 x21 x22 x23 x24 x25 x26 x27 x28 x29 x30 x31 x32 x33 x34 x35 x36 x37 x38 x39 x40 x41 x42 x43 x44 x45 x46 x47 x48 x49 x50 x51 x52 x53 x54 x55 x56 x57 x58 x59 x60 x61 x62 x63 x64 x65 x66 x67 x68 x69 x70 x71 x72 x73 x74 x75 x76 x77 x78 x79 x80 x81 x82 x83 x84 x85 x86 x87 x88 x89 x90 x91 x92 x93 x94 x95 x96 x97 x98 x99 x100 x101 x102 x103 x104 x105 x106 x107 x108 x109 x110 x111 x112 x113 x114 x115 x116 x117 x118 x119 x120 x121 x122 x123 x124 x125 x126 x127 x128 x129 x130 x131 x132 x133 x134 x135 x136 x137 x138 x139 x140 x141 x142 x143 x144 x145 x146 x147 x148 x149 x150 x151 x152 x153 x154 x155 x156 x157 x158 x159 x160 x161 x162 x163 x164 x165 x166 x167 x168 x169 x170 x171 x172 x173 x174 x175 x176 x177 x178 x179 x180 x181 x182 x183 x184 x185 x186 x187 x188 x189 x190 x191 x192 x193 x194 x195 x196 x197 x198 x199 x200 x201 x202 x203 x204 x205 x206 x207 x208 x209 x210 x211 x212 x213 x214 x215 x216 x217 x218 x219 x220 x221 x222 x223 x224 x225 x226 x227 x228 x229 x230 x231 x232 x233 x234 x235 x236 x237 x238 x239 x240 x241 x242 x243 x244 x245 x246 x247 x248 x249 x250 x251 x252 x253 x254 x255 x256 x257 x258 x259 x260 x261 x262 x263 x264 x265 x266 x267 x268 x269 x270 x271 x272 x273 x274 x275 x276 x277 x278 x279 x280 x281 x282 x283 : Value) (w : World) (e f h g c : Nat) (he : e < 2 ^ 32) (hf : f < 2 ^ 32) (hh : h < 2 ^ 32)
    (c5 : w.cell? ⟨g, 5, none⟩ = some (.int .i64 f)) (c6 : w.cell? ⟨g, 6, none⟩ = some (.int .i64 h)) (hg : g < w.heap.size) (Q0 : Exit → Act → World → Prop)
    (hexit : ∀ (u150 u151 u152 u153 u154 u155 u156 u157 u158 u159 u160 u161 u162 : Value) (w' : World), Below w.heap.size w w' → Q0 .normal ⟨#[x0, x1, x2, x3, x4, x5, x6, x7, x8, x9, x10, x11, x12, x13, x14, x15, x16, .slice (some ⟨g, 0, none⟩) 8 c, x18, x19, .int .i64 e, .int .i64 (chN e f h : Nat), x22, x23, x24, x25, x26, x27, x28, x29, x30, x31, x32, x33, x34, x35, x36, x37, x38, x39, x40, x41, x42, x43, x44, x45, x46, x47, x48, x49, x50, x51, x52, x53, x54, x55, x56, x57, x58, x59, x60, x61, x62, x63, x64, x65, x66, x67, x68, x69, x70, x71, x72, x73, x74, x75, x76, x77, x78, x79, x80, x81, x82, x83, x84, x85, x86, x87, x88, x89, x90, x91, x92, x93, x94, x95, x96, x97, x98, x99, x100, x101, x102, x103, x104, x105, x106, x107, x108, x109, x110, x111, x112, x113, x114, x115, x116, x117, x118, x119, x120, x121, x122, x123, x124, x125, x126, x127, x128, x129, x130, x131, x132, x133, x134, x135, x136, x137, x138, x139, x140, x141, x142, x143, x144, x145, x146, x147, x148, x149, u150, u151, u152, u153, u154, u155, u156, u157, u158, u159, u160, u161, u162, x163, x164, x165, x166, x167, x168, x169, x170, x171, x172, x173, x174, x175, x176, x177, x178, x179, x180, x181, x182, x183, x184, x185, x186, x187, x188, x189, x190, x191, x192, x193, x194, x195, x196, x197, x198, x199, x200, x201, x202, x203, x204, x205, x206, x207, x208, x209, x210, x211, x212, x213, x214, x215, x216, x217, x218, x219, x220, x221, x222, x223, x224, x225, x226, x227, x228, x229, x230, x231, x232, x233, x234, x235, x236, x237, x238, x239, x240, x241, x242, x243, x244, x245, x246, x247, x248, x249, x250, x251, x252, x253, x254, x255, x256, x257, x258, x259, x260, x261, x262, x263, x264, x265, x266, x267, x268, x269, x270, x271, x272, x273, x274, x275, x276, x277, x278, x279, x280, x281, x282, x283], []⟩ w') :
    Code.wp Tryz.prog (subC [true, true, true, true, true, true, false, true, false, false, true, false, false, true, true, true, false, true, false, false, true, false, false, true, false] (Tryz.f73.body.getD .skip)) Q0 ⟨#[x0, x1, x2, x3, x4, x5, x6, x7, x8, x9, x10, x11, x12, x13, x14, x15, x16, .slice (some ⟨g, 0, none⟩) 8 c, x18, x19, .int .i64 e, x21, x22, x23, x24, x25, x26, x27, x28, x29, x30, x31, x32, x33, x34, x35, x36, x37, x38, x39, x40, x41, x42, x43, x44, x45, x46, x47, x48, x49, x50, x51, x52, x53, x54, x55, x56, x57, x58, x59, x60, x61, x62, x63, x64, x65, x66, x67, x68, x69, x70, x71, x72, x73, x74, x75, x76, x77, x78, x79, x80, x81, x82, x83, x84, x85, x86, x87, x88, x89, x90, x91, x92, x93, x94, x95, x96, x97, x98, x99, x100, x101, x102, x103, x104, x105, x106, x107, x108, x109, x110, x111, x112, x113, x114, x115, x116, x117, x118, x119, x120, x121, x122, x123, x124, x125, x126, x127, x128, x129, x130, x131, x132, x133, x134, x135, x136, x137, x138, x139, x140, x141, x142, x143, x144, x145, x146, x147, x148, x149, x150, x151, x152, x153, x154, x155, x156, x157, x158, x159, x160, x161, x162, x163, x164, x165, x166, x167, x168, x169, x170, x171, x172, x173, x174, x175, x176, x177, x178, x179, x180, x181, x182, x183, x184, x185, x186, x187, x188, x189, x190, x191, x192, x193, x194, x195, x196, x197, x198, x199, x200, x201, x202, x203, x204, x205, x206, x207, x208, x209, x210, x211, x212, x213, x214, x215, x216, x217, x218, x219, x220, x221, x222, x223, x224, x225, x226, x227, x228, x229, x230, x231, x232, x233, x234, x235, x236, x237, x238, x239, x240, x241, x242, x243, x244, x245, x246, x247, x248, x249, x250, x251, x252, x253, x254, x255, x256, x257, x258, x259, x260, x261, x262, x263, x264, x265, x266, x267, x268, x269, x270, x271, x272, x273, x274, x275, x276, x277, x278, x279, x280, x281, x282, x283], []⟩ w := by
  have HX : Hid (∀ (u150 u151 u152 u153 u154 u155 u156 u157 u158 u159 u160 u161 u162 : Value) (w' : World), Below w.heap.size w w' → Q0 .normal ⟨#[x0, x1, x2, x3, x4, x5, x6, x7, x8, x9, x10, x11, x12, x13, x14, x15, x16, .slice (some ⟨g, 0, none⟩) 8 c, x18, x19, .int .i64 e, .int .i64 (chN e f h : Nat), x22, x23, x24, x25, x26, x27, x28, x29, x30, x31, x32, x33, x34, x35, x36, x37, x38, x39, x40, x41, x42, x43, x44, x45, x46, x47, x48, x49, x50, x51, x52, x53, x54, x55, x56, x57, x58, x59, x60, x61, x62, x63, x64, x65, x66, x67, x68, x69, x70, x71, x72, x73, x74, x75, x76, x77, x78, x79, x80, x81, x82, x83, x84, x85, x86, x87, x88, x89, x90, x91, x92, x93, x94, x95, x96, x97, x98, x99, x100, x101, x102, x103, x104, x105, x106, x107, x108, x109, x110, x111, x112, x113, x114, x115, x116, x117, x118, x119, x120, x121, x122, x123, x124, x125, x126, x127, x128, x129, x130, x131, x132, x133, x134, x135, x136, x137, x138, x139, x140, x141, x142, x143, x144, x145, x146, x147, x148, x149, u150, u151, u152, u153, u154, u155, u156, u157, u158, u159, u160, u161, u162, x163, x164, x165, x166, x167, x168, x169, x170, x171, x172, x173, x174, x175, x176, x177, x178, x179, x180, x181, x182, x183, x184, x185, x186, x187, x188, x189, x190, x191, x192, x193, x194, x195, x196, x197, x198, x199, x200, x201, x202, x203, x204, x205, x206, x207, x208, x209, x210, x211, x212, x213, x214, x215, x216, x217, x218, x219, x220, x221, x222, x223, x224, x225, x226, x227, x228, x229, x230, x231, x232, x233, x234, x235, x236, x237, x238, x239, x240, x241, x242, x243, x244, x245, x246, x247, x248, x249, x250, x251, x252, x253, x254, x255, x256, x257, x258, x259, x260, x261, x262, x263, x264, x265, x266, x267, x268, x269, x270, x271, x272, x273, x274, x275, x276, x277, x278, x279, x280, x281, x282, x283], []⟩ w') := hexit
  clear hexit
  have HB : Hid (Below w.heap.size w w) := Below.refl _ _
  obtain ⟨ne, hne⟩ : ∃ ne, ne = 4294967295 - e := ⟨_, rfl⟩
  have hsub : (4294967295 : Int) - (e : Int) = (ne : Int) := by omega
  obtain ⟨a1, ha1⟩ : ∃ a1, a1 = e &&& f := ⟨_, rfl⟩
  obtain ⟨a2, ha2⟩ : ∃ a2, a2 = ne &&& h := ⟨_, rfl⟩
  obtain ⟨r, hr⟩ : ∃ r, r = a1 ^^^ a2 := ⟨_, rfl⟩
  have HR : Hid (chN e f h = r) := by show _ = _; unfold chN; rw [hr, ha1, ha2, hne]
  have HA1 : Hid (∀ W : World, Calls Tryz.prog 129 #[.int .i64 e, .int .i64 f] W fun e w' => e = .returned (.int .i64 (a1 : Int)) ∧ w' = W) := fun W => by rw [ha1]; exact And_any e f W he hf
  have HA2 : Hid (∀ W : World, Calls Tryz.prog 129 #[.int .i64 ne, .int .i64 h] W fun e w' => e = .returned (.int .i64 (a2 : Int)) ∧ w' = W) := fun W => by rw [ha2]; exact And_any ne h W (by omega) hh
  have HXO : Hid (∀ (W : World) (b : Nat), W.cell? ⟨b, 0, none⟩ = some (.int .i64 a1) → W.cell? ⟨b, 1, none⟩ = some (.int .i64 a2) → Calls Tryz.prog 126 #[.slice (some ⟨b, 0, none⟩) 2 2] W fun e w' => e = .returned (.int .i64 (r : Int)) ∧ w' = W) := fun W b =>
    Xor_2 W b a1 a2 (by rw [ha1]; exact Nat.and_lt_two_pow _ hf) (by rw [ha2]; exact Nat.and_lt_two_pow _ hh) r hr
  rw [HR.out] at HX
  have wn : IntKind.i64.wrap (ne : Int) = (ne : Int) := wr62 ne (by omega)
  clear hr ha1 ha2 he hf hh HR hne
  conv => arg 2; whnf
  go_region_held3 (fun w' => w'.cell? ⟨g, 5, none⟩ = some (.int .i64 f) ∧ w'.cell? ⟨g, 6, none⟩ = some (.int .i64 h) ∧ g < w'.heap.size)
    (first | (simp [go_sem, *]; done) | (simp [go_sem, c5, c6, hg]; omega))
    (first
      | (go_at_call_of 129 (Value.int IntKind.i64 (e : Int)); refine (HA1.out _).mono ?_; rintro e w' ⟨rfl, rfl⟩)
      | (go_at_call_of 129 (Value.int IntKind.i64 (ne : Int)); refine (HA2.out _).mono ?_; rintro e w' ⟨rfl, rfl⟩)
      | (go_at_call 126; refine (HXO.out _ _ (by simp [go_sem]) (by simp [go_sem])).mono ?_; rintro e w' ⟨rfl, rfl⟩)
      | fail)
  all_goals exact HX.out _ _ _ _ _ _ _ _ _ _ _ _ _ _ (HB.out.alloc (Nat.le_refl _) _).drew

theorem al_atC (W : World) (b : Nat) (cs : Array Value) (ty : TypeId) (k : Nat) (v : Value) (hb : b = W.heap.size) (hv : cs[k]? = some v) : (W.alloc (.cells cs ty)).cell? ⟨b, k, none⟩ = some v := by
  subst hb
  rw [Lib.cell_of_heap (heap_alloc_new W _)]
  exact hv
theorem bl_al {a w : World} (h : Below a.heap.size a w) (o : Obj) : Below a.heap.size a (w.alloc o) := h.alloc h.size o
theorem bl_dn {a w : World} (h : Below a.heap.size a w) (n : Nat) : Below a.heap.size a (w.drewN n) := below_drewN h n
theorem bl_dr {a w : World} (h : Below a.heap.size a w) : Below a.heap.size a w.drew := h.drew
theorem wr60 (n : Nat) (h : n < 2 ^ 40) : IntKind.i64.wrap (n : Int) = (n : Int) := by rw [IntKind.wrap_i64]; omega
theorem big_lt (x : Nat) (hx : x < 2 ^ 32) : big1N x < 2 ^ 32 ∧ big0N x < 2 ^ 32 ∧ sig0N x < 2 ^ 32 ∧ sig1N x < 2 ^ 32 := ⟨(big1_nat x hx).2, (big0_nat x hx).2, (sig0_nat x hx).2, (sig1_nat x hx).2⟩

set_option maxHeartbeats 4000000 in
set_option maxRecDepth 100000 in
theorem r34 (x0 x1 x2 x3 x4 x5 x7 x8 x10 x11 x12 x13 x14 x15 x16 x19 x22 x23 x24 x25 x26 x27 x28 x29 x30 x31 x32 x33 x34 x35 x36 x37 x38 x39 x40 x41 x42 x43 x44 x45 x46 x47 x48 x49 x50 x51 x52 x53 x54 x55 x56 x57 x58 x59 x60 x61 x62 x63 x64 x65 x66 x67 x68 x69 x70 x71 x72 x73 x74 x75 x76 x77 x78 x79 x80 x81 x82 x83 x84 x85 x86 x87 x88 x89 x90 x91 x92 x93 x94 x95 x96 x97 x98 x99 x100 x101 x102 x103 x104 x105 x106 x107 x108 x109 x110 x111 x112 x113 x114 x115 x116 x117 x118 x119 x120 x121 x122 x123 x124 x125 x126 x127 x128 x129 x130 x131 x132 x133 x134 x135 x136 x137 x138 x139 x140 x141 x142 x143 x144 x145 x146 x147 x148 x149 x150 x151 x152 x153 x154 x155 x156 x157 x158 x159 x160 x161 x162 x163 x164 x165 x166 x167 x168 x169 x170 x171 x172 x173 x174 x175 x176 x177 x178 x179 x180 x181 x182 x183 x184 x185 x186 x187 x188 x189 x190 x191 x192 x193 x194 x195 x196 x197 x198 x199 x200 x201 x202 x203 x204 x205 x206 x207 x208 x209 x210 x211 x212 x213 x214 x215 x216 x217 x218 x219 x220 x221 x222 x223 x224 x225 x226 x227 x228 x229 x230 x231 x232 x233 x234 x235 x236 x237 x238 x239 x240 x241 x242 x243 x244 x245 x246 x247 x248 x249 x250 x251 x252 x253 x254 x255 x256 x257 x258 x259 x260 x261 x262 x263 x264 x265 x266 x267 x268 x269 x270 x271 x272 x273 x274 x275 x276 x277 x278 x279 x280 x281 x282 x283 : Value) (w : World) (e h ch kv wv g c kb kc wb wc t : Nat) (he : e < 2 ^ 32) (hh : h < 2 ^ 32) (hch : ch < 2 ^ 32) (hkv : kv < 2 ^ 32) (hwv : wv < 2 ^ 32) (ht : t < 64)
    (c7 : w.cell? ⟨g, 7, none⟩ = some (.int .i64 h)) (ck : w.cell? ⟨kb, t, none⟩ = some (.int .i64 kv)) (cw : w.cell? ⟨wb, t, none⟩ = some (.int .i64 wv)) (hg : g < w.heap.size) (hkb : kb < w.heap.size) (hwb : wb < w.heap.size) (Q0 : Exit → Act → World → Prop)
    (hexit : ∀ (u163 u164 u165 u166 u167 u168 u169 u170 u171 u172 u173 u174 u175 u176 u177 u178 u179 u180 u181 u182 u183 u184 u185 u186 u187 : Value) (w' : World), Below w.heap.size w w' → Q0 .normal ⟨#[x0, x1, x2, x3, x4, x5, .slice (some ⟨kb, 0, none⟩) 64 kc, x7, x8, .slice (some ⟨wb, 0, none⟩) 64 wc, x10, x11, x12, x13, x14, x15, x16, .slice (some ⟨g, 0, none⟩) 8 c, .int .i64 t, x19, .int .i64 e, .int .i64 ch, .int .i64 ((h + big1N e + ch + kv + wv) % 4294967296 : Nat), x23, x24, x25, x26, x27, x28, x29, x30, x31, x32, x33, x34, x35, x36, x37, x38, x39, x40, x41, x42, x43, x44, x45, x46, x47, x48, x49, x50, x51, x52, x53, x54, x55, x56, x57, x58, x59, x60, x61, x62, x63, x64, x65, x66, x67, x68, x69, x70, x71, x72, x73, x74, x75, x76, x77, x78, x79, x80, x81, x82, x83, x84, x85, x86, x87, x88, x89, x90, x91, x92, x93, x94, x95, x96, x97, x98, x99, x100, x101, x102, x103, x104, x105, x106, x107, x108, x109, x110, x111, x112, x113, x114, x115, x116, x117, x118, x119, x120, x121, x122, x123, x124, x125, x126, x127, x128, x129, x130, x131, x132, x133, x134, x135, x136, x137, x138, x139, x140, x141, x142, x143, x144, x145, x146, x147, x148, x149, x150, x151, x152, x153, x154, x155, x156, x157, x158, x159, x160, x161, x162, u163, u164, u165, u166, u167, u168, u169, u170, u171, u172, u173, u174, u175, u176, u177, u178, u179, u180, u181, u182, u183, u184, u185, u186, u187, x188, x189, x190, x191, x192, x193, x194, x195, x196, x197, x198, x199, x200, x201, x202, x203, x204, x205, x206, x207, x208, x209, x210, x211, x212, x213, x214, x215, x216, x217, x218, x219, x220, x221, x222, x223, x224, x225, x226, x227, x228, x229, x230, x231, x232, x233, x234, x235, x236, x237, x238, x239, x240, x241, x242, x243, x244, x245, x246, x247, x248, x249, x250, x251, x252, x253, x254, x255, x256, x257, x258, x259, x260, x261, x262, x263, x264, x265, x266, x267, x268, x269, x270, x271, x272, x273, x274, x275, x276, x277, x278, x279, x280, x281, x282, x283], []⟩ w') :
    Code.wp Tryz.prog (subC [true, true, true, true, true, true, false, true, false, false, true, false, false, true, true, true, false, true, false, false, true, false, false, true, true, false] (Tryz.f73.body.getD .skip)) Q0 ⟨#[x0, x1, x2, x3, x4, x5, .slice (some ⟨kb, 0, none⟩) 64 kc, x7, x8, .slice (some ⟨wb, 0, none⟩) 64 wc, x10, x11, x12, x13, x14, x15, x16, .slice (some ⟨g, 0, none⟩) 8 c, .int .i64 t, x19, .int .i64 e, .int .i64 ch, x22, x23, x24, x25, x26, x27, x28, x29, x30, x31, x32, x33, x34, x35, x36, x37, x38, x39, x40, x41, x42, x43, x44, x45, x46, x47, x48, x49, x50, x51, x52, x53, x54, x55, x56, x57, x58, x59, x60, x61, x62, x63, x64, x65, x66, x67, x68, x69, x70, x71, x72, x73, x74, x75, x76, x77, x78, x79, x80, x81, x82, x83, x84, x85, x86, x87, x88, x89, x90, x91, x92, x93, x94, x95, x96, x97, x98, x99, x100, x101, x102, x103, x104, x105, x106, x107, x108, x109, x110, x111, x112, x113, x114, x115, x116, x117, x118, x119, x120, x121, x122, x123, x124, x125, x126, x127, x128, x129, x130, x131, x132, x133, x134, x135, x136, x137, x138, x139, x140, x141, x142, x143, x144, x145, x146, x147, x148, x149, x150, x151, x152, x153, x154, x155, x156, x157, x158, x159, x160, x161, x162, x163, x164, x165, x166, x167, x168, x169, x170, x171, x172, x173, x174, x175, x176, x177, x178, x179, x180, x181, x182, x183, x184, x185, x186, x187, x188, x189, x190, x191, x192, x193, x194, x195, x196, x197, x198, x199, x200, x201, x202, x203, x204, x205, x206, x207, x208, x209, x210, x211, x212, x213, x214, x215, x216, x217, x218, x219, x220, x221, x222, x223, x224, x225, x226, x227, x228, x229, x230, x231, x232, x233, x234, x235, x236, x237, x238, x239, x240, x241, x242, x243, x244, x245, x246, x247, x248, x249, x250, x251, x252, x253, x254, x255, x256, x257, x258, x259, x260, x261, x262, x263, x264, x265, x266, x267, x268, x269, x270, x271, x272, x273, x274, x275, x276, x277, x278, x279, x280, x281, x282, x283], []⟩ w := by
  have HX : Hid _ := hexit
  clear hexit
  have HB : Hid (Below w.heap.size w w) := Below.refl _ _
  have hti : (t : Int) < 64 := by omega
  have bl := (big_lt e he).1
  have l1 := (right_lt e 6 he (by decide)).2
  have l2 := (right_lt e 11 he (by decide)).2
  have l3 := (right_lt e 25 he (by decide)).2
  have HA1 : Hid (∀ W : World, Calls Tryz.prog 127 #[.int .i64 e, .int .i64 6] W fun e' w' => e' = .returned (.int .i64 (rightN e 6 : Nat)) ∧ ∃ m, w' = W.drewN m) := fun W => Right_any e 6 W he (by decide) (by decide)
  have HA2 : Hid (∀ W : World, Calls Tryz.prog 127 #[.int .i64 e, .int .i64 11] W fun e' w' => e' = .returned (.int .i64 (rightN e 11 : Nat)) ∧ ∃ m, w' = W.drewN m) := fun W => Right_any e 11 W he (by decide) (by decide)
  have HA3 : Hid (∀ W : World, Calls Tryz.prog 127 #[.int .i64 e, .int .i64 25] W fun e' w' => e' = .returned (.int .i64 (rightN e 25 : Nat)) ∧ ∃ m, w' = W.drewN m) := fun W => Right_any e 25 W he (by decide) (by decide)
  have HXO : Hid (∀ (W : World) (b : Nat), W.cell? ⟨b, 0, none⟩ = some (.int .i64 (rightN e 6 : Nat)) → W.cell? ⟨b, 1, none⟩ = some (.int .i64 (rightN e 11 : Nat)) → W.cell? ⟨b, 2, none⟩ = some (.int .i64 (rightN e 25 : Nat)) → Calls Tryz.prog 126 #[.slice (some ⟨b, 0, none⟩) 3 3] W fun e' w' => e' = .returned (.int .i64 (big1N e : Nat)) ∧ w' = W) := fun W b => Xor_3 W b _ _ _ l1 l2 l3 _ rfl
  generalize rightN e 6 = p1 at HA1 HXO
  generalize rightN e 11 = p2 at HA2 HXO
  generalize rightN e 25 = p3 at HA3 HXO
  generalize big1N e = bg at HX HXO bl
  obtain ⟨s1, hs1⟩ : ∃ s1, s1 = h + bg := ⟨_, rfl⟩
  obtain ⟨s2, hs2⟩ : ∃ s2, s2 = s1 + ch := ⟨_, rfl⟩
  obtain ⟨s3, hs3⟩ : ∃ s3, s3 = s2 + kv := ⟨_, rfl⟩
  obtain ⟨s4, hs4⟩ : ∃ s4, s4 = s3 + wv := ⟨_, rfl⟩
  obtain ⟨u, hu⟩ : ∃ u, u = s4 % 4294967296 := ⟨_, rfl⟩
  have e1 : (h : Int) + (bg : Int) = (s1 : Int) := by omega
  have e2 : (s1 : Int) + (ch : Int) = (s2 : Int) := by omega
  have e3 : (s2 : Int) + (kv : Int) = (s3 : Int) := by omega
  have e4 : (s3 : Int) + (wv : Int) = (s4 : Int) := by omega
  have HWR : Hid (∀ W : World, Calls Tryz.prog 128 #[.int .i64 s4] W fun e w' => e = .returned (.int .i64 (u : Int)) ∧ w' = W) := fun W => by rw [hu]; exact Wrap_any s4 W
  rw [← hs1, ← hs2, ← hs3, ← hs4, ← hu] at HX
  have f1 := wr60 s1 (by omega)
  have f2 := wr60 s2 (by omega)
  have f3 := wr60 s3 (by omega)
  have f4 := wr60 s4 (by omega)
  clear hs1 hs2 hs3 hs4 hu he hh hch hkv hwv bl l1 l2 l3
  conv => arg 2; whnf
  have HS : Hid (∀ W : World, Below w.heap.size w W → W.cell? ⟨g, 7, none⟩ = some (.int .i64 h) ∧ W.cell? ⟨kb, t, none⟩ = some (.int .i64 kv) ∧ W.cell? ⟨wb, t, none⟩ = some (.int .i64 wv)) := fun W hW => ⟨(hW.cell (p := ⟨g, 7, none⟩) hg).trans c7, (hW.cell (p := ⟨kb, t, none⟩) hkb).trans ck, (hW.cell (p := ⟨wb, t, none⟩) hwb).trans cw⟩
  clear c7 ck cw hg hkb hwb
  go_region_held3 (fun w' => w'.cell? ⟨g, 7, none⟩ = some (.int .i64 h) ∧ w'.cell? ⟨kb, t, none⟩ = some (.int .i64 kv) ∧ w'.cell? ⟨wb, t, none⟩ = some (.int .i64 wv))
    (first | (refine HS.out _ ?_; repeat' (with_reducible (first | exact HB.out | refine bl_al ?_ _ | refine bl_dn ?_ _ | refine bl_dr ?_))) | fail)
    (first
      | (go_at_call_of 127 (Value.int IntKind.i64 (6 : Int)); refine (HA1.out _).mono ?_; rintro e w' ⟨rfl, m1, rfl⟩)
      | (go_at_call_of 127 (Value.int IntKind.i64 (11 : Int)); refine (HA2.out _).mono ?_; rintro e w' ⟨rfl, m2, rfl⟩)
      | (go_at_call_of 127 (Value.int IntKind.i64 (25 : Int)); refine (HA3.out _).mono ?_; rintro e w' ⟨rfl, m3, rfl⟩)
      | (go_at_call 126; refine (HXO.out _ _ (al_atC _ _ _ _ 0 _ rfl rfl) (al_atC _ _ _ _ 1 _ rfl rfl) (al_atC _ _ _ _ 2 _ rfl rfl)).mono ?_; rintro e w' ⟨rfl, rfl⟩)
      | (go_at_call 128; refine (HWR.out _).mono ?_; rintro e w' ⟨rfl, rfl⟩)
      | fail)
  all_goals exact HX.out _ _ _ _ _ _ _ _ _ _ _ _ _ _ _ _ _ _ _ _ _ _ _ _ _ _ (by repeat' (with_reducible (first | exact HB.out | refine bl_al ?_ _ | refine bl_dn ?_ _ | refine bl_dr ?_)))
end Go.Proofs.YtcdgdmhlbgbklaaGreatDoor

/- The document's own Sum: one round's parts (2). -/
namespace Go.Proofs.YtcdgdmhlbgbklaaGreatDoor
open Go.RowKit

def andN (x y : Nat) : Nat := x &&& y
theorem andN_lt (x y : Nat) (hy : y < 2 ^ 32) : andN x y < 2 ^ 32 := Nat.and_lt_two_pow _ hy
set_option maxHeartbeats 4000000 in
set_option maxRecDepth 100000 in
theorem r35 (x0 x1 x2 x3 x4 x5 x6 x7 x8 x9 x10 x11 x12 x13 x14 x15 x16 x18 x20 x21 x22 x23 x24 x25 x26 x27 x28 x29 x30 x31 x32 x33 x34 x35 x36 x37 x38 x39 x40 x41 x42 x43 x44 x45 x46 x47 x48 x49 x50 x51 x52 x53 x54 x55 x56 x57 x58 x59 x60 x61 x62 x63 x64 x65 x66 x67 x68 x69 x70 x71 x72 x73 x74 x75 x76 x77 x78 x79 x80 x81 x82 x83 x84 x85 x86 x87 x88 x89 x90 x91 x92 x93 x94 x95 x96 x97 x98 x99 x100 x101 x102 x103 x104 x105 x106 x107 x108 x109 x110 x111 x112 x113 x114 x115 x116 x117 x118 x119 x120 x121 x122 x123 x124 x125 x126 x127 x128 x129 x130 x131 x132 x133 x134 x135 x136 x137 x138 x139 x140 x141 x142 x143 x144 x145 x146 x147 x148 x149 x150 x151 x152 x153 x154 x155 x156 x157 x158 x159 x160 x161 x162 x163 x164 x165 x166 x167 x168 x169 x170 x171 x172 x173 x174 x175 x176 x177 x178 x179 x180 x181 x182 x183 x184 x185 x186 x187 x188 x189 x190 x191 x192 x193 x194 x195 x196 x197 x198 x199 x200 x201 x202 x203 x204 x205 x206 x207 x208 x209 x210 x211 x212 x213 x214 x215 x216 x217 x218 x219 x220 x221 x222 x223 x224 x225 x226 x227 x228 x229 x230 x231 x232 x233 x234 x235 x236 x237 x238 x239 x240 x241 x242 x243 x244 x245 x246 x247 x248 x249 x250 x251 x252 x253 x254 x255 x256 x257 x258 x259 x260 x261 x262 x263 x264 x265 x266 x267 x268 x269 x270 x271 x272 x273 x274 x275 x276 x277 x278 x279 x280 x281 x282 x283 : Value) (w : World) (a b d g c : Nat) (ha : a < 2 ^ 32) (hb : b < 2 ^ 32) (hd : d < 2 ^ 32)
    (c1 : w.cell? ⟨g, 1, none⟩ = some (.int .i64 b)) (c2 : w.cell? ⟨g, 2, none⟩ = some (.int .i64 d)) (hg : g < w.heap.size) (Q0 : Exit → Act → World → Prop)
    (hexit : ∀ (u188 u189 u190 u191 u192 u193 u194 u195 u196 u197 u198 u199 u200 u201 u202 u203 u204 u205 u206 : Value) (w' : World), Below w.heap.size w w' → Q0 .normal ⟨#[x0, x1, x2, x3, x4, x5, x6, x7, x8, x9, x10, x11, x12, x13, x14, x15, x16, .slice (some ⟨g, 0, none⟩) 8 c, x18, .int .i64 a, x20, x21, x22, .int .i64 (majN a b d : Nat), x24, x25, x26, x27, x28, x29, x30, x31, x32, x33, x34, x35, x36, x37, x38, x39, x40, x41, x42, x43, x44, x45, x46, x47, x48, x49, x50, x51, x52, x53, x54, x55, x56, x57, x58, x59, x60, x61, x62, x63, x64, x65, x66, x67, x68, x69, x70, x71, x72, x73, x74, x75, x76, x77, x78, x79, x80, x81, x82, x83, x84, x85, x86, x87, x88, x89, x90, x91, x92, x93, x94, x95, x96, x97, x98, x99, x100, x101, x102, x103, x104, x105, x106, x107, x108, x109, x110, x111, x112, x113, x114, x115, x116, x117, x118, x119, x120, x121, x122, x123, x124, x125, x126, x127, x128, x129, x130, x131, x132, x133, x134, x135, x136, x137, x138, x139, x140, x141, x142, x143, x144, x145, x146, x147, x148, x149, x150, x151, x152, x153, x154, x155, x156, x157, x158, x159, x160, x161, x162, x163, x164, x165, x166, x167, x168, x169, x170, x171, x172, x173, x174, x175, x176, x177, x178, x179, x180, x181, x182, x183, x184, x185, x186, x187, u188, u189, u190, u191, u192, u193, u194, u195, u196, u197, u198, u199, u200, u201, u202, u203, u204, u205, u206, x207, x208, x209, x210, x211, x212, x213, x214, x215, x216, x217, x218, x219, x220, x221, x222, x223, x224, x225, x226, x227, x228, x229, x230, x231, x232, x233, x234, x235, x236, x237, x238, x239, x240, x241, x242, x243, x244, x245, x246, x247, x248, x249, x250, x251, x252, x253, x254, x255, x256, x257, x258, x259, x260, x261, x262, x263, x264, x265, x266, x267, x268, x269, x270, x271, x272, x273, x274, x275, x276, x277, x278, x279, x280, x281, x282, x283], []⟩ w') :
    Code.wp Tryz.prog (subC [true, true, true, true, true, true, false, true, false, false, true, false, false, true, true, true, false, true, false, false, true, false, false, true, true, true, false] (Tryz.f73.body.getD .skip)) Q0 ⟨#[x0, x1, x2, x3, x4, x5, x6, x7, x8, x9, x10, x11, x12, x13, x14, x15, x16, .slice (some ⟨g, 0, none⟩) 8 c, x18, .int .i64 a, x20, x21, x22, x23, x24, x25, x26, x27, x28, x29, x30, x31, x32, x33, x34, x35, x36, x37, x38, x39, x40, x41, x42, x43, x44, x45, x46, x47, x48, x49, x50, x51, x52, x53, x54, x55, x56, x57, x58, x59, x60, x61, x62, x63, x64, x65, x66, x67, x68, x69, x70, x71, x72, x73, x74, x75, x76, x77, x78, x79, x80, x81, x82, x83, x84, x85, x86, x87, x88, x89, x90, x91, x92, x93, x94, x95, x96, x97, x98, x99, x100, x101, x102, x103, x104, x105, x106, x107, x108, x109, x110, x111, x112, x113, x114, x115, x116, x117, x118, x119, x120, x121, x122, x123, x124, x125, x126, x127, x128, x129, x130, x131, x132, x133, x134, x135, x136, x137, x138, x139, x140, x141, x142, x143, x144, x145, x146, x147, x148, x149, x150, x151, x152, x153, x154, x155, x156, x157, x158, x159, x160, x161, x162, x163, x164, x165, x166, x167, x168, x169, x170, x171, x172, x173, x174, x175, x176, x177, x178, x179, x180, x181, x182, x183, x184, x185, x186, x187, x188, x189, x190, x191, x192, x193, x194, x195, x196, x197, x198, x199, x200, x201, x202, x203, x204, x205, x206, x207, x208, x209, x210, x211, x212, x213, x214, x215, x216, x217, x218, x219, x220, x221, x222, x223, x224, x225, x226, x227, x228, x229, x230, x231, x232, x233, x234, x235, x236, x237, x238, x239, x240, x241, x242, x243, x244, x245, x246, x247, x248, x249, x250, x251, x252, x253, x254, x255, x256, x257, x258, x259, x260, x261, x262, x263, x264, x265, x266, x267, x268, x269, x270, x271, x272, x273, x274, x275, x276, x277, x278, x279, x280, x281, x282, x283], []⟩ w := by
  have HX : Hid _ := hexit
  clear hexit
  have HB : Hid (Below w.heap.size w w) := Below.refl _ _
  have HA : Hid (∀ (W : World) (x y : Nat), x < 2 ^ 32 → y < 2 ^ 32 → Calls Tryz.prog 129 #[.int .i64 x, .int .i64 y] W fun e' w' => e' = .returned (.int .i64 (andN x y : Nat)) ∧ w' = W) := fun W x y hx hy => And_any x y W hx hy
  have HXO : Hid (∀ (W : World) (b' : Nat), W.cell? ⟨b', 0, none⟩ = some (.int .i64 (andN a b : Nat)) → W.cell? ⟨b', 1, none⟩ = some (.int .i64 (andN a d : Nat)) → W.cell? ⟨b', 2, none⟩ = some (.int .i64 (andN b d : Nat)) → Calls Tryz.prog 126 #[.slice (some ⟨b', 0, none⟩) 3 3] W fun e' w' => e' = .returned (.int .i64 (majN a b d : Nat)) ∧ w' = W) := fun W b' => Xor_3 W b' _ _ _ (andN_lt _ _ hb) (andN_lt _ _ hd) (andN_lt _ _ hd) _ rfl
  generalize majN a b d = r at HX HXO
  have HLT : Hid (a < 2 ^ 32 ∧ b < 2 ^ 32 ∧ d < 2 ^ 32) := ⟨ha, hb, hd⟩
  have HS : Hid (∀ W : World, Below w.heap.size w W → W.cell? ⟨g, 1, none⟩ = some (.int .i64 b) ∧ W.cell? ⟨g, 2, none⟩ = some (.int .i64 d)) := fun W hW => ⟨(hW.cell (p := ⟨g, 1, none⟩) hg).trans c1, (hW.cell (p := ⟨g, 2, none⟩) hg).trans c2⟩
  clear c1 c2 hg ha hb hd
  conv => arg 2; whnf
  go_region_held3 (fun w' => w'.cell? ⟨g, 1, none⟩ = some (.int .i64 b) ∧ w'.cell? ⟨g, 2, none⟩ = some (.int .i64 d))
    (first | (refine HS.out _ ?_; repeat' (with_reducible (first | exact HB.out | refine bl_al ?_ _ | refine bl_dn ?_ _ | refine bl_dr ?_))) | fail)
    (first
      | (go_at_call 129; refine (HA.out _ _ _ (by first | exact HLT.out.1 | exact HLT.out.2.1) (by first | exact HLT.out.2.1 | exact HLT.out.2.2)).mono ?_; rintro e w' ⟨rfl, rfl⟩)
      | (go_at_call 126; refine (HXO.out _ _ (by first | exact al_atC _ _ _ _ 0 _ rfl rfl | simp [go_sem]) (by first | exact al_atC _ _ _ _ 1 _ rfl rfl | simp [go_sem]) (by first | exact al_atC _ _ _ _ 2 _ rfl rfl | simp [go_sem])).mono ?_; rintro e w' ⟨rfl, rfl⟩)
      | fail)
  all_goals exact HX.out _ _ _ _ _ _ _ _ _ _ _ _ _ _ _ _ _ _ _ _ (by repeat' (with_reducible (first | exact HB.out | refine bl_al ?_ _ | refine bl_dn ?_ _ | refine bl_dr ?_)))

set_option maxHeartbeats 4000000 in
set_option maxRecDepth 100000 in
theorem r36 (x0 x1 x2 x3 x4 x5 x6 x7 x8 x9 x10 x11 x12 x13 x14 x15 x16 x17 x18 x20 x21 x22 x24 x25 x26 x27 x28 x29 x30 x31 x32 x33 x34 x35 x36 x37 x38 x39 x40 x41 x42 x43 x44 x45 x46 x47 x48 x49 x50 x51 x52 x53 x54 x55 x56 x57 x58 x59 x60 x61 x62 x63 x64 x65 x66 x67 x68 x69 x70 x71 x72 x73 x74 x75 x76 x77 x78 x79 x80 x81 x82 x83 x84 x85 x86 x87 x88 x89 x90 x91 x92 x93 x94 x95 x96 x97 x98 x99 x100 x101 x102 x103 x104 x105 x106 x107 x108 x109 x110 x111 x112 x113 x114 x115 x116 x117 x118 x119 x120 x121 x122 x123 x124 x125 x126 x127 x128 x129 x130 x131 x132 x133 x134 x135 x136 x137 x138 x139 x140 x141 x142 x143 x144 x145 x146 x147 x148 x149 x150 x151 x152 x153 x154 x155 x156 x157 x158 x159 x160 x161 x162 x163 x164 x165 x166 x167 x168 x169 x170 x171 x172 x173 x174 x175 x176 x177 x178 x179 x180 x181 x182 x183 x184 x185 x186 x187 x188 x189 x190 x191 x192 x193 x194 x195 x196 x197 x198 x199 x200 x201 x202 x203 x204 x205 x206 x207 x208 x209 x210 x211 x212 x213 x214 x215 x216 x217 x218 x219 x220 x221 x222 x223 x224 x225 x226 x227 x228 x229 x230 x231 x232 x233 x234 x235 x236 x237 x238 x239 x240 x241 x242 x243 x244 x245 x246 x247 x248 x249 x250 x251 x252 x253 x254 x255 x256 x257 x258 x259 x260 x261 x262 x263 x264 x265 x266 x267 x268 x269 x270 x271 x272 x273 x274 x275 x276 x277 x278 x279 x280 x281 x282 x283 : Value) (w : World) (a m : Nat) (ha : a < 2 ^ 32) (hm : m < 2 ^ 32) (Q0 : Exit → Act → World → Prop)
    (hexit : ∀ (u207 u208 u209 u210 u211 u212 u213 u214 u215 u216 : Value) (w' : World), Below w.heap.size w w' → Q0 .normal ⟨#[x0, x1, x2, x3, x4, x5, x6, x7, x8, x9, x10, x11, x12, x13, x14, x15, x16, x17, x18, .int .i64 a, x20, x21, x22, .int .i64 m, .int .i64 (big0N a + m : Nat), x25, x26, x27, x28, x29, x30, x31, x32, x33, x34, x35, x36, x37, x38, x39, x40, x41, x42, x43, x44, x45, x46, x47, x48, x49, x50, x51, x52, x53, x54, x55, x56, x57, x58, x59, x60, x61, x62, x63, x64, x65, x66, x67, x68, x69, x70, x71, x72, x73, x74, x75, x76, x77, x78, x79, x80, x81, x82, x83, x84, x85, x86, x87, x88, x89, x90, x91, x92, x93, x94, x95, x96, x97, x98, x99, x100, x101, x102, x103, x104, x105, x106, x107, x108, x109, x110, x111, x112, x113, x114, x115, x116, x117, x118, x119, x120, x121, x122, x123, x124, x125, x126, x127, x128, x129, x130, x131, x132, x133, x134, x135, x136, x137, x138, x139, x140, x141, x142, x143, x144, x145, x146, x147, x148, x149, x150, x151, x152, x153, x154, x155, x156, x157, x158, x159, x160, x161, x162, x163, x164, x165, x166, x167, x168, x169, x170, x171, x172, x173, x174, x175, x176, x177, x178, x179, x180, x181, x182, x183, x184, x185, x186, x187, x188, x189, x190, x191, x192, x193, x194, x195, x196, x197, x198, x199, x200, x201, x202, x203, x204, x205, x206, u207, u208, u209, u210, u211, u212, u213, u214, u215, u216, x217, x218, x219, x220, x221, x222, x223, x224, x225, x226, x227, x228, x229, x230, x231, x232, x233, x234, x235, x236, x237, x238, x239, x240, x241, x242, x243, x244, x245, x246, x247, x248, x249, x250, x251, x252, x253, x254, x255, x256, x257, x258, x259, x260, x261, x262, x263, x264, x265, x266, x267, x268, x269, x270, x271, x272, x273, x274, x275, x276, x277, x278, x279, x280, x281, x282, x283], []⟩ w') :
    Code.wp Tryz.prog (subC [true, true, true, true, true, true, false, true, false, false, true, false, false, true, true, true, false, true, false, false, true, false, false, true, true, true, true, false] (Tryz.f73.body.getD .skip)) Q0 ⟨#[x0, x1, x2, x3, x4, x5, x6, x7, x8, x9, x10, x11, x12, x13, x14, x15, x16, x17, x18, .int .i64 a, x20, x21, x22, .int .i64 m, x24, x25, x26, x27, x28, x29, x30, x31, x32, x33, x34, x35, x36, x37, x38, x39, x40, x41, x42, x43, x44, x45, x46, x47, x48, x49, x50, x51, x52, x53, x54, x55, x56, x57, x58, x59, x60, x61, x62, x63, x64, x65, x66, x67, x68, x69, x70, x71, x72, x73, x74, x75, x76, x77, x78, x79, x80, x81, x82, x83, x84, x85, x86, x87, x88, x89, x90, x91, x92, x93, x94, x95, x96, x97, x98, x99, x100, x101, x102, x103, x104, x105, x106, x107, x108, x109, x110, x111, x112, x113, x114, x115, x116, x117, x118, x119, x120, x121, x122, x123, x124, x125, x126, x127, x128, x129, x130, x131, x132, x133, x134, x135, x136, x137, x138, x139, x140, x141, x142, x143, x144, x145, x146, x147, x148, x149, x150, x151, x152, x153, x154, x155, x156, x157, x158, x159, x160, x161, x162, x163, x164, x165, x166, x167, x168, x169, x170, x171, x172, x173, x174, x175, x176, x177, x178, x179, x180, x181, x182, x183, x184, x185, x186, x187, x188, x189, x190, x191, x192, x193, x194, x195, x196, x197, x198, x199, x200, x201, x202, x203, x204, x205, x206, x207, x208, x209, x210, x211, x212, x213, x214, x215, x216, x217, x218, x219, x220, x221, x222, x223, x224, x225, x226, x227, x228, x229, x230, x231, x232, x233, x234, x235, x236, x237, x238, x239, x240, x241, x242, x243, x244, x245, x246, x247, x248, x249, x250, x251, x252, x253, x254, x255, x256, x257, x258, x259, x260, x261, x262, x263, x264, x265, x266, x267, x268, x269, x270, x271, x272, x273, x274, x275, x276, x277, x278, x279, x280, x281, x282, x283], []⟩ w := by
  have HX : Hid _ := hexit
  clear hexit
  have HB : Hid (Below w.heap.size w w) := Below.refl _ _
  have bl := (big_lt a ha).2.1
  have l1 := (right_lt a 2 ha (by decide)).2
  have l2 := (right_lt a 13 ha (by decide)).2
  have l3 := (right_lt a 22 ha (by decide)).2
  have HA1 : Hid (∀ W : World, Calls Tryz.prog 127 #[.int .i64 a, .int .i64 2] W fun e' w' => e' = .returned (.int .i64 (rightN a 2 : Nat)) ∧ ∃ m, w' = W.drewN m) := fun W => Right_any a 2 W ha (by decide) (by decide)
  have HA2 : Hid (∀ W : World, Calls Tryz.prog 127 #[.int .i64 a, .int .i64 13] W fun e' w' => e' = .returned (.int .i64 (rightN a 13 : Nat)) ∧ ∃ m, w' = W.drewN m) := fun W => Right_any a 13 W ha (by decide) (by decide)
  have HA3 : Hid (∀ W : World, Calls Tryz.prog 127 #[.int .i64 a, .int .i64 22] W fun e' w' => e' = .returned (.int .i64 (rightN a 22 : Nat)) ∧ ∃ m, w' = W.drewN m) := fun W => Right_any a 22 W ha (by decide) (by decide)
  have HXO : Hid (∀ (W : World) (b : Nat), W.cell? ⟨b, 0, none⟩ = some (.int .i64 (rightN a 2 : Nat)) → W.cell? ⟨b, 1, none⟩ = some (.int .i64 (rightN a 13 : Nat)) → W.cell? ⟨b, 2, none⟩ = some (.int .i64 (rightN a 22 : Nat)) → Calls Tryz.prog 126 #[.slice (some ⟨b, 0, none⟩) 3 3] W fun e' w' => e' = .returned (.int .i64 (big0N a : Nat)) ∧ w' = W) := fun W b => Xor_3 W b _ _ _ l1 l2 l3 _ rfl
  generalize rightN a 2 = p1 at HA1 HXO
  generalize rightN a 13 = p2 at HA2 HXO
  generalize rightN a 22 = p3 at HA3 HXO
  generalize big0N a = bg at HX HXO bl
  obtain ⟨s1, hs1⟩ : ∃ s1, s1 = bg + m := ⟨_, rfl⟩
  have e1 : (bg : Int) + (m : Int) = (s1 : Int) := by omega
  rw [← hs1] at HX
  have f1 := wr60 s1 (by omega)
  have f2 : wrap64 (s1 : Int) = (s1 : Int) := by unfold wrap64; clear f1; omega
  clear hs1 ha hm bl l1 l2 l3
  conv => arg 2; whnf
  go_wp2_with fail
  refine (HA1.out _).mono ?_
  rintro e w' ⟨rfl, m1, rfl⟩
  go_wp2_with fail
  refine (HA2.out _).mono ?_
  rintro e w' ⟨rfl, m2, rfl⟩
  go_wp2_with fail
  refine (HA3.out _).mono ?_
  rintro e w' ⟨rfl, m3, rfl⟩
  go_wp2_with fail
  refine (HXO.out _ _ (al_atC _ _ _ _ 0 _ rfl rfl) (al_atC _ _ _ _ 1 _ rfl rfl) (al_atC _ _ _ _ 2 _ rfl rfl)).mono ?_
  rintro e w' ⟨rfl, rfl⟩
  go_wp2
  exact HX.out _ _ _ _ _ _ _ _ _ _ _ (by repeat' (with_reducible (first | exact HB.out | refine bl_al ?_ _ | refine bl_dn ?_ _ | refine bl_dr ?_)))

set_option maxHeartbeats 4000000 in
set_option maxRecDepth 100000 in
theorem r32 (x0 x1 x2 x3 x4 x5 x6 x7 x8 x9 x10 x11 x12 x13 x14 x15 x16 x18 x19 x20 x21 x22 x23 x24 x25 x26 x27 x28 x29 x30 x31 x32 x33 x34 x35 x36 x37 x38 x39 x40 x41 x42 x43 x44 x45 x46 x47 x48 x49 x50 x51 x52 x53 x54 x55 x56 x57 x58 x59 x60 x61 x62 x63 x64 x65 x66 x67 x68 x69 x70 x71 x72 x73 x74 x75 x76 x77 x78 x79 x80 x81 x82 x83 x84 x85 x86 x87 x88 x89 x90 x91 x92 x93 x94 x95 x96 x97 x98 x99 x100 x101 x102 x103 x104 x105 x106 x107 x108 x109 x110 x111 x112 x113 x114 x115 x116 x117 x118 x119 x120 x121 x122 x123 x124 x125 x126 x127 x128 x129 x130 x131 x132 x133 x134 x135 x136 x137 x138 x139 x140 x141 x142 x143 x144 x145 x146 x147 x148 x149 x150 x151 x152 x153 x154 x155 x156 x157 x158 x159 x160 x161 x162 x163 x164 x165 x166 x167 x168 x169 x170 x171 x172 x173 x174 x175 x176 x177 x178 x179 x180 x181 x182 x183 x184 x185 x186 x187 x188 x189 x190 x191 x192 x193 x194 x195 x196 x197 x198 x199 x200 x201 x202 x203 x204 x205 x206 x207 x208 x209 x210 x211 x212 x213 x214 x215 x216 x217 x218 x219 x220 x221 x222 x223 x224 x225 x226 x227 x228 x229 x230 x231 x232 x233 x234 x235 x236 x237 x238 x239 x240 x241 x242 x243 x244 x245 x246 x247 x248 x249 x250 x251 x252 x253 x254 x255 x256 x257 x258 x259 x260 x261 x262 x263 x264 x265 x266 x267 x268 x269 x270 x271 x272 x273 x274 x275 x276 x277 x278 x279 x280 x281 x282 x283 : Value) (w : World) (a e g c : Nat)
    (c0 : w.cell? ⟨g, 0, none⟩ = some (.int .i64 a)) (c4 : w.cell? ⟨g, 4, none⟩ = some (.int .i64 e)) (Q0 : Exit → Act → World → Prop)
    (hexit : ∀ (u144 u145 u146 u147 u148 u149 : Value) (w' : World), Below w.heap.size w w' → Q0 .normal ⟨#[x0, x1, x2, x3, x4, x5, x6, x7, x8, x9, x10, x11, x12, x13, x14, x15, x16, .slice (some ⟨g, 0, none⟩) 8 c, x18, .int .i64 a, .int .i64 e, x21, x22, x23, x24, x25, x26, x27, x28, x29, x30, x31, x32, x33, x34, x35, x36, x37, x38, x39, x40, x41, x42, x43, x44, x45, x46, x47, x48, x49, x50, x51, x52, x53, x54, x55, x56, x57, x58, x59, x60, x61, x62, x63, x64, x65, x66, x67, x68, x69, x70, x71, x72, x73, x74, x75, x76, x77, x78, x79, x80, x81, x82, x83, x84, x85, x86, x87, x88, x89, x90, x91, x92, x93, x94, x95, x96, x97, x98, x99, x100, x101, x102, x103, x104, x105, x106, x107, x108, x109, x110, x111, x112, x113, x114, x115, x116, x117, x118, x119, x120, x121, x122, x123, x124, x125, x126, x127, x128, x129, x130, x131, x132, x133, x134, x135, x136, x137, x138, x139, x140, x141, x142, x143, u144, u145, u146, u147, u148, u149, x150, x151, x152, x153, x154, x155, x156, x157, x158, x159, x160, x161, x162, x163, x164, x165, x166, x167, x168, x169, x170, x171, x172, x173, x174, x175, x176, x177, x178, x179, x180, x181, x182, x183, x184, x185, x186, x187, x188, x189, x190, x191, x192, x193, x194, x195, x196, x197, x198, x199, x200, x201, x202, x203, x204, x205, x206, x207, x208, x209, x210, x211, x212, x213, x214, x215, x216, x217, x218, x219, x220, x221, x222, x223, x224, x225, x226, x227, x228, x229, x230, x231, x232, x233, x234, x235, x236, x237, x238, x239, x240, x241, x242, x243, x244, x245, x246, x247, x248, x249, x250, x251, x252, x253, x254, x255, x256, x257, x258, x259, x260, x261, x262, x263, x264, x265, x266, x267, x268, x269, x270, x271, x272, x273, x274, x275, x276, x277, x278, x279, x280, x281, x282, x283], []⟩ w') :
    Code.wp Tryz.prog (subC [true, true, true, true, true, true, false, true, false, false, true, false, false, true, true, true, false, true, false, false, true, false, false, false] (Tryz.f73.body.getD .skip)) Q0 ⟨#[x0, x1, x2, x3, x4, x5, x6, x7, x8, x9, x10, x11, x12, x13, x14, x15, x16, .slice (some ⟨g, 0, none⟩) 8 c, x18, x19, x20, x21, x22, x23, x24, x25, x26, x27, x28, x29, x30, x31, x32, x33, x34, x35, x36, x37, x38, x39, x40, x41, x42, x43, x44, x45, x46, x47, x48, x49, x50, x51, x52, x53, x54, x55, x56, x57, x58, x59, x60, x61, x62, x63, x64, x65, x66, x67, x68, x69, x70, x71, x72, x73, x74, x75, x76, x77, x78, x79, x80, x81, x82, x83, x84, x85, x86, x87, x88, x89, x90, x91, x92, x93, x94, x95, x96, x97, x98, x99, x100, x101, x102, x103, x104, x105, x106, x107, x108, x109, x110, x111, x112, x113, x114, x115, x116, x117, x118, x119, x120, x121, x122, x123, x124, x125, x126, x127, x128, x129, x130, x131, x132, x133, x134, x135, x136, x137, x138, x139, x140, x141, x142, x143, x144, x145, x146, x147, x148, x149, x150, x151, x152, x153, x154, x155, x156, x157, x158, x159, x160, x161, x162, x163, x164, x165, x166, x167, x168, x169, x170, x171, x172, x173, x174, x175, x176, x177, x178, x179, x180, x181, x182, x183, x184, x185, x186, x187, x188, x189, x190, x191, x192, x193, x194, x195, x196, x197, x198, x199, x200, x201, x202, x203, x204, x205, x206, x207, x208, x209, x210, x211, x212, x213, x214, x215, x216, x217, x218, x219, x220, x221, x222, x223, x224, x225, x226, x227, x228, x229, x230, x231, x232, x233, x234, x235, x236, x237, x238, x239, x240, x241, x242, x243, x244, x245, x246, x247, x248, x249, x250, x251, x252, x253, x254, x255, x256, x257, x258, x259, x260, x261, x262, x263, x264, x265, x266, x267, x268, x269, x270, x271, x272, x273, x274, x275, x276, x277, x278, x279, x280, x281, x282, x283], []⟩ w := by
  have HX : Hid _ := hexit
  clear hexit
  have HB : Hid (Below w.heap.size w w) := Below.refl _ _
  conv => arg 2; whnf
  go_quiet (fail)
  exact HX.out _ _ _ _ _ _ _ (by repeat' (with_reducible (first | exact HB.out | refine bl_al ?_ _ | refine bl_dn ?_ _ | refine bl_dr ?_)))

/-- Eight numbers in a block. -/
def VAt (w : World) (g : Nat) (q : N8) : Prop := w.cell? ⟨g, 0, none⟩ = some (.int .i64 q.a) ∧ w.cell? ⟨g, 1, none⟩ = some (.int .i64 q.b) ∧ w.cell? ⟨g, 2, none⟩ = some (.int .i64 q.c) ∧ w.cell? ⟨g, 3, none⟩ = some (.int .i64 q.d) ∧ w.cell? ⟨g, 4, none⟩ = some (.int .i64 q.e) ∧ w.cell? ⟨g, 5, none⟩ = some (.int .i64 q.f) ∧ w.cell? ⟨g, 6, none⟩ = some (.int .i64 q.g) ∧ w.cell? ⟨g, 7, none⟩ = some (.int .i64 q.h)
theorem VAt.up {w w' : World} {g : Nat} {q : N8} (h : VAt w g q) (hb : Below w.heap.size w w') (hg : g < w.heap.size) : VAt w' g q := by
  obtain ⟨h0, h1, h2, h3, h4, h5, h6, h7⟩ := h
  exact ⟨(hb.cell (p := ⟨g, 0, none⟩) hg).trans h0, (hb.cell (p := ⟨g, 1, none⟩) hg).trans h1, (hb.cell (p := ⟨g, 2, none⟩) hg).trans h2, (hb.cell (p := ⟨g, 3, none⟩) hg).trans h3, (hb.cell (p := ⟨g, 4, none⟩) hg).trans h4, (hb.cell (p := ⟨g, 5, none⟩) hg).trans h5, (hb.cell (p := ⟨g, 6, none⟩) hg).trans h6, (hb.cell (p := ⟨g, 7, none⟩) hg).trans h7⟩
theorem VAt.new (W : World) (q : N8) (b : Nat) (hb : b = W.heap.size) : VAt (W.alloc (.cells #[.int .i64 q.a, .int .i64 q.b, .int .i64 q.c, .int .i64 q.d, .int .i64 q.e, .int .i64 q.f, .int .i64 q.g, .int .i64 q.h] 3)) b q :=
  ⟨al_atC _ _ _ _ 0 _ hb rfl, al_atC _ _ _ _ 1 _ hb rfl, al_atC _ _ _ _ 2 _ hb rfl, al_atC _ _ _ _ 3 _ hb rfl, al_atC _ _ _ _ 4 _ hb rfl, al_atC _ _ _ _ 5 _ hb rfl, al_atC _ _ _ _ 6 _ hb rfl, al_atC _ _ _ _ 7 _ hb rfl⟩
theorem VAt.dr {w : World} {g : Nat} {q : N8} (h : VAt w g q) : VAt w.drew g q := h

set_option maxHeartbeats 4000000 in
set_option maxRecDepth 100000 in
theorem r37 (x0 x1 x2 x3 x4 x5 x6 x7 x8 x9 x10 x11 x12 x13 x14 x15 x16 x18 x19 x20 x21 x23 x25 x26 x27 x28 x29 x30 x31 x32 x33 x34 x35 x36 x37 x38 x39 x40 x41 x42 x43 x44 x45 x46 x47 x48 x49 x50 x51 x52 x53 x54 x55 x56 x57 x58 x59 x60 x61 x62 x63 x64 x65 x66 x67 x68 x69 x70 x71 x72 x73 x74 x75 x76 x77 x78 x79 x80 x81 x82 x83 x84 x85 x86 x87 x88 x89 x90 x91 x92 x93 x94 x95 x96 x97 x98 x99 x100 x101 x102 x103 x104 x105 x106 x107 x108 x109 x110 x111 x112 x113 x114 x115 x116 x117 x118 x119 x120 x121 x122 x123 x124 x125 x126 x127 x128 x129 x130 x131 x132 x133 x134 x135 x136 x137 x138 x139 x140 x141 x142 x143 x144 x145 x146 x147 x148 x149 x150 x151 x152 x153 x154 x155 x156 x157 x158 x159 x160 x161 x162 x163 x164 x165 x166 x167 x168 x169 x170 x171 x172 x173 x174 x175 x176 x177 x178 x179 x180 x181 x182 x183 x184 x185 x186 x187 x188 x189 x190 x191 x192 x193 x194 x195 x196 x197 x198 x199 x200 x201 x202 x203 x204 x205 x206 x207 x208 x209 x210 x211 x212 x213 x214 x215 x216 x217 x218 x219 x220 x221 x222 x223 x224 x225 x226 x227 x228 x229 x230 x231 x232 x233 x234 x235 x236 x237 x238 x239 x240 x241 x242 x243 x244 x245 x246 x247 x248 x249 x250 x251 x252 x253 x254 x255 x256 x257 x258 x259 x260 x261 x262 x263 x264 x265 x266 x267 x268 x269 x270 x271 x272 x273 x274 x275 x276 x277 x278 x279 x280 x281 x282 x283 : Value) (w : World) (q : N8) (hq : q.ok) (u x g c : Nat) (hu : u < 2 ^ 32) (hx : x < 2 ^ 33) (hv : VAt w g q) (hg : g < w.heap.size) (Q0 : Exit → Act → World → Prop)
    (hexit : ∀ (u217 u218 u219 u220 u221 u222 u223 u224 u225 u226 u227 u228 u229 u230 u231 u232 u233 u234 u235 u236 u237 u238 u239 u240 u241 u242 u243 u244 u245 : Value) (g' : Nat) (w' : World), VAt w' g' ⟨(u + x) % 4294967296, q.a, q.b, q.c, (q.d + u) % 4294967296, q.e, q.f, q.g⟩ → g' < w'.heap.size → w.heap.size ≤ g' → Below w.heap.size w w' → Q0 .normal ⟨#[x0, x1, x2, x3, x4, x5, x6, x7, x8, x9, x10, x11, x12, x13, x14, x15, x16, .slice (some ⟨g', 0, none⟩) 8 8, x18, x19, x20, x21, .int .i64 u, x23, .int .i64 x, x25, x26, x27, x28, x29, x30, x31, x32, x33, x34, x35, x36, x37, x38, x39, x40, x41, x42, x43, x44, x45, x46, x47, x48, x49, x50, x51, x52, x53, x54, x55, x56, x57, x58, x59, x60, x61, x62, x63, x64, x65, x66, x67, x68, x69, x70, x71, x72, x73, x74, x75, x76, x77, x78, x79, x80, x81, x82, x83, x84, x85, x86, x87, x88, x89, x90, x91, x92, x93, x94, x95, x96, x97, x98, x99, x100, x101, x102, x103, x104, x105, x106, x107, x108, x109, x110, x111, x112, x113, x114, x115, x116, x117, x118, x119, x120, x121, x122, x123, x124, x125, x126, x127, x128, x129, x130, x131, x132, x133, x134, x135, x136, x137, x138, x139, x140, x141, x142, x143, x144, x145, x146, x147, x148, x149, x150, x151, x152, x153, x154, x155, x156, x157, x158, x159, x160, x161, x162, x163, x164, x165, x166, x167, x168, x169, x170, x171, x172, x173, x174, x175, x176, x177, x178, x179, x180, x181, x182, x183, x184, x185, x186, x187, x188, x189, x190, x191, x192, x193, x194, x195, x196, x197, x198, x199, x200, x201, x202, x203, x204, x205, x206, x207, x208, x209, x210, x211, x212, x213, x214, x215, x216, u217, u218, u219, u220, u221, u222, u223, u224, u225, u226, u227, u228, u229, u230, u231, u232, u233, u234, u235, u236, u237, u238, u239, u240, u241, u242, u243, u244, u245, x246, x247, x248, x249, x250, x251, x252, x253, x254, x255, x256, x257, x258, x259, x260, x261, x262, x263, x264, x265, x266, x267, x268, x269, x270, x271, x272, x273, x274, x275, x276, x277, x278, x279, x280, x281, x282, x283], []⟩ w') :
    Code.wp Tryz.prog (subC [true, true, true, true, true, true, false, true, false, false, true, false, false, true, true, true, false, true, false, false, true, false, false, true, true, true, true, true] (Tryz.f73.body.getD .skip)) Q0 ⟨#[x0, x1, x2, x3, x4, x5, x6, x7, x8, x9, x10, x11, x12, x13, x14, x15, x16, .slice (some ⟨g, 0, none⟩) 8 c, x18, x19, x20, x21, .int .i64 u, x23, .int .i64 x, x25, x26, x27, x28, x29, x30, x31, x32, x33, x34, x35, x36, x37, x38, x39, x40, x41, x42, x43, x44, x45, x46, x47, x48, x49, x50, x51, x52, x53, x54, x55, x56, x57, x58, x59, x60, x61, x62, x63, x64, x65, x66, x67, x68, x69, x70, x71, x72, x73, x74, x75, x76, x77, x78, x79, x80, x81, x82, x83, x84, x85, x86, x87, x88, x89, x90, x91, x92, x93, x94, x95, x96, x97, x98, x99, x100, x101, x102, x103, x104, x105, x106, x107, x108, x109, x110, x111, x112, x113, x114, x115, x116, x117, x118, x119, x120, x121, x122, x123, x124, x125, x126, x127, x128, x129, x130, x131, x132, x133, x134, x135, x136, x137, x138, x139, x140, x141, x142, x143, x144, x145, x146, x147, x148, x149, x150, x151, x152, x153, x154, x155, x156, x157, x158, x159, x160, x161, x162, x163, x164, x165, x166, x167, x168, x169, x170, x171, x172, x173, x174, x175, x176, x177, x178, x179, x180, x181, x182, x183, x184, x185, x186, x187, x188, x189, x190, x191, x192, x193, x194, x195, x196, x197, x198, x199, x200, x201, x202, x203, x204, x205, x206, x207, x208, x209, x210, x211, x212, x213, x214, x215, x216, x217, x218, x219, x220, x221, x222, x223, x224, x225, x226, x227, x228, x229, x230, x231, x232, x233, x234, x235, x236, x237, x238, x239, x240, x241, x242, x243, x244, x245, x246, x247, x248, x249, x250, x251, x252, x253, x254, x255, x256, x257, x258, x259, x260, x261, x262, x263, x264, x265, x266, x267, x268, x269, x270, x271, x272, x273, x274, x275, x276, x277, x278, x279, x280, x281, x282, x283], []⟩ w := by
  obtain ⟨va, vb, vc, vd, ve, vf, vg, vh⟩ := q
  obtain ⟨ha, hb, hc, hd, he, hf, hgg, hh⟩ := hq
  simp only at ha hb hc hd he hf hgg hh
  simp only [VAt] at hv
  have HX : Hid _ := hexit
  clear hexit
  have HB : Hid (Below w.heap.size w w) := Below.refl _ _
  obtain ⟨s1, hs1⟩ : ∃ s1, s1 = u + x := ⟨_, rfl⟩
  obtain ⟨s2, hs2⟩ : ∃ s2, s2 = vd + u := ⟨_, rfl⟩
  obtain ⟨m1, hm1⟩ : ∃ m1, m1 = s1 % 4294967296 := ⟨_, rfl⟩
  obtain ⟨m2, hm2⟩ : ∃ m2, m2 = s2 % 4294967296 := ⟨_, rfl⟩
  have e1 : (u : Int) + (x : Int) = (s1 : Int) := by omega
  have e2 : (vd : Int) + (u : Int) = (s2 : Int) := by omega
  have HW1 : Hid (∀ W : World, Calls Tryz.prog 128 #[.int .i64 s1] W fun e w' => e = .returned (.int .i64 (m1 : Int)) ∧ w' = W) := fun W => by rw [hm1]; exact Wrap_any s1 W
  have HW2 : Hid (∀ W : World, Calls Tryz.prog 128 #[.int .i64 s2] W fun e w' => e = .returned (.int .i64 (m2 : Int)) ∧ w' = W) := fun W => by rw [hm2]; exact Wrap_any s2 W
  rw [← hs1, ← hs2, ← hm1, ← hm2] at HX
  have f1 := wr60 s1 (by omega)
  have f2 := wr60 s2 (by omega)
  have HS : Hid (∀ W : World, Below w.heap.size w W → W.cell? ⟨g, 0, none⟩ = some (.int .i64 va) ∧ W.cell? ⟨g, 1, none⟩ = some (.int .i64 vb) ∧ W.cell? ⟨g, 2, none⟩ = some (.int .i64 vc) ∧ W.cell? ⟨g, 3, none⟩ = some (.int .i64 vd) ∧ W.cell? ⟨g, 4, none⟩ = some (.int .i64 ve) ∧ W.cell? ⟨g, 5, none⟩ = some (.int .i64 vf) ∧ W.cell? ⟨g, 6, none⟩ = some (.int .i64 vg)) := fun W hW => by
    obtain ⟨h0, h1, h2, h3, h4, h5, h6, h7⟩ := VAt.up (q := ⟨va, vb, vc, vd, ve, vf, vg, vh⟩) hv hW hg
    exact ⟨h0, h1, h2, h3, h4, h5, h6⟩
  clear hs1 hs2 hm1 hm2 ha hb hc hd he hf hgg hh hv hg hu hx
  conv => arg 2; whnf
  go_region_held3 (fun w' => w'.cell? ⟨g, 0, none⟩ = some (.int .i64 va) ∧ w'.cell? ⟨g, 1, none⟩ = some (.int .i64 vb) ∧ w'.cell? ⟨g, 2, none⟩ = some (.int .i64 vc) ∧ w'.cell? ⟨g, 3, none⟩ = some (.int .i64 vd) ∧ w'.cell? ⟨g, 4, none⟩ = some (.int .i64 ve) ∧ w'.cell? ⟨g, 5, none⟩ = some (.int .i64 vf) ∧ w'.cell? ⟨g, 6, none⟩ = some (.int .i64 vg))
    (first | (refine HS.out _ ?_; repeat' (with_reducible (first | exact HB.out | refine bl_al ?_ _ | refine bl_dn ?_ _ | refine bl_dr ?_))) | fail)
    (first
      | (go_at_call_of 128 (Value.int IntKind.i64 (s1 : Int)); refine (HW1.out _).mono ?_; rintro e w' ⟨rfl, rfl⟩)
      | (go_at_call_of 128 (Value.int IntKind.i64 (s2 : Int)); refine (HW2.out _).mono ?_; rintro e w' ⟨rfl, rfl⟩)
      | fail)
  all_goals exact HX.out _ _ _ _ _ _ _ _ _ _ _ _ _ _ _ _ _ _ _ _ _ _ _ _ _ _ _ _ _ _ _ (VAt.dr (VAt.new _ ⟨m1, va, vb, vc, m2, ve, vf, vg⟩ _ rfl)) (by simp [World.size_alloc]) (Nat.le_refl _) (by repeat' (with_reducible (first | exact HB.out | refine bl_al ?_ _ | refine bl_dn ?_ _ | refine bl_dr ?_)))
end Go.Proofs.YtcdgdmhlbgbklaaGreatDoor

/- The document's own Sum: its rounds. -/
namespace Go.Proofs.YtcdgdmhlbgbklaaGreatDoor
open Go.RowKit

theorem bl_tr {w w1 w2 : World} (h1 : Below w.heap.size w w1) (h2 : Below w1.heap.size w1 w2) : Below w.heap.size w w2 := h1.trans (h2.mono h1.size)
/-- Numbers in a block. -/
def LAt (w : World) (b : Nat) (l : List Nat) : Prop := ∀ j, j < l.length → w.cell? ⟨b, j, none⟩ = some (.int .i64 (l.getD j 0 : Nat))
theorem LAt.up {w w' : World} {b : Nat} {l : List Nat} (h : LAt w b l) (hb : Below w.heap.size w w') (hg : b < w.heap.size) : LAt w' b l := fun j hj => (hb.cell (p := ⟨b, j, none⟩) hg).trans (h j hj)
theorem roundsN_ok (wl ks : List Nat) (n : Nat) (s : N8) (h : s.ok) : (roundsN wl ks n s).ok := (rounds_nat wl ks n s h).2

theorem r36_facts (a m : Nat) (ha : a < 2 ^ 32) (hm : m < 2 ^ 32) :
    Hid (∀ W : World, Calls Tryz.prog 127 #[.int .i64 a, .int .i64 2] W fun e' w' => e' = .returned (.int .i64 (rightN a 2 : Nat)) ∧ ∃ m, w' = W.drewN m) ∧
    Hid (∀ W : World, Calls Tryz.prog 127 #[.int .i64 a, .int .i64 13] W fun e' w' => e' = .returned (.int .i64 (rightN a 13 : Nat)) ∧ ∃ m, w' = W.drewN m) ∧
    Hid (∀ W : World, Calls Tryz.prog 127 #[.int .i64 a, .int .i64 22] W fun e' w' => e' = .returned (.int .i64 (rightN a 22 : Nat)) ∧ ∃ m, w' = W.drewN m) ∧
    Hid (∀ (W : World) (b : Nat), W.cell? ⟨b, 0, none⟩ = some (.int .i64 (rightN a 2 : Nat)) → W.cell? ⟨b, 1, none⟩ = some (.int .i64 (rightN a 13 : Nat)) → W.cell? ⟨b, 2, none⟩ = some (.int .i64 (rightN a 22 : Nat)) → Calls Tryz.prog 126 #[.slice (some ⟨b, 0, none⟩) 3 3] W fun e' w' => e' = .returned (.int .i64 (big0N a : Nat)) ∧ w' = W) ∧
    big0N a + m < 2 ^ 33 := by
  have bl := (big_lt a ha).2.1
  have l1 := (right_lt a 2 ha (by decide)).2
  have l2 := (right_lt a 13 ha (by decide)).2
  have l3 := (right_lt a 22 ha (by decide)).2
  exact ⟨fun W => Right_any a 2 W ha (by decide) (by decide), fun W => Right_any a 13 W ha (by decide) (by decide), fun W => Right_any a 22 W ha (by decide) (by decide), fun W b => Xor_3 W b _ _ _ l1 l2 l3 _ rfl, by omega⟩
theorem r36_wrap (b m : Nat) (h : b + m < 2 ^ 33) : (b : Int) + (m : Int) = ((b + m : Nat) : Int) ∧ IntKind.i64.wrap ((b + m : Nat) : Int) = ((b + m : Nat) : Int) := ⟨by omega, wr60 _ (by omega)⟩

set_option maxHeartbeats 40000000 in
set_option maxRecDepth 100000 in
theorem loop6 (x0 x1 x2 x3 x4 x5 x7 x8 x10 x11 x12 x13 x14 x15 x16 x19 x20 x21 x22 x23 x24 x25 x26 x27 x28 x29 x30 x31 x32 x33 x34 x35 x36 x37 x38 x39 x40 x41 x42 x43 x44 x45 x46 x47 x48 x49 x50 x51 x52 x53 x54 x55 x56 x57 x58 x59 x60 x61 x62 x63 x64 x65 x66 x67 x68 x69 x70 x71 x72 x73 x74 x75 x76 x77 x78 x79 x80 x81 x82 x83 x84 x85 x86 x87 x88 x89 x90 x91 x92 x93 x94 x95 x96 x97 x98 x99 x100 x101 x102 x103 x104 x105 x106 x107 x108 x109 x110 x111 x112 x113 x114 x115 x116 x117 x118 x119 x120 x121 x122 x123 x124 x125 x126 x127 x128 x129 x130 x131 x132 x133 x134 x135 x136 x137 x138 x139 x140 x141 x142 x143 x144 x145 x146 x147 x148 x149 x150 x151 x152 x153 x154 x155 x156 x157 x158 x159 x160 x161 x162 x163 x164 x165 x166 x167 x168 x169 x170 x171 x172 x173 x174 x175 x176 x177 x178 x179 x180 x181 x182 x183 x184 x185 x186 x187 x188 x189 x190 x191 x192 x193 x194 x195 x196 x197 x198 x199 x200 x201 x202 x203 x204 x205 x206 x207 x208 x209 x210 x211 x212 x213 x214 x215 x216 x217 x218 x219 x220 x221 x222 x223 x224 x225 x226 x227 x228 x229 x230 x231 x232 x233 x234 x235 x236 x237 x238 x239 x240 x241 x242 x243 x244 x245 x246 x247 x248 x249 x250 x251 x252 x253 x254 x255 x256 x257 x258 x259 x260 x261 x262 x263 x264 x265 x266 x267 x268 x269 x270 x271 x272 x273 x274 x275 x276 x277 x278 x279 x280 x281 x282 x283 : Value) (w : World) (q : N8) (hq : q.ok) (wl ks : List Nat) (hwl : ∀ x ∈ wl, x < 2 ^ 32) (hks : ∀ x ∈ ks, x < 2 ^ 32) (hwn : wl.length = 64) (hkn : ks.length = 64) (kb kc wb wc g c : Nat)
    (hk : LAt w kb ks) (hw : LAt w wb wl) (hkb : kb < w.heap.size) (hwb : wb < w.heap.size) (hv : VAt w g q) (hg : g < w.heap.size) (Q0 : Exit → Act → World → Prop)
    (hexit : ∀ (u18 u19 u20 u21 u22 u23 u24 u140 u141 u142 u143 u144 u145 u146 u147 u148 u149 u150 u151 u152 u153 u154 u155 u156 u157 u158 u159 u160 u161 u162 u163 u164 u165 u166 u167 u168 u169 u170 u171 u172 u173 u174 u175 u176 u177 u178 u179 u180 u181 u182 u183 u184 u185 u186 u187 u188 u189 u190 u191 u192 u193 u194 u195 u196 u197 u198 u199 u200 u201 u202 u203 u204 u205 u206 u207 u208 u209 u210 u211 u212 u213 u214 u215 u216 u217 u218 u219 u220 u221 u222 u223 u224 u225 u226 u227 u228 u229 u230 u231 u232 u233 u234 u235 u236 u237 u238 u239 u240 u241 u242 u243 u244 u245 : Value) (g' c' : Nat) (w' : World), VAt w' g' (roundsN wl ks 64 q) → g' < w'.heap.size → (g' = g ∨ w.heap.size ≤ g') → Below w.heap.size w w' → Q0 (.exit 10) ⟨#[x0, x1, x2, x3, x4, x5, .slice (some ⟨kb, 0, none⟩) 64 kc, x7, x8, .slice (some ⟨wb, 0, none⟩) 64 wc, x10, x11, x12, x13, x14, x15, x16, .slice (some ⟨g', 0, none⟩) 8 c', u18, u19, u20, u21, u22, u23, u24, x25, x26, x27, x28, x29, x30, x31, x32, x33, x34, x35, x36, x37, x38, x39, x40, x41, x42, x43, x44, x45, x46, x47, x48, x49, x50, x51, x52, x53, x54, x55, x56, x57, x58, x59, x60, x61, x62, x63, x64, x65, x66, x67, x68, x69, x70, x71, x72, x73, x74, x75, x76, x77, x78, x79, x80, x81, x82, x83, x84, x85, x86, x87, x88, x89, x90, x91, x92, x93, x94, x95, x96, x97, x98, x99, x100, x101, x102, x103, x104, x105, x106, x107, x108, x109, x110, x111, x112, x113, x114, x115, x116, x117, x118, x119, x120, x121, x122, x123, x124, x125, x126, x127, x128, x129, x130, x131, x132, x133, x134, x135, x136, x137, x138, x139, u140, u141, u142, u143, u144, u145, u146, u147, u148, u149, u150, u151, u152, u153, u154, u155, u156, u157, u158, u159, u160, u161, u162, u163, u164, u165, u166, u167, u168, u169, u170, u171, u172, u173, u174, u175, u176, u177, u178, u179, u180, u181, u182, u183, u184, u185, u186, u187, u188, u189, u190, u191, u192, u193, u194, u195, u196, u197, u198, u199, u200, u201, u202, u203, u204, u205, u206, u207, u208, u209, u210, u211, u212, u213, u214, u215, u216, u217, u218, u219, u220, u221, u222, u223, u224, u225, u226, u227, u228, u229, u230, u231, u232, u233, u234, u235, u236, u237, u238, u239, u240, u241, u242, u243, u244, u245, x246, x247, x248, x249, x250, x251, x252, x253, x254, x255, x256, x257, x258, x259, x260, x261, x262, x263, x264, x265, x266, x267, x268, x269, x270, x271, x272, x273, x274, x275, x276, x277, x278, x279, x280, x281, x282, x283], []⟩ w') :
    Code.wp Tryz.prog (subC [true, true, true, true, true, true, false, true, false, false, true, false, false, true, true, true, false, true, false] (Tryz.f73.body.getD .skip)) Q0 ⟨#[x0, x1, x2, x3, x4, x5, .slice (some ⟨kb, 0, none⟩) 64 kc, x7, x8, .slice (some ⟨wb, 0, none⟩) 64 wc, x10, x11, x12, x13, x14, x15, x16, .slice (some ⟨g, 0, none⟩) 8 c, .int .i64 0, x19, x20, x21, x22, x23, x24, x25, x26, x27, x28, x29, x30, x31, x32, x33, x34, x35, x36, x37, x38, x39, x40, x41, x42, x43, x44, x45, x46, x47, x48, x49, x50, x51, x52, x53, x54, x55, x56, x57, x58, x59, x60, x61, x62, x63, x64, x65, x66, x67, x68, x69, x70, x71, x72, x73, x74, x75, x76, x77, x78, x79, x80, x81, x82, x83, x84, x85, x86, x87, x88, x89, x90, x91, x92, x93, x94, x95, x96, x97, x98, x99, x100, x101, x102, x103, x104, x105, x106, x107, x108, x109, x110, x111, x112, x113, x114, x115, x116, x117, x118, x119, x120, x121, x122, x123, x124, x125, x126, x127, x128, x129, x130, x131, x132, x133, x134, x135, x136, x137, x138, x139, x140, x141, x142, x143, x144, x145, x146, x147, x148, x149, x150, x151, x152, x153, x154, x155, x156, x157, x158, x159, x160, x161, x162, x163, x164, x165, x166, x167, x168, x169, x170, x171, x172, x173, x174, x175, x176, x177, x178, x179, x180, x181, x182, x183, x184, x185, x186, x187, x188, x189, x190, x191, x192, x193, x194, x195, x196, x197, x198, x199, x200, x201, x202, x203, x204, x205, x206, x207, x208, x209, x210, x211, x212, x213, x214, x215, x216, x217, x218, x219, x220, x221, x222, x223, x224, x225, x226, x227, x228, x229, x230, x231, x232, x233, x234, x235, x236, x237, x238, x239, x240, x241, x242, x243, x244, x245, x246, x247, x248, x249, x250, x251, x252, x253, x254, x255, x256, x257, x258, x259, x260, x261, x262, x263, x264, x265, x266, x267, x268, x269, x270, x271, x272, x273, x274, x275, x276, x277, x278, x279, x280, x281, x282, x283], []⟩ w := by
  have HX : Hid _ := hexit
  clear hexit
  have HQ : Hid (q.ok ∧ VAt w g q ∧ g < w.heap.size) := ⟨hq, hv, hg⟩
  have HK : Hid (LAt w kb ks ∧ kb < w.heap.size ∧ (∀ x ∈ ks, x < 2 ^ 32) ∧ ks.length = 64) := ⟨hk, hkb, hks, hkn⟩
  have HW : Hid (LAt w wb wl ∧ wb < w.heap.size ∧ (∀ x ∈ wl, x < 2 ^ 32) ∧ wl.length = 64) := ⟨hw, hwb, hwl, hwn⟩
  clear hq hv hg hk hkb hks hkn hw hwb hwl hwn
  conv => arg 2; whnf
  dsimp only
  go_loopw [17, 18] (fun v i wr => ∃ (t g' c' : Nat) (r : N8), t ≤ 64 ∧ r = roundsN wl ks t q ∧ v = .slice (some ⟨g', 0, none⟩) 8 c' ∧ i = .int .i64 t ∧ VAt wr g' r ∧ g' < wr.heap.size ∧ (g' = g ∨ w.heap.size ≤ g') ∧ Below w.heap.size w wr) (fun _ i _ => 64 - (intOf i).toNat)
  case atStart => exact ⟨0, g, c, q, by omega, rfl, rfl, rfl, HQ.out.2.1, HQ.out.2.2, Or.inl rfl, Below.refl _ _⟩
  case round =>
    obtain ⟨t, g', c', r, ht, hr, rfl, rfl, hv, hg, hgo, hb⟩ := hrel
    have HGO : Hid (g' = g ∨ w.heap.size ≤ g') := hgo
    clear hgo
    have hrok : r.ok := by rw [hr]; exact roundsN_ok wl ks t q HQ.out.1
    have HV : Hid (VAt wr g' r ∧ g' < wr.heap.size ∧ Below w.heap.size w wr ∧ r.ok ∧ r = roundsN wl ks t q) := ⟨hv, hg, hb, hrok, hr⟩
    clear hv hg hb hrok hr
    by_cases hlt : t < 64
    · have hti : (t : Int) < 64 := by omega
      obtain ⟨va, vb, vc, vd, ve, vf, vg, vh⟩ := r
      have HKV : Hid (∀ W : World, Below wr.heap.size wr W → VAt W g' ⟨va, vb, vc, vd, ve, vf, vg, vh⟩ ∧ g' < W.heap.size ∧ W.cell? ⟨kb, t, none⟩ = some (.int .i64 (ks.getD t 0 : Nat)) ∧ kb < W.heap.size ∧ W.cell? ⟨wb, t, none⟩ = some (.int .i64 (wl.getD t 0 : Nat)) ∧ wb < W.heap.size) := fun W hW => by
        obtain ⟨h1, h2, h3, h4, h5⟩ := HV.out
        obtain ⟨k1, k2, k3, k4⟩ := HK.out
        obtain ⟨w1, w2, w3, w4⟩ := HW.out
        have hb := bl_tr h3 hW
        exact ⟨h1.up hW h2, Nat.lt_of_lt_of_le h2 hW.size, k1.up hb k2 t (by omega), Nat.lt_of_lt_of_le k2 hb.size, w1.up hb w2 t (by omega), Nat.lt_of_lt_of_le w2 hb.size⟩
      have hkl := get_lt ks HK.out.2.2.1 t
      have hwl := get_lt wl HW.out.2.2.1 t
      have HR : Hid (roundsN wl ks (t + 1) q = N8.step ⟨va, vb, vc, vd, ve, vf, vg, vh⟩ (ks.getD t 0) (wl.getD t 0)) := by
        show (roundsN wl ks t q).step _ _ = _
        rw [← HV.out.2.2.2.2]
      generalize ks.getD t 0 = kv at HKV HR hkl
      generalize wl.getD t 0 = wv at HKV HR hwl
      have HL : Hid (kv < 2 ^ 32 ∧ wv < 2 ^ 32) := ⟨hkl, hwl⟩
      clear hkl hwl
      go_wp2
      have v0 := (HKV.out wr (Below.refl _ _)).1
      refine r32 _ _ _ _ _ _ _ _ _ _ _ _ _ _ _ _ _ _ _ _ _ _ _ _ _ _ _ _ _ _ _ _ _ _ _ _ _ _ _ _ _ _ _ _ _ _ _ _ _ _ _ _ _ _ _ _ _ _ _ _ _ _ _ _ _ _ _ _ _ _ _ _ _ _ _ _ _ _ _ _ _ _ _ _ _ _ _ _ _ _ _ _ _ _ _ _ _ _ _ _ _ _ _ _ _ _ _ _ _ _ _ _ _ _ _ _ _ _ _ _ _ _ _ _ _ _ _ _ _ _ _ _ _ _ _ _ _ _ _ _ _ _ _ _ _ _ _ _ _ _ _ _ _ _ _ _ _ _ _ _ _ _ _ _ _ _ _ _ _ _ _ _ _ _ _ _ _ _ _ _ _ _ _ _ _ _ _ _ _ _ _ _ _ _ _ _ _ _ _ _ _ _ _ _ _ _ _ _ _ _ _ _ _ _ _ _ _ _ _ _ _ _ _ _ _ _ _ _ _ _ _ _ _ _ _ _ _ _ _ _ _ _ _ _ _ _ _ _ _ _ _ _ _ _ _ _ _ _ _ _ _ _ _ _ _ _ _ _ _ _ _ _ _ _ _ _ _ _ _ _ _ _ _ wr va ve g' c' v0.1 v0.2.2.2.2.1 _ ?_
      clear v0
      intro _ _ _ _ _ _ w1 hb1
      have H1 : Hid (Below wr.heap.size wr w1) := hb1
      clear hb1
      go_wp2
      obtain ⟨v1, g1, -⟩ := HKV.out w1 H1.out
      obtain ⟨oa, ob, oc, od, oe, of, og, oh⟩ := HV.out.2.2.2.1
      refine r33 _ _ _ _ _ _ _ _ _ _ _ _ _ _ _ _ _ _ _ _ _ _ _ _ _ _ _ _ _ _ _ _ _ _ _ _ _ _ _ _ _ _ _ _ _ _ _ _ _ _ _ _ _ _ _ _ _ _ _ _ _ _ _ _ _ _ _ _ _ _ _ _ _ _ _ _ _ _ _ _ _ _ _ _ _ _ _ _ _ _ _ _ _ _ _ _ _ _ _ _ _ _ _ _ _ _ _ _ _ _ _ _ _ _ _ _ _ _ _ _ _ _ _ _ _ _ _ _ _ _ _ _ _ _ _ _ _ _ _ _ _ _ _ _ _ _ _ _ _ _ _ _ _ _ _ _ _ _ _ _ _ _ _ _ _ _ _ _ _ _ _ _ _ _ _ _ _ _ _ _ _ _ _ _ _ _ _ _ _ _ _ _ _ _ _ _ _ _ _ _ _ _ _ _ _ _ _ _ _ _ _ _ _ _ _ _ _ _ _ _ _ _ _ _ _ _ _ _ _ _ _ _ _ _ _ _ _ _ _ _ _ _ _ _ _ _ _ _ _ _ _ _ _ _ _ _ _ _ _ _ _ _ _ _ _ _ _ _ _ _ _ _ _ _ _ _ _ _ _ _ _ _ w1 ve vf vg g' c' oe of og v1.2.2.2.2.2.1 v1.2.2.2.2.2.2.1 g1 _ ?_
      clear v1 g1 oa ob oc od oe of og oh
      intro _ _ _ _ _ _ _ _ _ _ _ _ _ w2 hb2
      have H2 : Hid (Below wr.heap.size wr w2) := bl_tr H1.out hb2
      clear hb2
      go_wp2
      obtain ⟨v1, g1, ck, kk, cw, ww⟩ := HKV.out w2 H2.out
      obtain ⟨oa, ob, oc, od, oe, of, og, oh⟩ := HV.out.2.2.2.1
      refine r34 _ _ _ _ _ _ _ _ _ _ _ _ _ _ _ _ _ _ _ _ _ _ _ _ _ _ _ _ _ _ _ _ _ _ _ _ _ _ _ _ _ _ _ _ _ _ _ _ _ _ _ _ _ _ _ _ _ _ _ _ _ _ _ _ _ _ _ _ _ _ _ _ _ _ _ _ _ _ _ _ _ _ _ _ _ _ _ _ _ _ _ _ _ _ _ _ _ _ _ _ _ _ _ _ _ _ _ _ _ _ _ _ _ _ _ _ _ _ _ _ _ _ _ _ _ _ _ _ _ _ _ _ _ _ _ _ _ _ _ _ _ _ _ _ _ _ _ _ _ _ _ _ _ _ _ _ _ _ _ _ _ _ _ _ _ _ _ _ _ _ _ _ _ _ _ _ _ _ _ _ _ _ _ _ _ _ _ _ _ _ _ _ _ _ _ _ _ _ _ _ _ _ _ _ _ _ _ _ _ _ _ _ _ _ _ _ _ _ _ _ _ _ _ _ _ _ _ _ _ _ _ _ _ _ _ _ _ _ _ _ _ _ _ _ _ _ _ _ _ _ _ _ _ _ _ _ _ _ _ _ _ _ _ _ _ _ _ _ _ _ _ _ _ _ _ _ _ _ w2 ve vh (chN ve vf vg) kv wv g' c' kb kc wb wc t oe oh (ch_nat ve vf vg oe of og).2 HL.out.1 HL.out.2 hlt v1.2.2.2.2.2.2.2 ck cw g1 kk ww _ ?_
      clear v1 g1 ck kk cw ww oa ob oc od oe of og oh
      intro _ _ _ _ _ _ _ _ _ _ _ _ _ _ _ _ _ _ _ _ _ _ _ _ _ w3 hb3
      have H3 : Hid (Below wr.heap.size wr w3) := bl_tr H2.out hb3
      clear hb3
      go_wp2
      obtain ⟨v1, g1, -⟩ := HKV.out w3 H3.out
      obtain ⟨oa, ob, oc, od, oe, of, og, oh⟩ := HV.out.2.2.2.1
      refine r35 _ _ _ _ _ _ _ _ _ _ _ _ _ _ _ _ _ _ _ _ _ _ _ _ _ _ _ _ _ _ _ _ _ _ _ _ _ _ _ _ _ _ _ _ _ _ _ _ _ _ _ _ _ _ _ _ _ _ _ _ _ _ _ _ _ _ _ _ _ _ _ _ _ _ _ _ _ _ _ _ _ _ _ _ _ _ _ _ _ _ _ _ _ _ _ _ _ _ _ _ _ _ _ _ _ _ _ _ _ _ _ _ _ _ _ _ _ _ _ _ _ _ _ _ _ _ _ _ _ _ _ _ _ _ _ _ _ _ _ _ _ _ _ _ _ _ _ _ _ _ _ _ _ _ _ _ _ _ _ _ _ _ _ _ _ _ _ _ _ _ _ _ _ _ _ _ _ _ _ _ _ _ _ _ _ _ _ _ _ _ _ _ _ _ _ _ _ _ _ _ _ _ _ _ _ _ _ _ _ _ _ _ _ _ _ _ _ _ _ _ _ _ _ _ _ _ _ _ _ _ _ _ _ _ _ _ _ _ _ _ _ _ _ _ _ _ _ _ _ _ _ _ _ _ _ _ _ _ _ _ _ _ _ _ _ _ _ _ _ _ _ _ _ _ _ _ _ _ _ _ _ _ w3 va vb vc g' c' oa ob oc v1.2.1 v1.2.2.1 g1 _ ?_
      clear v1 g1 oa ob oc od oe of og oh
      intro _ _ _ _ _ _ _ _ _ _ _ _ _ _ _ _ _ _ _ w4 hb4
      have H4 : Hid (Below wr.heap.size wr w4) := bl_tr H3.out hb4
      clear hb4
      obtain ⟨HA1, HA2, HA3, HXO, hs1⟩ := r36_facts va (majN va vb vc) HV.out.2.2.2.1.1 (maj_nat va vb vc HV.out.2.2.2.1.1 HV.out.2.2.2.1.2.1 HV.out.2.2.2.1.2.2.1).2
      generalize rightN va 2 = p1 at HA1 HXO
      generalize rightN va 13 = p2 at HA2 HXO
      generalize rightN va 22 = p3 at HA3 HXO
      have HSX : Hid (big0N va + majN va vb vc < 2 ^ 33) := hs1
      have f0 := r36_wrap (big0N va) (majN va vb vc) hs1
      have HSM : Hid (∃ s1, s1 = big0N va + majN va vb vc) := ⟨_, rfl⟩
      obtain ⟨s1, hs1'⟩ := HSM.out
      rw [← hs1'] at f0
      have HSE : Hid (s1 = big0N va + majN va vb vc) := hs1'
      generalize big0N va = bg at HXO f0
      clear hs1 hs1' HSM
      obtain ⟨f1, f2⟩ := f0
      go_wp2_with fail
      refine (HA1.out _).mono ?_
      rintro e w' ⟨rfl, m1, rfl⟩
      go_wp2_with fail
      refine (HA2.out _).mono ?_
      rintro e w' ⟨rfl, m2, rfl⟩
      go_wp2_with fail
      refine (HA3.out _).mono ?_
      rintro e w' ⟨rfl, m3, rfl⟩
      go_wp2_with fail
      refine (HXO.out _ _ (al_atC _ _ _ _ 0 _ rfl rfl) (al_atC _ _ _ _ 1 _ rfl rfl) (al_atC _ _ _ _ 2 _ rfl rfl)).mono ?_
      rintro e w' ⟨rfl, rfl⟩
      go_wp2
      have HBW : Hid (Below w4.heap.size w4 w4) := Below.refl _ _
      refine r37 _ _ _ _ _ _ _ _ _ _ _ _ _ _ _ _ _ _ _ _ _ _ _ _ _ _ _ _ _ _ _ _ _ _ _ _ _ _ _ _ _ _ _ _ _ _ _ _ _ _ _ _ _ _ _ _ _ _ _ _ _ _ _ _ _ _ _ _ _ _ _ _ _ _ _ _ _ _ _ _ _ _ _ _ _ _ _ _ _ _ _ _ _ _ _ _ _ _ _ _ _ _ _ _ _ _ _ _ _ _ _ _ _ _ _ _ _ _ _ _ _ _ _ _ _ _ _ _ _ _ _ _ _ _ _ _ _ _ _ _ _ _ _ _ _ _ _ _ _ _ _ _ _ _ _ _ _ _ _ _ _ _ _ _ _ _ _ _ _ _ _ _ _ _ _ _ _ _ _ _ _ _ _ _ _ _ _ _ _ _ _ _ _ _ _ _ _ _ _ _ _ _ _ _ _ _ _ _ _ _ _ _ _ _ _ _ _ _ _ _ _ _ _ _ _ _ _ _ _ _ _ _ _ _ _ _ _ _ _ _ _ _ _ _ _ _ _ _ _ _ _ _ _ _ _ _ _ _ _ _ _ _ _ _ _ _ _ _ _ _ _ _ _ _ _ _ _ _ _ _ _ _ ⟨va, vb, vc, vd, ve, vf, vg, vh⟩ HV.out.2.2.2.1 ((vh + big1N ve + chN ve vf vg + kv + wv) % 4294967296) s1 g' c' (Nat.mod_lt _ (by decide)) (by rw [HSE.out]; exact HSX.out) ?hv ?hg _ ?_
      case hv => exact (HKV.out _ (bl_tr H4.out (by repeat' (with_reducible (first | exact HBW.out | refine bl_al ?_ _ | refine bl_dn ?_ _ | refine bl_dr ?_))))).1
      case hg => exact (HKV.out _ (bl_tr H4.out (by repeat' (with_reducible (first | exact HBW.out | refine bl_al ?_ _ | refine bl_dn ?_ _ | refine bl_dr ?_))))).2.1
      intro _ _ _ _ _ _ _ _ _ _ _ _ _ _ _ _ _ _ _ _ _ _ _ _ _ _ _ _ _ g6 w6 hv6 hg6 hge6 hb6
      have HGE : Hid (w.heap.size ≤ g6) := Nat.le_trans (bl_tr HV.out.2.2.1 (bl_tr H4.out (by repeat' (with_reducible (first | exact HBW.out | refine bl_al ?_ _ | refine bl_dn ?_ _ | refine bl_dr ?_))))).size hge6
      clear hge6
      have H6 : Hid (Below wr.heap.size wr w6) := bl_tr (bl_tr H4.out (by repeat' (with_reducible (first | exact HBW.out | refine bl_al ?_ _ | refine bl_dn ?_ _ | refine bl_dr ?_)))) hb6
      rw [HSE.out] at hv6
      have HV6 : Hid (VAt w6 g6 (roundsN wl ks (t + 1) q)) := by rw [HR.out]; exact hv6
      clear hb6 hv6 f1 f2
      go_wp2
      refine ⟨⟨t + 1, g6, 8, _, by omega, rfl, rfl, by go_num, HV6.out, hg6, Or.inr HGE.out, bl_tr HV.out.2.2.1 H6.out⟩, by simp [intOf]; omega⟩
    · obtain rfl : t = 64 := by omega
      go_wp2
      obtain ⟨h1, h2, h3, h4, h5⟩ := HV.out
      exact HX.out _ _ _ _ _ _ _ _ _ _ _ _ _ _ _ _ _ _ _ _ _ _ _ _ _ _ _ _ _ _ _ _ _ _ _ _ _ _ _ _ _ _ _ _ _ _ _ _ _ _ _ _ _ _ _ _ _ _ _ _ _ _ _ _ _ _ _ _ _ _ _ _ _ _ _ _ _ _ _ _ _ _ _ _ _ _ _ _ _ _ _ _ _ _ _ _ _ _ _ _ _ _ _ _ _ _ _ _ _ _ _ _ _ _ _ _ (by rw [← h5]; exact h1) h2 HGO.out h3
end Go.Proofs.YtcdgdmhlbgbklaaGreatDoor

/- The document's own Sum: what is added behind the rounds. -/
namespace Go.Proofs.YtcdgdmhlbgbklaaGreatDoor
open Go.RowKit

def N8.l (q : N8) : List Nat := [q.a, q.b, q.c, q.d, q.e, q.f, q.g, q.h]
theorem N8.l_lt {q : N8} (h : q.ok) (j : Nat) : q.l.getD j 0 < 2 ^ 32 := get_lt q.l (by
  obtain ⟨h1, h2, h3, h4, h5, h6, h7, h8⟩ := h
  intro x hx
  simp [N8.l] at hx
  rcases hx with rfl | rfl | rfl | rfl | rfl | rfl | rfl | rfl <;> assumption) j
/-- Block b holds these numbers, and no more. -/
def HAt (w : World) (b : Nat) (l : List Nat) : Prop := w.heap[b]? = some (.cells (intCells l) 3 (0, 0))
theorem HAt.lat {w : World} {b : Nat} {l : List Nat} (h : HAt w b l) : LAt w b l := fun j hj => by
  rw [Lib.cell_of_heap h, List.getD_eq_getElem?_getD, List.getElem?_eq_getElem hj]
  simp [intCells, hj]
theorem HAt.fro {w : World} {b : Nat} {l : List Nat} (h : HAt w b l) (k : Nat) : w.frozen? ⟨b, k, none⟩ = false := Lib.frozen_of_heap h k
theorem HAt.up {B : Nat} {w w' : World} {b : Nat} {l : List Nat} (h : HAt w b l) (hb : Below B w w') (hB : b < B) : HAt w' b l := (hb.block b hB).trans h
theorem HAt.lt {w : World} {b : Nat} {l : List Nat} (h : HAt w b l) : b < w.heap.size := (Array.getElem?_eq_some_iff.1 h).1
theorem HAt.set {w : World} {b : Nat} {l : List Nat} (h : HAt w b l) (k v : Nat) : HAt (w.setCell ⟨b, k, none⟩ (.int .i64 (v : Int))) b (l.set k v) := by
  have := heap_setCell_same w b k _ 3 (.int .i64 (v : Int)) h
  unfold HAt intCells at *
  rw [this]
  congr 2
  apply Array.toList_inj.1
  simp [List.map_set]
theorem VAt.at {w : World} {g : Nat} {q : N8} (h : VAt w g q) (j : Nat) (hj : j < 8) : w.cell? ⟨g, j, none⟩ = some (.int .i64 (q.l.getD j 0 : Nat)) := by
  obtain ⟨h0, h1, h2, h3, h4, h5, h6, h7⟩ := h
  match j, hj with
  | 0, _ => exact h0
  | 1, _ => exact h1
  | 2, _ => exact h2
  | 3, _ => exact h3
  | 4, _ => exact h4
  | 5, _ => exact h5
  | 6, _ => exact h6
  | 7, _ => exact h7
theorem VAt.far {w : World} {g b k : Nat} {v : Value} {q : N8} (h : VAt w g q) (hne : b ≠ g) : VAt (w.setCell ⟨b, k, none⟩ v) g q := by
  obtain ⟨h0, h1, h2, h3, h4, h5, h6, h7⟩ := h
  have e := fun j => World.cell?_setCell_far w ⟨b, k, none⟩ ⟨g, j, none⟩ v hne
  exact ⟨(e 0).trans h0, (e 1).trans h1, (e 2).trans h2, (e 3).trans h3, (e 4).trans h4, (e 5).trans h5, (e 6).trans h6, (e 7).trans h7⟩
def AddedN (x y : List Nat) (j : Nat) (l : List Nat) : Prop := l.length = 8 ∧ ∀ t, l.getD t 0 = if t < j then (x.getD t 0 + y.getD t 0) % 4294967296 else x.getD t 0
theorem AddedN.zero (x y : List Nat) (h : x.length = 8) : AddedN x y 0 x := ⟨h, fun t => by rw [if_neg (by omega)]⟩
theorem AddedN.step {x y l : List Nat} {j : Nat} (h : AddedN x y j l) (hj : j < 8) : AddedN x y (j + 1) (l.set j ((l.getD j 0 + y.getD j 0) % 4294967296)) := by
  have h8 := h.1
  refine ⟨by simpa using h.1, fun t => ?_⟩
  have ht := h.2 t
  have hjj := h.2 j
  rw [if_neg (by omega)] at hjj
  by_cases e : t = j
  · subst e
    rw [if_pos (by omega), List.getD_eq_getElem?_getD, List.getElem?_set_self (by omega), Option.getD_some, hjj]
  · rw [List.getD_eq_getElem?_getD, List.getElem?_set_ne (by omega), ← List.getD_eq_getElem?_getD, ht]
    by_cases e2 : t < j
    · rw [if_pos e2, if_pos (by omega)]
    · rw [if_neg e2, if_neg (by omega)]
/-- Two states, added. -/
def addN (q r : N8) : N8 := ⟨(q.a + r.a) % 4294967296, (q.b + r.b) % 4294967296, (q.c + r.c) % 4294967296, (q.d + r.d) % 4294967296, (q.e + r.e) % 4294967296, (q.f + r.f) % 4294967296, (q.g + r.g) % 4294967296, (q.h + r.h) % 4294967296⟩
theorem AddedN.done {q r : N8} {l : List Nat} (h : AddedN q.l r.l 8 l) : l = (addN q r).l := by
  refine List.ext_getElem (by rw [h.1]; rfl) fun t h1 h2 => ?_
  have ht := h.2 t
  have h8 := h.1
  rw [if_pos (by omega), List.getD_eq_getElem?_getD, List.getElem?_eq_getElem h1, Option.getD_some] at ht
  rw [ht]
  match t, (show t < 8 by omega) with
  | 0, _ => rfl
  | 1, _ => rfl
  | 2, _ => rfl
  | 3, _ => rfl
  | 4, _ => rfl
  | 5, _ => rfl
  | 6, _ => rfl
  | 7, _ => rfl
theorem l_eight (q : N8) : q.l.length = 8 := rfl
theorem AddedN.lt {q r : N8} {j : Nat} {l : List Nat} (h : AddedN q.l r.l j l) (hq : q.ok) (t : Nat) : l.getD t 0 < 2 ^ 32 := by
  rw [h.2 t]
  split
  · exact Nat.mod_lt _ (by decide)
  · exact N8.l_lt hq t

set_option maxHeartbeats 40000000 in
set_option maxRecDepth 100000 in
theorem loop7 (x0 x1 x2 x3 x4 x5 x6 x8 x9 x10 x11 x12 x13 x14 x15 x16 x18 x19 x20 x21 x22 x23 x24 x26 x27 x28 x29 x30 x31 x32 x33 x34 x35 x36 x37 x38 x39 x40 x41 x42 x43 x44 x45 x46 x47 x48 x49 x50 x51 x52 x53 x54 x55 x56 x57 x58 x59 x60 x61 x62 x63 x64 x65 x66 x67 x68 x69 x70 x71 x72 x73 x74 x75 x76 x77 x78 x79 x80 x81 x82 x83 x84 x85 x86 x87 x88 x89 x90 x91 x92 x93 x94 x95 x96 x97 x98 x99 x100 x101 x102 x103 x104 x105 x106 x107 x108 x109 x110 x111 x112 x113 x114 x115 x116 x117 x118 x119 x120 x121 x122 x123 x124 x125 x126 x127 x128 x129 x130 x131 x132 x133 x134 x135 x136 x137 x138 x139 x140 x141 x142 x143 x144 x145 x146 x147 x148 x149 x150 x151 x152 x153 x154 x155 x156 x157 x158 x159 x160 x161 x162 x163 x164 x165 x166 x167 x168 x169 x170 x171 x172 x173 x174 x175 x176 x177 x178 x179 x180 x181 x182 x183 x184 x185 x186 x187 x188 x189 x190 x191 x192 x193 x194 x195 x196 x197 x198 x199 x200 x201 x202 x203 x204 x205 x206 x207 x208 x209 x210 x211 x212 x213 x214 x215 x216 x217 x218 x219 x220 x221 x222 x223 x224 x225 x226 x227 x228 x229 x230 x231 x232 x233 x234 x235 x236 x237 x238 x239 x240 x241 x242 x243 x244 x245 x246 x247 x248 x249 x250 x251 x252 x253 x254 x255 x256 x257 x258 x259 x260 x261 x262 x263 x264 x265 x266 x267 x268 x269 x270 x271 x272 x273 x274 x275 x276 x277 x278 x279 x280 x281 x282 x283 : Value) (w : World) (q r : N8) (hq : q.ok) (hr : r.ok) (hb hc g c : Nat) (hh : HAt w hb q.l) (hv : VAt w g r) (hne : hb ≠ g) (Q0 : Exit → Act → World → Prop)
    (hexit : ∀ (u25 u246 u247 u248 u249 u250 u251 u252 u253 u254 u255 u256 u257 u258 u259 u260 u261 u262 : Value) (w' : World), HAt w' hb (addN q r).l → Below hb w w' → Q0 (.exit 12) ⟨#[x0, x1, x2, x3, x4, x5, x6, .slice (some ⟨hb, 0, none⟩) 8 hc, x8, x9, x10, x11, x12, x13, x14, x15, x16, .slice (some ⟨g, 0, none⟩) 8 c, x18, x19, x20, x21, x22, x23, x24, u25, x26, x27, x28, x29, x30, x31, x32, x33, x34, x35, x36, x37, x38, x39, x40, x41, x42, x43, x44, x45, x46, x47, x48, x49, x50, x51, x52, x53, x54, x55, x56, x57, x58, x59, x60, x61, x62, x63, x64, x65, x66, x67, x68, x69, x70, x71, x72, x73, x74, x75, x76, x77, x78, x79, x80, x81, x82, x83, x84, x85, x86, x87, x88, x89, x90, x91, x92, x93, x94, x95, x96, x97, x98, x99, x100, x101, x102, x103, x104, x105, x106, x107, x108, x109, x110, x111, x112, x113, x114, x115, x116, x117, x118, x119, x120, x121, x122, x123, x124, x125, x126, x127, x128, x129, x130, x131, x132, x133, x134, x135, x136, x137, x138, x139, x140, x141, x142, x143, x144, x145, x146, x147, x148, x149, x150, x151, x152, x153, x154, x155, x156, x157, x158, x159, x160, x161, x162, x163, x164, x165, x166, x167, x168, x169, x170, x171, x172, x173, x174, x175, x176, x177, x178, x179, x180, x181, x182, x183, x184, x185, x186, x187, x188, x189, x190, x191, x192, x193, x194, x195, x196, x197, x198, x199, x200, x201, x202, x203, x204, x205, x206, x207, x208, x209, x210, x211, x212, x213, x214, x215, x216, x217, x218, x219, x220, x221, x222, x223, x224, x225, x226, x227, x228, x229, x230, x231, x232, x233, x234, x235, x236, x237, x238, x239, x240, x241, x242, x243, x244, x245, u246, u247, u248, u249, u250, u251, u252, u253, u254, u255, u256, u257, u258, u259, u260, u261, u262, x263, x264, x265, x266, x267, x268, x269, x270, x271, x272, x273, x274, x275, x276, x277, x278, x279, x280, x281, x282, x283], []⟩ w') :
    Code.wp Tryz.prog (subC [true, true, true, true, true, true, false, true, false, false, true, false, false, true, true, true, true, true, false] (Tryz.f73.body.getD .skip)) Q0 ⟨#[x0, x1, x2, x3, x4, x5, x6, .slice (some ⟨hb, 0, none⟩) 8 hc, x8, x9, x10, x11, x12, x13, x14, x15, x16, .slice (some ⟨g, 0, none⟩) 8 c, x18, x19, x20, x21, x22, x23, x24, .int .i64 0, x26, x27, x28, x29, x30, x31, x32, x33, x34, x35, x36, x37, x38, x39, x40, x41, x42, x43, x44, x45, x46, x47, x48, x49, x50, x51, x52, x53, x54, x55, x56, x57, x58, x59, x60, x61, x62, x63, x64, x65, x66, x67, x68, x69, x70, x71, x72, x73, x74, x75, x76, x77, x78, x79, x80, x81, x82, x83, x84, x85, x86, x87, x88, x89, x90, x91, x92, x93, x94, x95, x96, x97, x98, x99, x100, x101, x102, x103, x104, x105, x106, x107, x108, x109, x110, x111, x112, x113, x114, x115, x116, x117, x118, x119, x120, x121, x122, x123, x124, x125, x126, x127, x128, x129, x130, x131, x132, x133, x134, x135, x136, x137, x138, x139, x140, x141, x142, x143, x144, x145, x146, x147, x148, x149, x150, x151, x152, x153, x154, x155, x156, x157, x158, x159, x160, x161, x162, x163, x164, x165, x166, x167, x168, x169, x170, x171, x172, x173, x174, x175, x176, x177, x178, x179, x180, x181, x182, x183, x184, x185, x186, x187, x188, x189, x190, x191, x192, x193, x194, x195, x196, x197, x198, x199, x200, x201, x202, x203, x204, x205, x206, x207, x208, x209, x210, x211, x212, x213, x214, x215, x216, x217, x218, x219, x220, x221, x222, x223, x224, x225, x226, x227, x228, x229, x230, x231, x232, x233, x234, x235, x236, x237, x238, x239, x240, x241, x242, x243, x244, x245, x246, x247, x248, x249, x250, x251, x252, x253, x254, x255, x256, x257, x258, x259, x260, x261, x262, x263, x264, x265, x266, x267, x268, x269, x270, x271, x272, x273, x274, x275, x276, x277, x278, x279, x280, x281, x282, x283], []⟩ w := by
  have HX : Hid _ := hexit
  clear hexit
  have HQ : Hid (q.ok ∧ r.ok ∧ hb ≠ g ∧ HAt w hb q.l ∧ VAt w g r) := ⟨hq, hr, hne, hh, hv⟩
  clear hq hr hne hh hv
  conv => arg 2; whnf
  dsimp only
  go_loopw [25] (fun i wr => ∃ (j : Nat) (l : List Nat), j ≤ 8 ∧ i = .int .i64 j ∧ AddedN q.l r.l j l ∧ HAt wr hb l ∧ VAt wr g r ∧ Below hb w wr) (fun i _ => 8 - (intOf i).toNat)
  case atStart => exact ⟨0, q.l, by omega, rfl, AddedN.zero _ _ rfl, HQ.out.2.2.2.1, HQ.out.2.2.2.2, Below.refl _ _⟩
  case round =>
    obtain ⟨j, l, hj, rfl, had, hh, hv, hbl⟩ := hrel
    have HV : Hid (AddedN q.l r.l j l ∧ HAt wr hb l ∧ VAt wr g r ∧ Below hb w wr) := ⟨had, hh, hv, hbl⟩
    clear had hh hv hbl
    by_cases hlt : j < 8
    · have hji : (j : Int) < 8 := by omega
      have c1 := HV.out.2.1.lat j (by rw [HV.out.1.1]; exact hlt)
      have c2 := HV.out.2.2.1.at j hlt
      have f0 := HV.out.2.1.fro j
      have l1 := AddedN.lt HV.out.1 HQ.out.1 j
      have l2 := N8.l_lt HQ.out.2.1 j
      have HN : Hid (AddedN q.l r.l (j + 1) (l.set j ((l.getD j 0 + r.l.getD j 0) % 4294967296))) := HV.out.1.step hlt
      generalize l.getD j 0 = x at c1 l1 HN
      generalize r.l.getD j 0 = y at c2 l2 HN
      obtain ⟨s, hs⟩ : ∃ s, s = x + y := ⟨_, rfl⟩
      obtain ⟨m, hm⟩ : ∃ m, m = s % 4294967296 := ⟨_, rfl⟩
      rw [← hs, ← hm] at HN
      have e1 : (x : Int) + (y : Int) = (s : Int) := by omega
      have HW : Hid (∀ W : World, Calls Tryz.prog 128 #[.int .i64 s] W fun e w' => e = .returned (.int .i64 (m : Int)) ∧ w' = W) := fun W => by rw [hm]; exact Wrap_any s W
      have f1 := wr60 s (by omega)
      clear hm hs l1 l2
      go_wp2
      refine wp_region_noPanic ?_
      go_region_with (go_at_call 128; refine (HW.out _).mono ?_; rintro e w' ⟨rfl, rfl⟩)
      all_goals clear f1
      all_goals refine NoPanic.normal ?_
      all_goals go_wp2
      all_goals refine ⟨⟨j + 1, _, by omega, by go_num, HN.out, HV.out.2.1.set j m, HV.out.2.2.1.far HQ.out.2.2.1, (HV.out.2.2.2.setCell (p := ⟨hb, j, none⟩) (Nat.le_refl _) _).drew⟩, by simp [intOf]; omega⟩
    · obtain rfl : j = 8 := by omega
      go_wp2
      obtain ⟨h1, h2, h3, h4⟩ := HV.out
      exact HX.out _ _ _ _ _ _ _ _ _ _ _ _ _ _ _ _ _ _ _ (by rw [← h1.done]; exact h2) h4
end Go.Proofs.YtcdgdmhlbgbklaaGreatDoor

/- The document's own Sum: the words of a block. -/
namespace Go.Proofs.YtcdgdmhlbgbklaaGreatDoor
open Go.RowKit

theorem infI : (Tryz.prog.info? 3).map (fun i => (i.zero, i.size, i.bytes)) = some (some (.int .i64 0), 1, 8) := by kernel_rfl
/-- Numbers, as cells in a row. -/
def ics (l : List Nat) : List Value := l.map fun (n : Nat) => Value.int .i64 (n : Int)
theorem ics_get (l : List Nat) (j : Nat) (hj : j < l.length) : (ics l)[j]? = some (.int .i64 (l.getD j 0 : Nat)) := by
  rw [List.getD_eq_getElem?_getD, List.getElem?_eq_getElem hj]
  simp [ics, hj]

theorem step_call {P : Program} {ops : Array Oper} {o : Oper} {a : Act} {w : World} {K : Act → World → Prop} {Q : Exit → Act → World → Prop} {E : Prop} (hg : o.guard = none) (h : Oper.wp P o a w K Q) : if Region.wanted o (yielded ops a.tmps) = true then Oper.wp P o a w K Q else E := by
  have hw : Region.wanted o (yielded ops a.tmps) = true := by simp [Region.wanted, hg]
  rw [if_pos hw]
  exact h

set_option maxHeartbeats 4000000 in
set_option maxRecDepth 100000 in
theorem r27 (x0 x1 x2 x3 x4 x5 x6 x7 x8 x11 x12 x13 x14 x17 x18 x19 x20 x21 x22 x23 x24 x25 x26 x27 x28 x29 x30 x31 x32 x33 x34 x35 x36 x37 x38 x39 x40 x41 x42 x43 x44 x45 x46 x47 x48 x49 x50 x51 x52 x53 x54 x55 x56 x57 x58 x59 x60 x61 x62 x63 x64 x65 x66 x67 x68 x69 x70 x71 x72 x73 x74 x75 x76 x77 x78 x79 x80 x81 x82 x83 x84 x85 x86 x87 x88 x89 x90 x91 x92 x93 x94 x95 x96 x97 x98 x99 x100 x101 x102 x103 x104 x105 x106 x107 x108 x109 x110 x111 x112 x113 x114 x115 x116 x117 x118 x119 x120 x121 x122 x123 x124 x125 x126 x127 x128 x129 x130 x131 x132 x133 x134 x135 x136 x137 x138 x139 x140 x141 x142 x143 x144 x145 x146 x147 x148 x149 x150 x151 x152 x153 x154 x155 x156 x157 x158 x159 x160 x161 x162 x163 x164 x165 x166 x167 x168 x169 x170 x171 x172 x173 x174 x175 x176 x177 x178 x179 x180 x181 x182 x183 x184 x185 x186 x187 x188 x189 x190 x191 x192 x193 x194 x195 x196 x197 x198 x199 x200 x201 x202 x203 x204 x205 x206 x207 x208 x209 x210 x211 x212 x213 x214 x215 x216 x217 x218 x219 x220 x221 x222 x223 x224 x225 x226 x227 x228 x229 x230 x231 x232 x233 x234 x235 x236 x237 x238 x239 x240 x241 x242 x243 x244 x245 x246 x247 x248 x249 x250 x251 x252 x253 x254 x255 x256 x257 x258 x259 x260 x261 x262 x263 x264 x265 x266 x267 x268 x269 x270 x271 x272 x273 x274 x275 x276 x277 x278 x279 x280 x281 x282 x283 : Value) (w0 w : World) (t g cap s0 s1 : Nat) (l : List Nat) (ht : 16 ≤ t) (ht2 : t < 64) (hl : l.length = t) (h32 : ∀ x ∈ l, x < 2 ^ 32) (h0 : s0 < 2 ^ 32) (h1 : s1 < 2 ^ 32)
    (hown : w.ownsRow w0.heap.size 3 1 (.slice (some ⟨g, 0, none⟩) t cap) t (ics l)) (hb : Below w0.heap.size w0 w) (Q0 : Exit → Act → World → Prop)
    (hexit : ∀ (u118 u119 u120 u121 u122 u123 u124 u125 u126 u127 u128 u129 u130 u131 u132 u133 u134 u135 u136 : Value) (g' cap' : Nat) (w' : World), w'.ownsRow w0.heap.size 3 1 (.slice (some ⟨g', 0, none⟩) (t + 1) cap') (t + 1) (ics (l ++ [(l.getD (t - 16) 0 + s0 + l.getD (t - 7) 0 + s1) % 4294967296])) → Below w0.heap.size w0 w' → Q0 .normal ⟨#[x0, x1, x2, x3, x4, x5, x6, x7, x8, .slice (some ⟨g', 0, none⟩) (t + 1) cap', .int .i64 t, x11, x12, x13, x14, .int .i64 s0, .int .i64 s1, x17, x18, x19, x20, x21, x22, x23, x24, x25, x26, x27, x28, x29, x30, x31, x32, x33, x34, x35, x36, x37, x38, x39, x40, x41, x42, x43, x44, x45, x46, x47, x48, x49, x50, x51, x52, x53, x54, x55, x56, x57, x58, x59, x60, x61, x62, x63, x64, x65, x66, x67, x68, x69, x70, x71, x72, x73, x74, x75, x76, x77, x78, x79, x80, x81, x82, x83, x84, x85, x86, x87, x88, x89, x90, x91, x92, x93, x94, x95, x96, x97, x98, x99, x100, x101, x102, x103, x104, x105, x106, x107, x108, x109, x110, x111, x112, x113, x114, x115, x116, x117, u118, u119, u120, u121, u122, u123, u124, u125, u126, u127, u128, u129, u130, u131, u132, u133, u134, u135, u136, x137, x138, x139, x140, x141, x142, x143, x144, x145, x146, x147, x148, x149, x150, x151, x152, x153, x154, x155, x156, x157, x158, x159, x160, x161, x162, x163, x164, x165, x166, x167, x168, x169, x170, x171, x172, x173, x174, x175, x176, x177, x178, x179, x180, x181, x182, x183, x184, x185, x186, x187, x188, x189, x190, x191, x192, x193, x194, x195, x196, x197, x198, x199, x200, x201, x202, x203, x204, x205, x206, x207, x208, x209, x210, x211, x212, x213, x214, x215, x216, x217, x218, x219, x220, x221, x222, x223, x224, x225, x226, x227, x228, x229, x230, x231, x232, x233, x234, x235, x236, x237, x238, x239, x240, x241, x242, x243, x244, x245, x246, x247, x248, x249, x250, x251, x252, x253, x254, x255, x256, x257, x258, x259, x260, x261, x262, x263, x264, x265, x266, x267, x268, x269, x270, x271, x272, x273, x274, x275, x276, x277, x278, x279, x280, x281, x282, x283], []⟩ w') :
    Code.wp Tryz.prog (subC [true, true, true, true, true, true, false, true, false, false, true, false, false, true, false, true, false, false, true, false, false, true, true, true, true] (Tryz.f73.body.getD .skip)) Q0 ⟨#[x0, x1, x2, x3, x4, x5, x6, x7, x8, .slice (some ⟨g, 0, none⟩) t cap, .int .i64 t, x11, x12, x13, x14, .int .i64 s0, .int .i64 s1, x17, x18, x19, x20, x21, x22, x23, x24, x25, x26, x27, x28, x29, x30, x31, x32, x33, x34, x35, x36, x37, x38, x39, x40, x41, x42, x43, x44, x45, x46, x47, x48, x49, x50, x51, x52, x53, x54, x55, x56, x57, x58, x59, x60, x61, x62, x63, x64, x65, x66, x67, x68, x69, x70, x71, x72, x73, x74, x75, x76, x77, x78, x79, x80, x81, x82, x83, x84, x85, x86, x87, x88, x89, x90, x91, x92, x93, x94, x95, x96, x97, x98, x99, x100, x101, x102, x103, x104, x105, x106, x107, x108, x109, x110, x111, x112, x113, x114, x115, x116, x117, x118, x119, x120, x121, x122, x123, x124, x125, x126, x127, x128, x129, x130, x131, x132, x133, x134, x135, x136, x137, x138, x139, x140, x141, x142, x143, x144, x145, x146, x147, x148, x149, x150, x151, x152, x153, x154, x155, x156, x157, x158, x159, x160, x161, x162, x163, x164, x165, x166, x167, x168, x169, x170, x171, x172, x173, x174, x175, x176, x177, x178, x179, x180, x181, x182, x183, x184, x185, x186, x187, x188, x189, x190, x191, x192, x193, x194, x195, x196, x197, x198, x199, x200, x201, x202, x203, x204, x205, x206, x207, x208, x209, x210, x211, x212, x213, x214, x215, x216, x217, x218, x219, x220, x221, x222, x223, x224, x225, x226, x227, x228, x229, x230, x231, x232, x233, x234, x235, x236, x237, x238, x239, x240, x241, x242, x243, x244, x245, x246, x247, x248, x249, x250, x251, x252, x253, x254, x255, x256, x257, x258, x259, x260, x261, x262, x263, x264, x265, x266, x267, x268, x269, x270, x271, x272, x273, x274, x275, x276, x277, x278, x279, x280, x281, x282, x283], []⟩ w := by
  obtain ⟨i0, hi, hz0, hz1, hz2⟩ := info_p infI
  have HX : Hid _ := hexit
  have HO : Hid (w.ownsRow w0.heap.size 3 1 (.slice (some ⟨g, 0, none⟩) t cap) t (ics l)) := hown
  have HB : Hid (Below w0.heap.size w0 w) := hb
  have c1 : w.cell? ⟨g, t - 16, none⟩ = some (.int .i64 (l.getD (t - 16) 0 : Nat)) := (hown.cellAt (t - 16) (by omega)).trans (ics_get l _ (by omega))
  have c2 : w.cell? ⟨g, t - 7, none⟩ = some (.int .i64 (l.getD (t - 7) 0 : Nat)) := (hown.cellAt (t - 7) (by omega)).trans (ics_get l _ (by omega))
  have l1 := get_lt l h32 (t - 16)
  have l2 := get_lt l h32 (t - 7)
  clear hexit hown hb
  generalize l.getD (t - 16) 0 = x at c1 HX l1
  generalize l.getD (t - 7) 0 = y at c2 HX l2
  obtain ⟨i16, h16⟩ : ∃ i16, i16 = t - 16 := ⟨_, rfl⟩
  obtain ⟨i7, h7⟩ : ∃ i7, i7 = t - 7 := ⟨_, rfl⟩
  rw [← h16] at c1
  rw [← h7] at c2
  have e16 : (t : Int) - 16 = (i16 : Int) := by omega
  have e7 : (t : Int) - 7 = (i7 : Int) := by omega
  have d16 : (i16 : Int) < (t : Int) := by omega
  have d7 : (i7 : Int) < (t : Int) := by omega
  obtain ⟨a1, ha1⟩ : ∃ a1, a1 = x + s0 := ⟨_, rfl⟩
  obtain ⟨a2, ha2⟩ : ∃ a2, a2 = a1 + y := ⟨_, rfl⟩
  obtain ⟨a3, ha3⟩ : ∃ a3, a3 = a2 + s1 := ⟨_, rfl⟩
  obtain ⟨m, hm⟩ : ∃ m, m = a3 % 4294967296 := ⟨_, rfl⟩
  rw [← ha1, ← ha2, ← ha3, ← hm] at HX
  have e1 : (x : Int) + (s0 : Int) = (a1 : Int) := by omega
  have e2 : (a1 : Int) + (y : Int) = (a2 : Int) := by omega
  have e3 : (a2 : Int) + (s1 : Int) = (a3 : Int) := by omega
  have HW : Hid (∀ W : World, Calls Tryz.prog 128 #[.int .i64 a3] W fun e w' => e = .returned (.int .i64 (m : Int)) ∧ w' = W) := fun W => by rw [hm]; exact Wrap_any a3 W
  have q1 : t + 1 ≤ maxLen := by unfold maxLen; omega
  have q2 : (t + 1) * 8 ≤ 140737488355328 := by omega
  have hti : (t : Int) < 64 := by omega
  have q3 : w0.heap.size ≤ ((w.alloc (.cells #[.int .i64 (m : Int)] 3)).drew).heap.size := by show w0.heap.size ≤ (w.alloc (.cells #[.int .i64 (m : Int)] 3)).heap.size; rw [World.size_alloc]; have := HB.out.size; omega
  have q4 : ((w.alloc (.cells #[.int .i64 (m : Int)] 3)).drew).heap.size = w.heap.size + 1 := by show (w.alloc (.cells #[.int .i64 (m : Int)] 3)).heap.size = _; rw [World.size_alloc]
  have HOW : Hid (((w.alloc (.cells #[.int .i64 (m : Int)] 3)).drew).ownsRow w0.heap.size 3 1 (.slice (some ⟨g, 0, none⟩) t cap) t (ics l)) := HO.out.alloc _
  have HNW : Hid (∀ (j : Nat) (u : Value), [Value.int .i64 (m : Int)][j]? = some u → ((w.alloc (.cells #[.int .i64 (m : Int)] 3)).drew).cell? ((⟨w.heap.size, 0, none⟩ : Addr).add j) = some u) := by
    intro j u hj
    match j, hj with
    | 0, hj =>
      simp at hj
      subst hj
      exact al_atC w _ _ _ 0 _ rfl rfl
  have hone : ∀ u ∈ [Value.int .i64 (m : Int)], u.oneCell' = true := by intro u hu; simp at hu; subst hu; rfl
  have f1 := wr60 a1 (by omega)
  have f2 := wr60 a2 (by omega)
  have f3 := wr60 a3 (by omega)
  have f4 := wr60 i16 (by omega)
  have f5 := wr60 i7 (by omega)
  clear ha1 ha2 ha3 hm h16 h7 l1 l2 h0 h1 h32 hl ht ht2
  conv => arg 2; whnf
  refine wp_region_noPanic ?_
  go_region_law (first
      | ((refine step_append_lies ((w.alloc (.cells #[.int .i64 (m : Int)] 3)).drew) (by rfl) (Operand.tmp 118) (Operand.tmp 135) 167 (by rfl) w0.heap.size 3 i0 (.int .i64 0) 1 8 Tryz.underlying167 hi hz0 hz1 hz2 rfl (by decide) (.slice (some ⟨g, 0, none⟩) t cap) t (ics l) (by rfl) HOW.out ⟨w.heap.size, 0, none⟩ 1 1 [.int .i64 (m : Int)] (by rfl) rfl HNW.out hone (by decide) q1 q2 q3 (w.heap.size + 1) q4 ?_; intro g' cap' w1 hown1 hgrow hat hltg))
      | (refine step_call (by rfl) ?_; go_simp; go_at_call 128; refine (HW.out _).mono ?_; rintro e w' ⟨rfl, rfl⟩)
      | fail)
  all_goals exact HX.out _ _ _ _ _ _ _ _ _ _ _ _ _ _ _ _ _ _ _ _ _ _ (by rw [show ics (l ++ [m]) = ics l ++ [.int .i64 (m : Int)] from by simp [ics]]; exact hown1) (((HB.out.alloc HB.out.size _).drew).grown hgrow q3 (fun j hj => (HO.out.lt j hj).1))
end Go.Proofs.YtcdgdmhlbgbklaaGreatDoor
