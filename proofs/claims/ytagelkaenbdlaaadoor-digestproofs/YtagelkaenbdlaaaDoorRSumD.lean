/- The document's own Sum: its digits. -/
import Derived.Test.YtagelkaenbdlaaaDoorRSumB
import Derived.Test.YtagelkaenbdlaaaDoorDig
namespace Go.Proofs.YtagelkaenbdlaaaDoor
open Go.RowKit

theorem hexd_hexC : ∀ n, n < 16 → hexd n = hexC n := by decide
theorem digit_facts (x jn p d r : Nat) (hx : x < 2 ^ 32) (hp : p = 2 ^ (4 * jn)) (hd : d = x / p) (hr : r = d % 16) :
    ((p : Int) == 0) = false ∧ ¬ (p : Int) = 0 ∧ ¬ p = 0 ∧ (x : Int) / (p : Int) = (d : Int) ∧ (x : Int).tdiv (p : Int) = (d : Int) ∧ IntKind.i64.wrap (d : Int) = (d : Int) ∧ (d : Int) % 16 = (r : Int) ∧ (d : Int).tmod 16 = (r : Int) ∧ IntKind.i64.wrap (r : Int) = (r : Int) := by
  have hp0 : 0 < p := by rw [hp]; exact Nat.two_pow_pos _
  have hdl : d < 4294967296 := by rw [hd]; exact Nat.lt_of_le_of_lt (Nat.div_le_self _ _) hx
  exact ⟨beq_eq_false_iff_ne.2 (by omega), by omega, by omega, by rw [hd]; push_cast; rfl, by rw [hd]; exact tdivN x p, wr62 d hdl, by omega, by rw [hr]; exact tmodN d 16, wr62 r (by omega)⟩

set_option maxHeartbeats 4000000 in
set_option maxRecDepth 100000 in
theorem r49 (x0 x1 x2 x3 x4 x5 x6 x8 x9 x10 x11 x12 x13 x14 x15 x16 x17 x18 x19 x20 x21 x22 x23 x24 x25 x29 x30 x31 x32 x33 x34 x35 x36 x37 x38 x39 x40 x41 x42 x43 x44 x45 x46 x47 x48 x49 x50 x51 x52 x53 x54 x55 x56 x57 x58 x59 x60 x61 x62 x63 x64 x65 x66 x67 x68 x69 x70 x71 x72 x73 x74 x75 x76 x77 x78 x79 x80 x81 x82 x83 x84 x85 x86 x87 x88 x89 x90 x91 x92 x93 x94 x95 x96 x97 x98 x99 x100 x101 x102 x103 x104 x105 x106 x107 x108 x109 x110 x111 x112 x113 x114 x115 x116 x117 x118 x119 x120 x121 x122 x123 x124 x125 x126 x127 x128 x129 x130 x131 x132 x133 x134 x135 x136 x137 x138 x139 x140 x141 x142 x143 x144 x145 x146 x147 x148 x149 x150 x151 x152 x153 x154 x155 x156 x157 x158 x159 x160 x161 x162 x163 x164 x165 x166 x167 x168 x169 x170 x171 x172 x173 x174 x175 x176 x177 x178 x179 x180 x181 x182 x183 x184 x185 x186 x187 x188 x189 x190 x191 x192 x193 x194 x195 x196 x197 x198 x199 x200 x201 x202 x203 x204 x205 x206 x207 x208 x209 x210 x211 x212 x213 x214 x215 x216 x217 x218 x219 x220 x221 x222 x223 x224 x225 x226 x227 x228 x229 x230 x231 x232 x233 x234 x235 x236 x237 x238 x239 x240 x241 x242 x243 x244 x245 x246 x247 x248 x249 x250 x251 x252 x253 x254 x255 x256 x257 x258 x259 x260 x261 x262 x263 x264 x265 x266 x267 x268 x269 x270 x271 x272 x273 x274 x275 x276 x277 x278 x279 x280 x281 x282 x283 : Value) (w : World) (hb hc i jn x : Nat) (b1 b3 : ByteArray) (hi : i < 8) (hj : jn ≤ 7) (hx : x < 2 ^ 32) (c0 : w.cell? ⟨hb, i, none⟩ = some (.int .i64 x))
    (hadd : ∀ W : World, (Op.stringOp .add b1 ⟨#[UInt8.ofNat (hexC (x / 2 ^ (4 * jn) % 16))]⟩).run Tryd.prog W = .ok (.string b3) W) (Q0 : Exit → Act → World → Prop)
    (hexit : ∀ (u271 u272 u273 u274 u275 u276 u277 u278 u279 u280 u281 u282 : Value) (n : Nat), Q0 .normal ⟨#[x0, x1, x2, x3, x4, x5, x6, .slice (some ⟨hb, 0, none⟩) 8 hc, x8, x9, x10, x11, x12, x13, x14, x15, x16, x17, x18, x19, x20, x21, x22, x23, x24, x25, .string b3, .int .i64 i, .int .i64 jn, x29, x30, x31, x32, x33, x34, x35, x36, x37, x38, x39, x40, x41, x42, x43, x44, x45, x46, x47, x48, x49, x50, x51, x52, x53, x54, x55, x56, x57, x58, x59, x60, x61, x62, x63, x64, x65, x66, x67, x68, x69, x70, x71, x72, x73, x74, x75, x76, x77, x78, x79, x80, x81, x82, x83, x84, x85, x86, x87, x88, x89, x90, x91, x92, x93, x94, x95, x96, x97, x98, x99, x100, x101, x102, x103, x104, x105, x106, x107, x108, x109, x110, x111, x112, x113, x114, x115, x116, x117, x118, x119, x120, x121, x122, x123, x124, x125, x126, x127, x128, x129, x130, x131, x132, x133, x134, x135, x136, x137, x138, x139, x140, x141, x142, x143, x144, x145, x146, x147, x148, x149, x150, x151, x152, x153, x154, x155, x156, x157, x158, x159, x160, x161, x162, x163, x164, x165, x166, x167, x168, x169, x170, x171, x172, x173, x174, x175, x176, x177, x178, x179, x180, x181, x182, x183, x184, x185, x186, x187, x188, x189, x190, x191, x192, x193, x194, x195, x196, x197, x198, x199, x200, x201, x202, x203, x204, x205, x206, x207, x208, x209, x210, x211, x212, x213, x214, x215, x216, x217, x218, x219, x220, x221, x222, x223, x224, x225, x226, x227, x228, x229, x230, x231, x232, x233, x234, x235, x236, x237, x238, x239, x240, x241, x242, x243, x244, x245, x246, x247, x248, x249, x250, x251, x252, x253, x254, x255, x256, x257, x258, x259, x260, x261, x262, x263, x264, x265, x266, x267, x268, x269, x270, u271, u272, u273, u274, u275, u276, u277, u278, u279, u280, u281, u282, x283], []⟩ (w.drewN n)) :
    Code.wp Tryd.prog (sub [true, true, true, true, true, true, true, true, false, true, false, false, true, false, false, true, false, false, true, false, false] (Tryd.f11.body.getD .skip)) Q0 ⟨#[x0, x1, x2, x3, x4, x5, x6, .slice (some ⟨hb, 0, none⟩) 8 hc, x8, x9, x10, x11, x12, x13, x14, x15, x16, x17, x18, x19, x20, x21, x22, x23, x24, x25, .string b1, .int .i64 i, .int .i64 jn, x29, x30, x31, x32, x33, x34, x35, x36, x37, x38, x39, x40, x41, x42, x43, x44, x45, x46, x47, x48, x49, x50, x51, x52, x53, x54, x55, x56, x57, x58, x59, x60, x61, x62, x63, x64, x65, x66, x67, x68, x69, x70, x71, x72, x73, x74, x75, x76, x77, x78, x79, x80, x81, x82, x83, x84, x85, x86, x87, x88, x89, x90, x91, x92, x93, x94, x95, x96, x97, x98, x99, x100, x101, x102, x103, x104, x105, x106, x107, x108, x109, x110, x111, x112, x113, x114, x115, x116, x117, x118, x119, x120, x121, x122, x123, x124, x125, x126, x127, x128, x129, x130, x131, x132, x133, x134, x135, x136, x137, x138, x139, x140, x141, x142, x143, x144, x145, x146, x147, x148, x149, x150, x151, x152, x153, x154, x155, x156, x157, x158, x159, x160, x161, x162, x163, x164, x165, x166, x167, x168, x169, x170, x171, x172, x173, x174, x175, x176, x177, x178, x179, x180, x181, x182, x183, x184, x185, x186, x187, x188, x189, x190, x191, x192, x193, x194, x195, x196, x197, x198, x199, x200, x201, x202, x203, x204, x205, x206, x207, x208, x209, x210, x211, x212, x213, x214, x215, x216, x217, x218, x219, x220, x221, x222, x223, x224, x225, x226, x227, x228, x229, x230, x231, x232, x233, x234, x235, x236, x237, x238, x239, x240, x241, x242, x243, x244, x245, x246, x247, x248, x249, x250, x251, x252, x253, x254, x255, x256, x257, x258, x259, x260, x261, x262, x263, x264, x265, x266, x267, x268, x269, x270, x271, x272, x273, x274, x275, x276, x277, x278, x279, x280, x281, x282, x283], []⟩ w := by
  have HX : Hid _ := hexit
  clear hexit
  have hii : (i : Int) < 8 := by omega
  obtain ⟨p, hp⟩ : ∃ p, p = 2 ^ (4 * jn) := ⟨_, rfl⟩
  rw [← hp] at hadd
  obtain ⟨d, hd⟩ : ∃ d, d = x / p := ⟨_, rfl⟩
  obtain ⟨r, hr⟩ : ∃ r, r = d % 16 := ⟨_, rfl⟩
  rw [← hd, ← hr] at hadd
  obtain ⟨z, hz⟩ : ∃ z, z = 4 * jn := ⟨_, rfl⟩
  have hr16 : r < 16 := by omega
  have HP : Hid (∀ W : World, Calls Tryd.prog 33 #[.int .i64 z] W fun e w' => e = .returned (.int .i64 (p : Nat)) ∧ w' = W) := fun W => by rw [hp, ← hz]; exact Pow2_any z W (by omega)
  have HH : Hid (∀ W : World, Calls Tryd.prog 40 #[.int .i64 r] W fun e w' => e = .returned (.string ⟨#[UInt8.ofNat (hexC r)]⟩) ∧ w' = W) := fun W => by rw [← hexd_hexC r hr16]; exact hexDigit_any r W hr16
  generalize (⟨#[UInt8.ofNat (hexC r)]⟩ : ByteArray) = b2 at hadd HH
  have e1 : 4 * (jn : Int) = (z : Int) := by omega
  have f0 := wr62 z (by omega)
  obtain ⟨d1, d2, d3, d4, d5, d6, d7, d8, d9⟩ := digit_facts x jn p d r hx hp hd hr
  clear hp hd hr hz hr16 hx hj hi
  conv => arg 2; whnf
  go_quiet (first
    | (go_at_call 33; refine Calls.quiet_of_same (HP.out _))
    | (go_at_call 40; refine Calls.quiet_of_same (HH.out _)))
  exact HX.out _ _ _ _ _ _ _ _ _ _ _ _ _

theorem addc (l : List UInt8) (c : UInt8) (h : l.length + 1 ≤ 9223372036854775807) (W : World) : (Op.stringOp .add ⟨l.toArray⟩ ⟨#[c]⟩).run Tryd.prog W = .ok (.string ⟨(l ++ [c]).toArray⟩) W := by
  refine (run_string_add_sum (w := W) _ _ (by rw [show (⟨l.toArray⟩ : ByteArray).size = l.length from by show l.toArray.size = _; simp, show (⟨#[c]⟩ : ByteArray).size = 1 from rfl]; exact h)).trans ?_
  rw [show (⟨#[c]⟩ : ByteArray) = ⟨[c].toArray⟩ from rfl, ByteArray.mk_append_mk]
/-- The digits of the first i numbers. -/
def preD (l : List Nat) (i : Nat) : List UInt8 := (l.take i).flatMap fun x => (List.range 8).map (digN x)
theorem preD_next (l : List Nat) (i : Nat) (h : i < l.length) : preD l (i + 1) = preD l i ++ (List.range 8).map (digN (l.getD i 0)) := by
  unfold preD
  rw [List.take_succ_eq_append_getElem h, List.flatMap_append, List.getD_eq_getElem?_getD, List.getElem?_eq_getElem h]
  simp
theorem flat8 (l : List Nat) : (l.flatMap fun x => (List.range 8).map (digN x)).length = 8 * l.length := by
  induction l with
  | nil => rfl
  | cons a l ih => rw [List.flatMap_cons, List.length_append, ih, List.length_map, List.length_range, List.length_cons]; omega
theorem preD_len (l : List Nat) (i : Nat) (h : i ≤ 8) : (preD l i).length ≤ 64 := by
  unfold preD
  rw [flat8, List.length_take]
  omega

set_option maxHeartbeats 40000000 in
set_option maxRecDepth 100000 in
theorem loop8 (x0 x1 x2 x3 x4 x5 x6 x8 x9 x10 x11 x12 x13 x14 x15 x16 x17 x18 x19 x20 x21 x22 x23 x24 x25 x28 x29 x30 x31 x32 x33 x34 x35 x36 x37 x38 x39 x40 x41 x42 x43 x44 x45 x46 x47 x48 x49 x50 x51 x52 x53 x54 x55 x56 x57 x58 x59 x60 x61 x62 x63 x64 x65 x66 x67 x68 x69 x70 x71 x72 x73 x74 x75 x76 x77 x78 x79 x80 x81 x82 x83 x84 x85 x86 x87 x88 x89 x90 x91 x92 x93 x94 x95 x96 x97 x98 x99 x100 x101 x102 x103 x104 x105 x106 x107 x108 x109 x110 x111 x112 x113 x114 x115 x116 x117 x118 x119 x120 x121 x122 x123 x124 x125 x126 x127 x128 x129 x130 x131 x132 x133 x134 x135 x136 x137 x138 x139 x140 x141 x142 x143 x144 x145 x146 x147 x148 x149 x150 x151 x152 x153 x154 x155 x156 x157 x158 x159 x160 x161 x162 x163 x164 x165 x166 x167 x168 x169 x170 x171 x172 x173 x174 x175 x176 x177 x178 x179 x180 x181 x182 x183 x184 x185 x186 x187 x188 x189 x190 x191 x192 x193 x194 x195 x196 x197 x198 x199 x200 x201 x202 x203 x204 x205 x206 x207 x208 x209 x210 x211 x212 x213 x214 x215 x216 x217 x218 x219 x220 x221 x222 x223 x224 x225 x226 x227 x228 x229 x230 x231 x232 x233 x234 x235 x236 x237 x238 x239 x240 x241 x242 x243 x244 x245 x246 x247 x248 x249 x250 x251 x252 x253 x254 x255 x256 x257 x258 x259 x260 x261 x262 x263 x264 x265 x266 x267 x268 x269 x270 x271 x272 x273 x274 x275 x276 x277 x278 x279 x280 x281 x282 x283 : Value) (w : World) (q : N8) (hq : q.ok) (hb hc : Nat) (hh : HAt w hb q.l) (Q0 : Exit → Act → World → Prop)
    (hexit : ∀ (u27 u28 u263 u264 u265 u266 u267 u268 u269 u270 u271 u272 u273 u274 u275 u276 u277 u278 u279 u280 u281 u282 : Value) (w' : World), Below w.heap.size w w' → Q0 (.exit 14) ⟨#[x0, x1, x2, x3, x4, x5, x6, .slice (some ⟨hb, 0, none⟩) 8 hc, x8, x9, x10, x11, x12, x13, x14, x15, x16, x17, x18, x19, x20, x21, x22, x23, x24, x25, .string ⟨(digsN q).toArray⟩, u27, u28, x29, x30, x31, x32, x33, x34, x35, x36, x37, x38, x39, x40, x41, x42, x43, x44, x45, x46, x47, x48, x49, x50, x51, x52, x53, x54, x55, x56, x57, x58, x59, x60, x61, x62, x63, x64, x65, x66, x67, x68, x69, x70, x71, x72, x73, x74, x75, x76, x77, x78, x79, x80, x81, x82, x83, x84, x85, x86, x87, x88, x89, x90, x91, x92, x93, x94, x95, x96, x97, x98, x99, x100, x101, x102, x103, x104, x105, x106, x107, x108, x109, x110, x111, x112, x113, x114, x115, x116, x117, x118, x119, x120, x121, x122, x123, x124, x125, x126, x127, x128, x129, x130, x131, x132, x133, x134, x135, x136, x137, x138, x139, x140, x141, x142, x143, x144, x145, x146, x147, x148, x149, x150, x151, x152, x153, x154, x155, x156, x157, x158, x159, x160, x161, x162, x163, x164, x165, x166, x167, x168, x169, x170, x171, x172, x173, x174, x175, x176, x177, x178, x179, x180, x181, x182, x183, x184, x185, x186, x187, x188, x189, x190, x191, x192, x193, x194, x195, x196, x197, x198, x199, x200, x201, x202, x203, x204, x205, x206, x207, x208, x209, x210, x211, x212, x213, x214, x215, x216, x217, x218, x219, x220, x221, x222, x223, x224, x225, x226, x227, x228, x229, x230, x231, x232, x233, x234, x235, x236, x237, x238, x239, x240, x241, x242, x243, x244, x245, x246, x247, x248, x249, x250, x251, x252, x253, x254, x255, x256, x257, x258, x259, x260, x261, x262, u263, u264, u265, u266, u267, u268, u269, u270, u271, u272, u273, u274, u275, u276, u277, u278, u279, u280, u281, u282, x283], []⟩ w') :
    Code.wp Tryd.prog (sub [true, true, true, true, true, true, true, true, false, true, false] (Tryd.f11.body.getD .skip)) Q0 ⟨#[x0, x1, x2, x3, x4, x5, x6, .slice (some ⟨hb, 0, none⟩) 8 hc, x8, x9, x10, x11, x12, x13, x14, x15, x16, x17, x18, x19, x20, x21, x22, x23, x24, x25, .string ⟨#[]⟩, .int .i64 0, x28, x29, x30, x31, x32, x33, x34, x35, x36, x37, x38, x39, x40, x41, x42, x43, x44, x45, x46, x47, x48, x49, x50, x51, x52, x53, x54, x55, x56, x57, x58, x59, x60, x61, x62, x63, x64, x65, x66, x67, x68, x69, x70, x71, x72, x73, x74, x75, x76, x77, x78, x79, x80, x81, x82, x83, x84, x85, x86, x87, x88, x89, x90, x91, x92, x93, x94, x95, x96, x97, x98, x99, x100, x101, x102, x103, x104, x105, x106, x107, x108, x109, x110, x111, x112, x113, x114, x115, x116, x117, x118, x119, x120, x121, x122, x123, x124, x125, x126, x127, x128, x129, x130, x131, x132, x133, x134, x135, x136, x137, x138, x139, x140, x141, x142, x143, x144, x145, x146, x147, x148, x149, x150, x151, x152, x153, x154, x155, x156, x157, x158, x159, x160, x161, x162, x163, x164, x165, x166, x167, x168, x169, x170, x171, x172, x173, x174, x175, x176, x177, x178, x179, x180, x181, x182, x183, x184, x185, x186, x187, x188, x189, x190, x191, x192, x193, x194, x195, x196, x197, x198, x199, x200, x201, x202, x203, x204, x205, x206, x207, x208, x209, x210, x211, x212, x213, x214, x215, x216, x217, x218, x219, x220, x221, x222, x223, x224, x225, x226, x227, x228, x229, x230, x231, x232, x233, x234, x235, x236, x237, x238, x239, x240, x241, x242, x243, x244, x245, x246, x247, x248, x249, x250, x251, x252, x253, x254, x255, x256, x257, x258, x259, x260, x261, x262, x263, x264, x265, x266, x267, x268, x269, x270, x271, x272, x273, x274, x275, x276, x277, x278, x279, x280, x281, x282, x283], []⟩ w := by
  have HX : Hid _ := hexit
  have HD : Hid (digsN q = preD q.l 8) := rfl
  have HH : Hid (HAt w hb q.l ∧ q.ok ∧ q.l.length = 8) := ⟨hh, hq, rfl⟩
  have HQ : Hid (∀ i, q.l.getD i 0 < 2 ^ 32) := fun i => N8.l_lt hq i
  rw [HD.out] at HX
  clear hexit hh hq HD
  generalize q.l = ql at HX HH HQ
  conv => arg 2; whnf
  dsimp only
  go_loopw [26, 27] (fun v i wr => ∃ k : Nat, k ≤ 8 ∧ i = .int .i64 k ∧ v = .string ⟨(preD ql k).toArray⟩ ∧ Below w.heap.size w wr) (fun _ i _ => 8 - (intOf i).toNat)
  case atStart => exact ⟨0, by omega, rfl, rfl, Below.refl _ _⟩
  case round =>
    obtain ⟨k, hk, rfl, rfl, hbl⟩ := hrel
    have HV : Hid (Below w.heap.size w wr) := hbl
    clear hbl
    by_cases hlt : k < 8
    · have hki : (k : Int) < 8 := by omega
      have HPL : Hid ((preD ql k).length ≤ 64) := preD_len ql k hk
      have HPN : Hid (preD ql (k + 1) = preD ql k ++ (List.range 8).map (digN (ql.getD k 0))) := preD_next ql k (by rw [HH.out.2.2]; exact hlt)
      have HC : Hid (∀ W : World, Below w.heap.size w W → W.cell? ⟨hb, k, none⟩ = some (.int .i64 (ql.getD k 0 : Nat))) := fun W hW => (HH.out.1.up2 hW).lat k (by rw [HH.out.2.2]; exact hlt)
      have HXL : Hid (ql.getD k 0 < 2 ^ 32) := HQ.out k
      generalize ql.getD k 0 = x at HPN HC HXL
      generalize preD ql k = pre at HPL HPN
      go_wp2
      go_loopw [26, 28] (fun v j wy => ∃ m : Nat, m ≤ 8 ∧ j = .int .i64 (7 - (m : Int)) ∧ v = .string ⟨(pre ++ (List.range m).map (digN x)).toArray⟩ ∧ Below w.heap.size w wy) (fun _ j _ => (intOf j + 1).toNat)
      case atStart => exact ⟨0, by omega, rfl, by simp, HV.out⟩
      case round =>
        clear HV
        obtain ⟨m, hm, rfl, rfl, hbl⟩ := hrel
        have HV : Hid (Below w.heap.size w _) := hbl
        clear hbl
        by_cases hm8 : m < 8
        · obtain ⟨jn, hjn⟩ : ∃ jn : Nat, jn = 7 - m := ⟨_, rfl⟩
          have e1 : (7 : Int) - (m : Int) = (jn : Int) := by omega
          have HJ : Hid (jn = 7 - m ∧ jn ≤ 7 ∧ (jn : Int) - 1 = 7 - ((m + 1 : Nat) : Int)) := ⟨hjn, by omega, by omega⟩
          have HA : Hid (∀ W : World, (Op.stringOp .add ⟨(pre ++ (List.range m).map (digN x)).toArray⟩ ⟨#[UInt8.ofNat (hexC (x / 2 ^ (4 * jn) % 16))]⟩).run Tryd.prog W = .ok (.string ⟨(pre ++ (List.range (m + 1)).map (digN x)).toArray⟩) W) := fun W => by
            rw [addc _ _ (by have := HPL.out; simp; omega) W]
            have : digN x m = UInt8.ofNat (hexC (x / 2 ^ (4 * jn) % 16)) := by
              unfold digN
              rw [show 28 - 4 * m = 4 * jn from by omega]
            rw [← this, List.range_succ, List.map_append, List.append_assoc]
            rfl
          clear hjn
          rw [e1]
          go_wp2
          refine r49 _ _ _ _ _ _ _ _ _ _ _ _ _ _ _ _ _ _ _ _ _ _ _ _ _ _ _ _ _ _ _ _ _ _ _ _ _ _ _ _ _ _ _ _ _ _ _ _ _ _ _ _ _ _ _ _ _ _ _ _ _ _ _ _ _ _ _ _ _ _ _ _ _ _ _ _ _ _ _ _ _ _ _ _ _ _ _ _ _ _ _ _ _ _ _ _ _ _ _ _ _ _ _ _ _ _ _ _ _ _ _ _ _ _ _ _ _ _ _ _ _ _ _ _ _ _ _ _ _ _ _ _ _ _ _ _ _ _ _ _ _ _ _ _ _ _ _ _ _ _ _ _ _ _ _ _ _ _ _ _ _ _ _ _ _ _ _ _ _ _ _ _ _ _ _ _ _ _ _ _ _ _ _ _ _ _ _ _ _ _ _ _ _ _ _ _ _ _ _ _ _ _ _ _ _ _ _ _ _ _ _ _ _ _ _ _ _ _ _ _ _ _ _ _ _ _ _ _ _ _ _ _ _ _ _ _ _ _ _ _ _ _ _ _ _ _ _ _ _ _ _ _ _ _ _ _ _ _ _ _ _ _ _ _ _ _ _ _ _ _ _ _ _ _ _ _ _ _ _ _ _ hb hc k jn x _ ⟨(pre ++ (List.range (m + 1)).map (digN x)).toArray⟩ hlt HJ.out.2.1 HXL.out (HC.out _ HV.out) HA.out _ ?_
          intro _ _ _ _ _ _ _ _ _ _ _ _ nn
          go_wp2
          refine ⟨⟨m + 1, by omega, congrArg (Value.int .i64) HJ.out.2.2, rfl, bl_dn HV.out _⟩, ?_⟩
          simp only [intOf]
          omega
        · obtain rfl : m = 8 := by omega
          go_wp2
          refine ⟨⟨k + 1, by omega, by go_num, by rw [HPN.out], HV.out⟩, by simp [intOf]; omega⟩
    · obtain rfl : k = 8 := by omega
      go_wp2
      exact HX.out _ _ _ _ _ _ _ _ _ _ _ _ _ _ _ _ _ _ _ _ _ _ _ HV.out
end Go.Proofs.YtagelkaenbdlaaaDoor
