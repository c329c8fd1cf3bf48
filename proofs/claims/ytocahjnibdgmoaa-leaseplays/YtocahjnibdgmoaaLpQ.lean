/- LeasePlays: what both tell behind each call. -/
import Derived.Test.YtocahjnibdgmoaaLpO
namespace Go.Proofs.Ytocahjnibdgmoaa
open Go.RowKit Go.Shelf Go.Sort

def CallX (kd wk dn : Int) (s : ByteArray) (gd : Bool) : Obj := .cells #[.int .i64 kd, .int .i64 wk, .int .i64 dn, .string s, .bool gd] 38 (0, 0)

set_option maxHeartbeats 8000000 in
set_option maxRecDepth 100000 in
theorem cmpL (x0 x1 x2 x3 x4 x5 x6 x7 x8 x9 x10 x11 x12 x13 x14 x15 x16 x17 x21 x22 x23 x24 x25 x26 x27 x28 x29 x30 x31 x32 x33 x34 x35 x36 x37 x38 x39 x40 x41 x42 x43 x44 x45 x46 x47 x48 x49 x50 x51 x52 x53 x54 x55 x56 x57 x58 x59 x60 x61 x62 x63 x64 x65 x66 x67 x68 x69 x70 x71 x72 x73 x74 x75 x76 x77 x78 x79 x80 x81 x82 x83 x84 x85 x86 x87 x88 x89 x90 x91 x92 x93 x94 x95 x96 x97 x98 x99 x100 x101 x102 x103 x104 x105 x106 x107 x108 x109 x110 x111 x112 x113 x114 x115 x116 x117 x118 x119 x120 x121 x122 x123 x124 x125 x126 x127 x128 x129 x130 x131 x132 x133 x134 x135 x136 x137 x138 x139 x140 x141 x142 x143 x144 x145 x146 x147 x148 x149 x150 x151 x152 x153 x154 x155 x156 x157 x158 x159 x160 x161 x162 x163 x164 x165 x166 x167 x168 x169 x170 x171 x172 x173 x174 x175 x176 x177 x178 x179 x180 x181 x182 x183 x184 x185 x186 x187 x188 x189 x190 x191 x192 x193 x194 x195 x196 x197 x198 x199 x200 x201 x202 x203 x204 x205 x206 x207 x208 x209 x210 x211 x212 x213 x214 x215 x216 x217 x218 x219 x220 x221 x222 x223 x224 x225 x226 x227 x228 x229 x230 x231 x232 x233 x234 x235 x236 : Value) (w : World) {B1 B2 : Nat} {L : List LL} (a1 a2 : Option Addr) (p1 p2 n : Nat) (hn : n = L.length) (h1 : w.ownsRow B1 52 3 (.slice a1 n p1) n (lcs L)) (h2 : w.ownsRow B2 52 3 (.slice a2 n p2) n (lcs L)) (hl : n ≤ 1000) (Q0 : Exit → Act → World → Prop)
    (hexit : ∀ (u4 u20 u222 u223 u224 u225 u226 u227 u228 u229 u230 u231 u232 u233 u234 u235 u236 : Value) (m : Nat), Q0 (.exit 3) ⟨#[x0, x1, x2, x3, u4, x5, x6, x7, x8, x9, x10, x11, x12, x13, x14, x15, x16, x17, .slice a1 n p1, .slice a2 n p2, u20, x21, x22, x23, x24, x25, x26, x27, x28, x29, x30, x31, x32, x33, x34, x35, x36, x37, x38, x39, x40, x41, x42, x43, x44, x45, x46, x47, x48, x49, x50, x51, x52, x53, x54, x55, x56, x57, x58, x59, x60, x61, x62, x63, x64, x65, x66, x67, x68, x69, x70, x71, x72, x73, x74, x75, x76, x77, x78, x79, x80, x81, x82, x83, x84, x85, x86, x87, x88, x89, x90, x91, x92, x93, x94, x95, x96, x97, x98, x99, x100, x101, x102, x103, x104, x105, x106, x107, x108, x109, x110, x111, x112, x113, x114, x115, x116, x117, x118, x119, x120, x121, x122, x123, x124, x125, x126, x127, x128, x129, x130, x131, x132, x133, x134, x135, x136, x137, x138, x139, x140, x141, x142, x143, x144, x145, x146, x147, x148, x149, x150, x151, x152, x153, x154, x155, x156, x157, x158, x159, x160, x161, x162, x163, x164, x165, x166, x167, x168, x169, x170, x171, x172, x173, x174, x175, x176, x177, x178, x179, x180, x181, x182, x183, x184, x185, x186, x187, x188, x189, x190, x191, x192, x193, x194, x195, x196, x197, x198, x199, x200, x201, x202, x203, x204, x205, x206, x207, x208, x209, x210, x211, x212, x213, x214, x215, x216, x217, x218, x219, x220, x221, u222, u223, u224, u225, u226, u227, u228, u229, u230, u231, u232, u233, u234, u235, u236], []⟩ (w.drewN m)) :
    Code.wp Try.prog (sub [true, true, true, true, true, true, false, true, false, false, true, false, false, true, true, true, true, true, true, true, true, true, true, false] (Try.f3.body.getD .skip)) Q0 ⟨#[x0, x1, x2, x3, x4, x5, x6, x7, x8, x9, x10, x11, x12, x13, x14, x15, x16, x17, .slice a1 n p1, .slice a2 n p2, .int .i64 0, x21, x22, x23, x24, x25, x26, x27, x28, x29, x30, x31, x32, x33, x34, x35, x36, x37, x38, x39, x40, x41, x42, x43, x44, x45, x46, x47, x48, x49, x50, x51, x52, x53, x54, x55, x56, x57, x58, x59, x60, x61, x62, x63, x64, x65, x66, x67, x68, x69, x70, x71, x72, x73, x74, x75, x76, x77, x78, x79, x80, x81, x82, x83, x84, x85, x86, x87, x88, x89, x90, x91, x92, x93, x94, x95, x96, x97, x98, x99, x100, x101, x102, x103, x104, x105, x106, x107, x108, x109, x110, x111, x112, x113, x114, x115, x116, x117, x118, x119, x120, x121, x122, x123, x124, x125, x126, x127, x128, x129, x130, x131, x132, x133, x134, x135, x136, x137, x138, x139, x140, x141, x142, x143, x144, x145, x146, x147, x148, x149, x150, x151, x152, x153, x154, x155, x156, x157, x158, x159, x160, x161, x162, x163, x164, x165, x166, x167, x168, x169, x170, x171, x172, x173, x174, x175, x176, x177, x178, x179, x180, x181, x182, x183, x184, x185, x186, x187, x188, x189, x190, x191, x192, x193, x194, x195, x196, x197, x198, x199, x200, x201, x202, x203, x204, x205, x206, x207, x208, x209, x210, x211, x212, x213, x214, x215, x216, x217, x218, x219, x220, x221, x222, x223, x224, x225, x226, x227, x228, x229, x230, x231, x232, x233, x234, x235, x236], []⟩ w := by
  have HX : Hid (∀ (u4 u20 u222 u223 u224 u225 u226 u227 u228 u229 u230 u231 u232 u233 u234 u235 u236 : Value) (m : Nat), Q0 (.exit 3) ⟨#[x0, x1, x2, x3, u4, x5, x6, x7, x8, x9, x10, x11, x12, x13, x14, x15, x16, x17, .slice a1 n p1, .slice a2 n p2, u20, x21, x22, x23, x24, x25, x26, x27, x28, x29, x30, x31, x32, x33, x34, x35, x36, x37, x38, x39, x40, x41, x42, x43, x44, x45, x46, x47, x48, x49, x50, x51, x52, x53, x54, x55, x56, x57, x58, x59, x60, x61, x62, x63, x64, x65, x66, x67, x68, x69, x70, x71, x72, x73, x74, x75, x76, x77, x78, x79, x80, x81, x82, x83, x84, x85, x86, x87, x88, x89, x90, x91, x92, x93, x94, x95, x96, x97, x98, x99, x100, x101, x102, x103, x104, x105, x106, x107, x108, x109, x110, x111, x112, x113, x114, x115, x116, x117, x118, x119, x120, x121, x122, x123, x124, x125, x126, x127, x128, x129, x130, x131, x132, x133, x134, x135, x136, x137, x138, x139, x140, x141, x142, x143, x144, x145, x146, x147, x148, x149, x150, x151, x152, x153, x154, x155, x156, x157, x158, x159, x160, x161, x162, x163, x164, x165, x166, x167, x168, x169, x170, x171, x172, x173, x174, x175, x176, x177, x178, x179, x180, x181, x182, x183, x184, x185, x186, x187, x188, x189, x190, x191, x192, x193, x194, x195, x196, x197, x198, x199, x200, x201, x202, x203, x204, x205, x206, x207, x208, x209, x210, x211, x212, x213, x214, x215, x216, x217, x218, x219, x220, x221, u222, u223, u224, u225, u226, u227, u228, u229, u230, u231, u232, u233, u234, u235, u236], []⟩ (w.drewN m)) := hexit
  have H : Hid (n = L.length ∧ w.ownsRow B1 52 3 (.slice a1 n p1) n (lcs L) ∧ w.ownsRow B2 52 3 (.slice a2 n p2) n (lcs L) ∧ n ≤ 1000) := ⟨hn, h1, h2, hl⟩
  clear hexit hn h1 h2 hl
  conv => arg 2; whnf
  dsimp only
  go_loopw [20] (fun i wr => ∃ k m : Nat, k ≤ n ∧ i = .int .i64 (k : Int) ∧ wr = w.drewN m) (fun i _ => n - (RowKit.intOf i).toNat)
  case atStart => exact ⟨0, 0, Nat.zero_le _, rfl, rfl⟩
  case round =>
    obtain ⟨k, m, hk, rfl, rfl⟩ := hrel
    by_cases hlt : k < n
    · have hki : (k : Int) < (n : Int) := by omega
      obtain ⟨hn, h1, h2, hl⟩ := H.out
      have hkl : k < L.length := by omega
      obtain ⟨g1, _, hv1, _, _⟩ := h1.form (by omega)
      cases hv1
      obtain ⟨g2, _, hv2, _, _⟩ := h2.form (by omega)
      cases hv2
      obtain ⟨c1, c2, c3⟩ := lcs_at h1 hn k hkl
      obtain ⟨d1, d2, d3⟩ := lcs_at h2 hn k hkl
      generalize L[k] = x at *
      obtain ⟨nm, wk, till⟩ := x
      simp only at c1 c2 c3 d1 d2 d3
      generalize (⟨nm.toArray⟩ : ByteArray) = s at c1 d1
      obtain ⟨k1, hk1⟩ : ∃ k1, k1 = k + 1 := ⟨_, rfl⟩
      have ek1 : (k : Int) + 1 = (k1 : Int) := by omega
      have ek2 : IntKind.i64.wrap (k1 : Int) = (k1 : Int) := by rw [IntKind.wrap_i64]; omega
      have HK1 : Hid (k1 = k + 1 ∧ k < n) := ⟨hk1, hlt⟩
      clear hn h1 h2 hl hkl hk1 hlt hk
      go_wp2
      go_quiet (fail)
      go_wp2
      go_roundw
      case rel => exact ⟨k1, m + nq, by have := HK1.out; omega, rfl, by simp⟩
      case measure => have := HK1.out; simp [RowKit.intOf]; omega
    · have k2 : ¬ (k : Int) < (n : Int) := by omega
      clear hk hlt
      go_wp2
      exact HX.out _ _ _ _ _ _ _ _ _ _ _ _ _ _ _ _ _ _

set_option maxHeartbeats 8000000 in
set_option maxRecDepth 100000 in
theorem tellL (x0 x1 x2 x3 x4 x6 x8 x10 x11 x12 x13 x14 x15 x16 x17 x18 x19 x20 x21 x22 x23 x24 x25 x26 x27 x28 x29 x30 x31 x32 x33 x34 x35 x36 x37 x38 x39 x40 x41 x42 x43 x44 x45 x46 x47 x48 x49 x50 x51 x52 x53 x54 x55 x56 x57 x58 x59 x60 x61 x62 x63 x64 x65 x66 x67 x68 x69 x70 x71 x72 x73 x74 x75 x76 x77 x78 x79 x80 x81 x82 x83 x84 x85 x86 x87 x88 x89 x90 x91 x92 x93 x94 x95 x96 x97 x98 x99 x100 x101 x102 x103 x104 x105 x106 x107 x108 x109 x110 x111 x112 x113 x114 x115 x116 x117 x118 x119 x120 x121 x122 x123 x124 x125 x126 x127 x128 x129 x130 x131 x132 x133 x134 x135 x136 x137 x138 x139 x140 x141 x142 x143 x144 x145 x146 x147 x148 x149 x150 x151 x152 x153 x154 x155 x156 x157 x158 x159 x160 x161 x162 x163 x164 x165 x166 x167 x168 x169 x170 x171 x172 x173 x174 x175 x176 x177 x178 x179 x180 x181 x182 x183 x184 x185 x186 x187 x188 x189 x190 x191 x192 x193 x194 x195 x196 x197 x198 x199 x200 x201 x202 x203 x204 x205 x206 x207 x208 x209 x210 x211 x212 x213 x214 x215 x216 x217 x218 x219 x220 x221 x222 x223 x224 x225 x226 x227 x228 x229 x230 x231 x232 x233 x234 x235 x236 : Value) (w : World) {w0 : World} {Bk R X : Nat} {a b c nw : Int} {P : List Pj} {kd wk dn : Int} {s : ByteArray} {gd : Bool} (hL : LP w0 Bk R a b c nw P nw P [(X, CallX kd wk dn s gd)] w) (hs : s.size ≤ maxLen) (Q0 : Exit → Act → World → Prop)
    (hexit : ∀ (u4 u15 u16 u17 u18 u19 u20 u166 u167 u168 u169 u170 u171 u172 u173 u174 u175 u176 u177 u178 u179 u180 u181 u182 u183 u184 u185 u186 u187 u188 u189 u190 u191 u192 u193 u194 u195 u196 u197 u198 u199 u200 u201 u202 u203 u204 u205 u206 u207 u208 u209 u210 u211 u212 u213 u214 u215 u216 u217 u218 u219 u220 u221 u222 u223 u224 u225 u226 u227 u228 u229 u230 u231 u232 u233 u234 u235 u236 : Value) (w' : World), Hid (LP w0 Bk R a b c nw P nw P [] w') → Q0 .normal ⟨#[x0, x1, x2, x3, u4, .pointer (some ⟨Bk, 0, none⟩), x6, .pointer (some ⟨R, 0, none⟩), x8, .pointer (some ⟨X, 0, none⟩), x10, x11, x12, x13, x14, u15, u16, u17, u18, u19, u20, x21, x22, x23, x24, x25, x26, x27, x28, x29, x30, x31, x32, x33, x34, x35, x36, x37, x38, x39, x40, x41, x42, x43, x44, x45, x46, x47, x48, x49, x50, x51, x52, x53, x54, x55, x56, x57, x58, x59, x60, x61, x62, x63, x64, x65, x66, x67, x68, x69, x70, x71, x72, x73, x74, x75, x76, x77, x78, x79, x80, x81, x82, x83, x84, x85, x86, x87, x88, x89, x90, x91, x92, x93, x94, x95, x96, x97, x98, x99, x100, x101, x102, x103, x104, x105, x106, x107, x108, x109, x110, x111, x112, x113, x114, x115, x116, x117, x118, x119, x120, x121, x122, x123, x124, x125, x126, x127, x128, x129, x130, x131, x132, x133, x134, x135, x136, x137, x138, x139, x140, x141, x142, x143, x144, x145, x146, x147, x148, x149, x150, x151, x152, x153, x154, x155, x156, x157, x158, x159, x160, x161, x162, x163, x164, x165, u166, u167, u168, u169, u170, u171, u172, u173, u174, u175, u176, u177, u178, u179, u180, u181, u182, u183, u184, u185, u186, u187, u188, u189, u190, u191, u192, u193, u194, u195, u196, u197, u198, u199, u200, u201, u202, u203, u204, u205, u206, u207, u208, u209, u210, u211, u212, u213, u214, u215, u216, u217, u218, u219, u220, u221, u222, u223, u224, u225, u226, u227, u228, u229, u230, u231, u232, u233, u234, u235, u236], []⟩ w') :
    Code.wp Try.prog (sub [true, true, true, true, true, true, false, true, false, false, true, false, false, true, true, true, true] (Try.f3.body.getD .skip)) Q0 ⟨#[x0, x1, x2, x3, x4, .pointer (some ⟨Bk, 0, none⟩), x6, .pointer (some ⟨R, 0, none⟩), x8, .pointer (some ⟨X, 0, none⟩), x10, x11, x12, x13, x14, x15, x16, x17, x18, x19, x20, x21, x22, x23, x24, x25, x26, x27, x28, x29, x30, x31, x32, x33, x34, x35, x36, x37, x38, x39, x40, x41, x42, x43, x44, x45, x46, x47, x48, x49, x50, x51, x52, x53, x54, x55, x56, x57, x58, x59, x60, x61, x62, x63, x64, x65, x66, x67, x68, x69, x70, x71, x72, x73, x74, x75, x76, x77, x78, x79, x80, x81, x82, x83, x84, x85, x86, x87, x88, x89, x90, x91, x92, x93, x94, x95, x96, x97, x98, x99, x100, x101, x102, x103, x104, x105, x106, x107, x108, x109, x110, x111, x112, x113, x114, x115, x116, x117, x118, x119, x120, x121, x122, x123, x124, x125, x126, x127, x128, x129, x130, x131, x132, x133, x134, x135, x136, x137, x138, x139, x140, x141, x142, x143, x144, x145, x146, x147, x148, x149, x150, x151, x152, x153, x154, x155, x156, x157, x158, x159, x160, x161, x162, x163, x164, x165, x166, x167, x168, x169, x170, x171, x172, x173, x174, x175, x176, x177, x178, x179, x180, x181, x182, x183, x184, x185, x186, x187, x188, x189, x190, x191, x192, x193, x194, x195, x196, x197, x198, x199, x200, x201, x202, x203, x204, x205, x206, x207, x208, x209, x210, x211, x212, x213, x214, x215, x216, x217, x218, x219, x220, x221, x222, x223, x224, x225, x226, x227, x228, x229, x230, x231, x232, x233, x234, x235, x236], []⟩ w := by
  have HX : Hid (∀ (u4 u15 u16 u17 u18 u19 u20 u166 u167 u168 u169 u170 u171 u172 u173 u174 u175 u176 u177 u178 u179 u180 u181 u182 u183 u184 u185 u186 u187 u188 u189 u190 u191 u192 u193 u194 u195 u196 u197 u198 u199 u200 u201 u202 u203 u204 u205 u206 u207 u208 u209 u210 u211 u212 u213 u214 u215 u216 u217 u218 u219 u220 u221 u222 u223 u224 u225 u226 u227 u228 u229 u230 u231 u232 u233 u234 u235 u236 : Value) (w' : World), Hid (LP w0 Bk R a b c nw P nw P [] w') → Q0 .normal ⟨#[x0, x1, x2, x3, u4, .pointer (some ⟨Bk, 0, none⟩), x6, .pointer (some ⟨R, 0, none⟩), x8, .pointer (some ⟨X, 0, none⟩), x10, x11, x12, x13, x14, u15, u16, u17, u18, u19, u20, x21, x22, x23, x24, x25, x26, x27, x28, x29, x30, x31, x32, x33, x34, x35, x36, x37, x38, x39, x40, x41, x42, x43, x44, x45, x46, x47, x48, x49, x50, x51, x52, x53, x54, x55, x56, x57, x58, x59, x60, x61, x62, x63, x64, x65, x66, x67, x68, x69, x70, x71, x72, x73, x74, x75, x76, x77, x78, x79, x80, x81, x82, x83, x84, x85, x86, x87, x88, x89, x90, x91, x92, x93, x94, x95, x96, x97, x98, x99, x100, x101, x102, x103, x104, x105, x106, x107, x108, x109, x110, x111, x112, x113, x114, x115, x116, x117, x118, x119, x120, x121, x122, x123, x124, x125, x126, x127, x128, x129, x130, x131, x132, x133, x134, x135, x136, x137, x138, x139, x140, x141, x142, x143, x144, x145, x146, x147, x148, x149, x150, x151, x152, x153, x154, x155, x156, x157, x158, x159, x160, x161, x162, x163, x164, x165, u166, u167, u168, u169, u170, u171, u172, u173, u174, u175, u176, u177, u178, u179, u180, u181, u182, u183, u184, u185, u186, u187, u188, u189, u190, u191, u192, u193, u194, u195, u196, u197, u198, u199, u200, u201, u202, u203, u204, u205, u206, u207, u208, u209, u210, u211, u212, u213, u214, u215, u216, u217, u218, u219, u220, u221, u222, u223, u224, u225, u226, u227, u228, u229, u230, u231, u232, u233, u234, u235, u236], []⟩ w') := hexit
  have x3 : ∀ m, (w.drewN m).cell? ⟨X, 3, none⟩ = some (.string s) := fun _ => Lib.cell_of_heap (hL.blk List.mem_cons_self) 3
  have HLs : Hid (∀ m, Calls Try.prog 23 #[.pointer (some ⟨Bk, 0, none⟩)] (w.drewN m) fun e w' => ∃ ao cap, e = .returned (.slice ao (lsP P).length cap) ∧ Hid (w'.ownsRow w.heap.size 52 3 (.slice ao (lsP P).length cap) (lsP P).length (lcs (lsP P)) ∧ LP w0 Bk R a b c nw P nw P [] w')) := fun m => by
    refine (hL.no.drewN m).leases.mono ?_
    rintro e w' ⟨ao, cap, rfl, r1, r2⟩
    exact ⟨ao, cap, rfl, r1, r2⟩
  have HSo : Hid (∀ (w1 : World) (ao : Option Addr) (cap : Nat), Hid (w1.ownsRow w.heap.size 52 3 (.slice ao (lsP P).length cap) (lsP P).length (lcs (lsP P)) ∧ LP w0 Bk R a b c nw P nw P [] w1) → Calls Try.prog 24 #[.pointer (some ⟨R, 0, none⟩)] w1 fun e w' => ∃ a2 c2, e = .returned (.slice a2 (lsP P).length c2) ∧ Hid (w'.ownsRow w.heap.size 52 3 (.slice ao (lsP P).length cap) (lsP P).length (lcs (lsP P)) ∧ w'.ownsRow w1.heap.size 52 3 (.slice a2 (lsP P).length c2) (lsP P).length (lcs (lsP P)) ∧ LP w0 Bk R a b c nw P nw P [] w')) := fun w1 ao cap h => by
    refine h.out.2.rsorted.mono ?_
    rintro e w' ⟨a2, c2, rfl, r1, r2, r3⟩
    exact ⟨a2, c2, rfl, own_heapL h.out.1 fun g hg => r3.block g (h.out.1.lt g hg).2, r1, r2⟩
  have hst := hL.state s hs
  have hlk := hL.look s
  have HN : Hid ((lsP P).length ≤ 1000) := lsP_small hL.pi
  clear hexit hs
  conv => arg 2; whnf
  dsimp only
  have x3' := x3 0
  rw [World.drewN_zero] at x3'
  rcases hlk with ⟨hf, hat⟩ | ⟨p, k, gs, cs, ns, gt, ct, nt, hf, hat, c5, hks, d5, c6, hkt, d6⟩
  · rw [hf] at hst
    have HS : Hid (Calls Try.prog 21 #[.pointer (some ⟨Bk, 0, none⟩), .string s] w fun e w' => e = .returned (.tuple #[.int .i64 0, .int .i64 0]) ∧ ∃ m, w' = w.drewN m) := hst
    have HA : Hid (∀ m, Calls Try.prog 22 #[.pointer (some ⟨R, 0, none⟩), .string s] (w.drewN m) fun e w' => e = .returned (.int .i64 (-1)) ∧ w' = w.drewN m) := hat
    clear hst hat hf hL
    generalize lsP P = L at *
    obtain ⟨n, hn⟩ : ∃ n, n = L.length := ⟨_, rfl⟩
    rw [← hn] at HLs HSo HN
    have HNN : Hid (n = L.length ∧ n ≤ 1000) := ⟨hn, HN.out⟩
    clear hn HN
    go_wp2_with (first
      | (go_at_call 21; refine HS.out.mono ?_; rintro e w' ⟨rfl, m, rfl⟩; have x3m := x3 m)
      | (go_at_call 22; refine (HA.out _).mono ?_; rintro e w'' ⟨rfl, hw⟩; subst w'')
      | (go_at_call 23; refine (HLs.out _).mono ?_; rintro e w5 ⟨a5, c5, rfl, R5⟩)
      | (go_at_call 24; refine (HSo.out _ _ _ R5).mono ?_; rintro e w6 ⟨a6, c6, rfl, R6⟩)
      | go_in)
    obtain ⟨r1, r2, r3⟩ := R6.out
    refine cmpL _ _ _ _ _ _ _ _ _ _ _ _ _ _ _ _ _ _ _ _ _ _ _ _ _ _ _ _ _ _ _ _ _ _ _ _ _ _ _ _ _ _ _ _ _ _ _ _ _ _ _ _ _ _ _ _ _ _ _ _ _ _ _ _ _ _ _ _ _ _ _ _ _ _ _ _ _ _ _ _ _ _ _ _ _ _ _ _ _ _ _ _ _ _ _ _ _ _ _ _ _ _ _ _ _ _ _ _ _ _ _ _ _ _ _ _ _ _ _ _ _ _ _ _ _ _ _ _ _ _ _ _ _ _ _ _ _ _ _ _ _ _ _ _ _ _ _ _ _ _ _ _ _ _ _ _ _ _ _ _ _ _ _ _ _ _ _ _ _ _ _ _ _ _ _ _ _ _ _ _ _ _ _ _ _ _ _ _ _ _ _ _ _ _ _ _ _ _ _ _ _ _ _ _ _ _ _ _ _ _ _ _ _ _ _ _ _ _ _ _ _ _ _ _ _ _ _ _ _ _ _ _ _ _ w6 a5 a6 c5 c6 n HNN.out.1 r1 r2 HNN.out.2 _ ?_
    intro u4 u20 u222 u223 u224 u225 u226 u227 u228 u229 u230 u231 u232 u233 u234 u235 u236 m2
    go_wp2
    exact HX.out _ _ _ _ _ _ _ _ _ _ _ _ _ _ _ _ _ _ _ _ _ _ _ _ _ _ _ _ _ _ _ _ _ _ _ _ _ _ _ _ _ _ _ _ _ _ _ _ _ _ _ _ _ _ _ _ _ _ _ _ _ _ _ _ _ _ _ _ _ _ _ _ _ _ _ _ _ _ _ (r3.drewN m2)
  · rw [hf] at hst
    have HS : Hid (Calls Try.prog 21 #[.pointer (some ⟨Bk, 0, none⟩), .string s] w fun e w' => e = .returned (.tuple #[.int .i64 (lst p.dn p.ts.length p.tr b), .int .i64 (p.tr : Int)]) ∧ ∃ m, w' = w.drewN m) := hst
    have HA : Hid (∀ m, Calls Try.prog 22 #[.pointer (some ⟨R, 0, none⟩), .string s] (w.drewN m) fun e w' => e = .returned (.int .i64 ((k : Nat) : Int)) ∧ w' = w.drewN m) := hat
    have k1 : (k : Int) < (ns : Int) := by omega
    have k2 : (k : Int) < (nt : Int) := by omega
    have k3 : ¬ (k : Int) < 0 := by omega
    clear hst hat hf hL hks hkt
    generalize lst p.dn p.ts.length p.tr b = st at *
    generalize p.tr = tr at *
    generalize lsP P = L at *
    obtain ⟨n, hn⟩ : ∃ n, n = L.length := ⟨_, rfl⟩
    rw [← hn] at HLs HSo HN
    have HNN : Hid (n = L.length ∧ n ≤ 1000) := ⟨hn, HN.out⟩
    clear hn HN
    go_wp2_with (first
      | (go_at_call 21; refine HS.out.mono ?_; rintro e w' ⟨rfl, m, rfl⟩; have x3m := x3 m)
      | (go_at_call 22; refine (HA.out _).mono ?_; rintro e w'' ⟨rfl, hw⟩; subst w'')
      | (go_at_call 23; refine (HLs.out _).mono ?_; rintro e w5 ⟨a5, c5, rfl, R5⟩)
      | (go_at_call 24; refine (HSo.out _ _ _ R5).mono ?_; rintro e w6 ⟨a6, c6, rfl, R6⟩)
      | go_in)
    obtain ⟨r1, r2, r3⟩ := R6.out
    refine cmpL _ _ _ _ _ _ _ _ _ _ _ _ _ _ _ _ _ _ _ _ _ _ _ _ _ _ _ _ _ _ _ _ _ _ _ _ _ _ _ _ _ _ _ _ _ _ _ _ _ _ _ _ _ _ _ _ _ _ _ _ _ _ _ _ _ _ _ _ _ _ _ _ _ _ _ _ _ _ _ _ _ _ _ _ _ _ _ _ _ _ _ _ _ _ _ _ _ _ _ _ _ _ _ _ _ _ _ _ _ _ _ _ _ _ _ _ _ _ _ _ _ _ _ _ _ _ _ _ _ _ _ _ _ _ _ _ _ _ _ _ _ _ _ _ _ _ _ _ _ _ _ _ _ _ _ _ _ _ _ _ _ _ _ _ _ _ _ _ _ _ _ _ _ _ _ _ _ _ _ _ _ _ _ _ _ _ _ _ _ _ _ _ _ _ _ _ _ _ _ _ _ _ _ _ _ _ _ _ _ _ _ _ _ _ _ _ _ _ _ _ _ _ _ _ _ _ _ _ _ _ _ _ _ _ w6 a5 a6 c5 c6 n HNN.out.1 r1 r2 HNN.out.2 _ ?_
    intro u4 u20 u222 u223 u224 u225 u226 u227 u228 u229 u230 u231 u232 u233 u234 u235 u236 m2
    go_wp2
    exact HX.out _ _ _ _ _ _ _ _ _ _ _ _ _ _ _ _ _ _ _ _ _ _ _ _ _ _ _ _ _ _ _ _ _ _ _ _ _ _ _ _ _ _ _ _ _ _ _ _ _ _ _ _ _ _ _ _ _ _ _ _ _ _ _ _ _ _ _ _ _ _ _ _ _ _ _ _ _ _ _ (r3.drewN m2)
end Go.Proofs.Ytocahjnibdgmoaa
