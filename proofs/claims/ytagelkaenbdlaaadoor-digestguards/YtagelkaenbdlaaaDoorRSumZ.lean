/- The document's own Sum: its rounds. -/
import Derived.Test.YtagelkaenbdlaaaDoorRSumY
namespace Go.Proofs.YtagelkaenbdlaaaDoor
open Go.RowKit

theorem bl_tr {w w1 w2 : World} (h1 : Below w.heap.size w w1) (h2 : Below w1.heap.size w1 w2) : Below w.heap.size w w2 := h1.trans (h2.mono h1.size)
/-- Numbers in a block. -/
def LAt (w : World) (b : Nat) (l : List Nat) : Prop := ∀ j, j < l.length → w.cell? ⟨b, j, none⟩ = some (.int .i64 (l.getD j 0 : Nat))
theorem LAt.up {w w' : World} {b : Nat} {l : List Nat} (h : LAt w b l) (hb : Below w.heap.size w w') (hg : b < w.heap.size) : LAt w' b l := fun j hj => (hb.cell (p := ⟨b, j, none⟩) hg).trans (h j hj)
theorem roundsN_ok (wl ks : List Nat) (n : Nat) (s : N8) (h : s.ok) : (roundsN wl ks n s).ok := (rounds_nat wl ks n s h).2

theorem r36_facts (a m : Nat) (ha : a < 2 ^ 32) (hm : m < 2 ^ 32) :
    Hid (∀ W : World, Calls Tryd.prog 37 #[.int .i64 a, .int .i64 2] W fun e' w' => e' = .returned (.int .i64 (rightN a 2 : Nat)) ∧ ∃ m, w' = W.drewN m) ∧
    Hid (∀ W : World, Calls Tryd.prog 37 #[.int .i64 a, .int .i64 13] W fun e' w' => e' = .returned (.int .i64 (rightN a 13 : Nat)) ∧ ∃ m, w' = W.drewN m) ∧
    Hid (∀ W : World, Calls Tryd.prog 37 #[.int .i64 a, .int .i64 22] W fun e' w' => e' = .returned (.int .i64 (rightN a 22 : Nat)) ∧ ∃ m, w' = W.drewN m) ∧
    Hid (∀ (W : World) (b : Nat), W.cell? ⟨b, 0, none⟩ = some (.int .i64 (rightN a 2 : Nat)) → W.cell? ⟨b, 1, none⟩ = some (.int .i64 (rightN a 13 : Nat)) → W.cell? ⟨b, 2, none⟩ = some (.int .i64 (rightN a 22 : Nat)) → Calls Tryd.prog 36 #[.slice (some ⟨b, 0, none⟩) 3 3] W fun e' w' => e' = .returned (.int .i64 (big0N a : Nat)) ∧ w' = W) ∧
    big0N a + m < 2 ^ 33 := by
  have bl := (big_lt a ha).2.1
  have l1 := (right_lt a 2 ha (by decide)).2
  have l2 := (right_lt a 13 ha (by decide)).2
  have l3 := (right_lt a 22 ha (by decide)).2
  exact ⟨fun W => Right_any a 2 W ha (by decide) (by decide), fun W => Right_any a 13 W ha (by decide) (by decide), fun W => Right_any a 22 W ha (by decide) (by decide), fun W b => Xor_3 W b _ _ _ l1 l2 l3 _ rfl, by omega⟩
theorem r36_wrap (b m : Nat) (h : b + m < 2 ^ 33) : (b : Int) + (m : Int) = ((b + m : Nat) : Int) ∧ IntKind.i64.wrap ((b + m : Nat) : Int) = ((b + m : Nat) : Int) := ⟨by omega, wr60 _ (by omega)⟩

set_option maxHeartbeats 40000000 in
set_option maxRecDepth 100000 in
theorem loop6 (x0 x1 x2 x3 x4 x5 x7 x8 x10 x11 x12 x13 x14 x15 x16 x19 x20 x21 x22 x23 x24 x25 x26 x27 x28 x29 x30 x31 x32 x33 x34 x35 x36 x37 x38 x39 x40 x41 x42 x43 x44 x45 x46 x47 x48 x49 x50 x51 x52 x53 x54 x55 x56 x57 x58 x59 x60 x61 x62 x63 x64 x65 x66 x67 x68 x69 x70 x71 x72 x73 x74 x75 x76 x77 x78 x79 x80 x81 x82 x83 x84 x85 x86 x87 x88 x89 x90 x91 x92 x93 x94 x95 x96 x97 x98 x99 x100 x101 x102 x103 x104 x105 x106 x107 x108 x109 x110 x111 x112 x113 x114 x115 x116 x117 x118 x119 x120 x121 x122 x123 x124 x125 x126 x127 x128 x129 x130 x131 x132 x133 x134 x135 x136 x137 x138 x139 x140 x141 x142 x143 x144 x145 x146 x147 x148 x149 x150 x151 x152 x153 x154 x155 x156 x157 x158 x159 x160 x161 x162 x163 x164 x165 x166 x167 x168 x169 x170 x171 x172 x173 x174 x175 x176 x177 x178 x179 x180 x181 x182 x183 x184 x185 x186 x187 x188 x189 x190 x191 x192 x193 x194 x195 x196 x197 x198 x199 x200 x201 x202 x203 x204 x205 x206 x207 x208 x209 x210 x211 x212 x213 x214 x215 x216 x217 x218 x219 x220 x221 x222 x223 x224 x225 x226 x227 x228 x229 x230 x231 x232 x233 x234 x235 x236 x237 x238 x239 x240 x241 x242 x243 x244 x245 x246 x247 x248 x249 x250 x251 x252 x253 x254 x255 x256 x257 x258 x259 x260 x261 x262 x263 x264 x265 x266 x267 x268 x269 x270 x271 x272 x273 x274 x275 x276 x277 x278 x279 x280 x281 x282 x283 : Value) (w : World) (q : N8) (hq : q.ok) (wl ks : List Nat) (hwl : ∀ x ∈ wl, x < 2 ^ 32) (hks : ∀ x ∈ ks, x < 2 ^ 32) (hwn : wl.length = 64) (hkn : ks.length = 64) (kb kc wb wc g c : Nat)
    (hk : LAt w kb ks) (hw : LAt w wb wl) (hkb : kb < w.heap.size) (hwb : wb < w.heap.size) (hv : VAt w g q) (hg : g < w.heap.size) (Q0 : Exit → Act → World → Prop)
    (hexit : ∀ (u18 u19 u20 u21 u22 u23 u24 u140 u141 u142 u143 u144 u145 u146 u147 u148 u149 u150 u151 u152 u153 u154 u155 u156 u157 u158 u159 u160 u161 u162 u163 u164 u165 u166 u167 u168 u169 u170 u171 u172 u173 u174 u175 u176 u177 u178 u179 u180 u181 u182 u183 u184 u185 u186 u187 u188 u189 u190 u191 u192 u193 u194 u195 u196 u197 u198 u199 u200 u201 u202 u203 u204 u205 u206 u207 u208 u209 u210 u211 u212 u213 u214 u215 u216 u217 u218 u219 u220 u221 u222 u223 u224 u225 u226 u227 u228 u229 u230 u231 u232 u233 u234 u235 u236 u237 u238 u239 u240 u241 u242 u243 u244 u245 : Value) (g' c' : Nat) (w' : World), VAt w' g' (roundsN wl ks 64 q) → g' < w'.heap.size → (g' = g ∨ w.heap.size ≤ g') → Below w.heap.size w w' → Q0 (.exit 10) ⟨#[x0, x1, x2, x3, x4, x5, .slice (some ⟨kb, 0, none⟩) 64 kc, x7, x8, .slice (some ⟨wb, 0, none⟩) 64 wc, x10, x11, x12, x13, x14, x15, x16, .slice (some ⟨g', 0, none⟩) 8 c', u18, u19, u20, u21, u22, u23, u24, x25, x26, x27, x28, x29, x30, x31, x32, x33, x34, x35, x36, x37, x38, x39, x40, x41, x42, x43, x44, x45, x46, x47, x48, x49, x50, x51, x52, x53, x54, x55, x56, x57, x58, x59, x60, x61, x62, x63, x64, x65, x66, x67, x68, x69, x70, x71, x72, x73, x74, x75, x76, x77, x78, x79, x80, x81, x82, x83, x84, x85, x86, x87, x88, x89, x90, x91, x92, x93, x94, x95, x96, x97, x98, x99, x100, x101, x102, x103, x104, x105, x106, x107, x108, x109, x110, x111, x112, x113, x114, x115, x116, x117, x118, x119, x120, x121, x122, x123, x124, x125, x126, x127, x128, x129, x130, x131, x132, x133, x134, x135, x136, x137, x138, x139, u140, u141, u142, u143, u144, u145, u146, u147, u148, u149, u150, u151, u152, u153, u154, u155, u156, u157, u158, u159, u160, u161, u162, u163, u164, u165, u166, u167, u168, u169, u170, u171, u172, u173, u174, u175, u176, u177, u178, u179, u180, u181, u182, u183, u184, u185, u186, u187, u188, u189, u190, u191, u192, u193, u194, u195, u196, u197, u198, u199, u200, u201, u202, u203, u204, u205, u206, u207, u208, u209, u210, u211, u212, u213, u214, u215, u216, u217, u218, u219, u220, u221, u222, u223, u224, u225, u226, u227, u228, u229, u230, u231, u232, u233, u234, u235, u236, u237, u238, u239, u240, u241, u242, u243, u244, u245, x246, x247, x248, x249, x250, x251, x252, x253, x254, x255, x256, x257, x258, x259, x260, x261, x262, x263, x264, x265, x266, x267, x268, x269, x270, x271, x272, x273, x274, x275, x276, x277, x278, x279, x280, x281, x282, x283], []⟩ w') :
    Code.wp Tryd.prog (sub [true, true, true, true, true, true, false, true, false, false, true, false, false, true, true, true, false, true, false] (Tryd.f11.body.getD .skip)) Q0 ⟨#[x0, x1, x2, x3, x4, x5, .slice (some ⟨kb, 0, none⟩) 64 kc, x7, x8, .slice (some ⟨wb, 0, none⟩) 64 wc, x10, x11, x12, x13, x14, x15, x16, .slice (some ⟨g, 0, none⟩) 8 c, .int .i64 0, x19, x20, x21, x22, x23, x24, x25, x26, x27, x28, x29, x30, x31, x32, x33, x34, x35, x36, x37, x38, x39, x40, x41, x42, x43, x44, x45, x46, x47, x48, x49, x50, x51, x52, x53, x54, x55, x56, x57, x58, x59, x60, x61, x62, x63, x64, x65, x66, x67, x68, x69, x70, x71, x72, x73, x74, x75, x76, x77, x78, x79, x80, x81, x82, x83, x84, x85, x86, x87, x88, x89, x90, x91, x92, x93, x94, x95, x96, x97, x98, x99, x100, x101, x102, x103, x104, x105, x106, x107, x108, x109, x110, x111, x112, x113, x114, x115, x116, x117, x118, x119, x120, x121, x122, x123, x124, x125, x126, x127, x128, x129, x130, x131, x132, x133, x134, x135, x136, x137, x138, x139, x140, x141, x142, x143, x144, x145, x146, x147, x148, x149, x150, x151, x152, x153, x154, x155, x156, x157, x158, x159, x160, x161, x162, x163, x164, x165, x166, x167, x168, x169, x170, x171, x172, x173, x174, x175, x176, x177, x178, x179, x180, x181, x182, x183, x184, x185, x186, x187, x188, x189, x190, x191, x192, x193, x194, x195, x196, x197, x198, x199, x200, x201, x202, x203, x204, x205, x206, x207, x208, x209, x210, x211, x212, x213, x214, x215, x216, x217, x218, x219, x220, x221, x222, x223, x224, x225, x226, x227, x228, x229, x230, x231, x232, x233, x234, x235, x236, x237, x238, x239, x240, x241, x242, x243, x244, x245, x246, x247, x248, x249, x250, x251, x252, x253, x254, x255, x256, x257, x258, x259, x260, x261, x262, x263, x264, x265, x266, x267, x268, x269, x270, x271, x272, x273, x274, x275, x276, x277, x278, x279, x280, x281, x282, x283], []⟩ w := by
  have HX : Hid _ := hexit
  clear hexit
  have HQ : Hid (q.ok ∧ VAt w g q ∧ g < w.heap.size) := ⟨hq, hv, hg⟩
  have HK : Hid (LAt w kb ks ∧ kb < w.heap.size ∧ (∀ x ∈ ks, x < 2 ^ 32) ∧ ks.length = 64) := ⟨hk, hkb, hks, hkn⟩
  have HW : Hid (LAt w wb wl ∧ wb < w.heap.size ∧ (∀ x ∈ wl, x < 2 ^ 32) ∧ wl.length = 64) := ⟨hw, hwb, hwl, hwn⟩
  clear hq hv hg hk hkb hks hkn hw hwb hwl hwn
  conv => arg 2; whnf
  dsimp only
  go_loopw [17, 18] (fun v i wr => ∃ (t g' c' : Nat) (r : N8), t ≤ 64 ∧ r = roundsN wl ks t q ∧ v = .slice (some ⟨g', 0, none⟩) 8 c' ∧ i = .int .i64 t ∧ VAt wr g' r ∧ g' < wr.heap.size ∧ (g' = g ∨ w.heap.size ≤ g') ∧ Below w.heap.size w wr) (fun _ i _ => 64 - (intOf i).toNat)
  case atStart => exact ⟨0, g, c, q, by omega, rfl, rfl, rfl, HQ.out.2.1, HQ.out.2.2, Or.inl rfl, Below.refl _ _⟩
  case round =>
    obtain ⟨t, g', c', r, ht, hr, rfl, rfl, hv, hg, hgo, hb⟩ := hrel
    have HGO : Hid (g' = g ∨ w.heap.size ≤ g') := hgo
    clear hgo
    have hrok : r.ok := by rw [hr]; exact roundsN_ok wl ks t q HQ.out.1
    have HV : Hid (VAt wr g' r ∧ g' < wr.heap.size ∧ Below w.heap.size w wr ∧ r.ok ∧ r = roundsN wl ks t q) := ⟨hv, hg, hb, hrok, hr⟩
    clear hv hg hb hrok hr
    by_cases hlt : t < 64
    · have hti : (t : Int) < 64 := by omega
      obtain ⟨va, vb, vc, vd, ve, vf, vg, vh⟩ := r
      have HKV : Hid (∀ W : World, Below wr.heap.size wr W → VAt W g' ⟨va, vb, vc, vd, ve, vf, vg, vh⟩ ∧ g' < W.heap.size ∧ W.cell? ⟨kb, t, none⟩ = some (.int .i64 (ks.getD t 0 : Nat)) ∧ kb < W.heap.size ∧ W.cell? ⟨wb, t, none⟩ = some (.int .i64 (wl.getD t 0 : Nat)) ∧ wb < W.heap.size) := fun W hW => by
        obtain ⟨h1, h2, h3, h4, h5⟩ := HV.out
        obtain ⟨k1, k2, k3, k4⟩ := HK.out
        obtain ⟨w1, w2, w3, w4⟩ := HW.out
        have hb := bl_tr h3 hW
        exact ⟨h1.up hW h2, Nat.lt_of_lt_of_le h2 hW.size, k1.up hb k2 t (by omega), Nat.lt_of_lt_of_le k2 hb.size, w1.up hb w2 t (by omega), Nat.lt_of_lt_of_le w2 hb.size⟩
      have hkl := get_lt ks HK.out.2.2.1 t
      have hwl := get_lt wl HW.out.2.2.1 t
      have HR : Hid (roundsN wl ks (t + 1) q = N8.step ⟨va, vb, vc, vd, ve, vf, vg, vh⟩ (ks.getD t 0) (wl.getD t 0)) := by
        show (roundsN wl ks t q).step _ _ = _
        rw [← HV.out.2.2.2.2]
      generalize ks.getD t 0 = kv at HKV HR hkl
      generalize wl.getD t 0 = wv at HKV HR hwl
      have HL : Hid (kv < 2 ^ 32 ∧ wv < 2 ^ 32) := ⟨hkl, hwl⟩
      clear hkl hwl
      go_wp2
      have v0 := (HKV.out wr (Below.refl _ _)).1
      refine r32 _ _ _ _ _ _ _ _ _ _ _ _ _ _ _ _ _ _ _ _ _ _ _ _ _ _ _ _ _ _ _ _ _ _ _ _ _ _ _ _ _ _ _ _ _ _ _ _ _ _ _ _ _ _ _ _ _ _ _ _ _ _ _ _ _ _ _ _ _ _ _ _ _ _ _ _ _ _ _ _ _ _ _ _ _ _ _ _ _ _ _ _ _ _ _ _ _ _ _ _ _ _ _ _ _ _ _ _ _ _ _ _ _ _ _ _ _ _ _ _ _ _ _ _ _ _ _ _ _ _ _ _ _ _ _ _ _ _ _ _ _ _ _ _ _ _ _ _ _ _ _ _ _ _ _ _ _ _ _ _ _ _ _ _ _ _ _ _ _ _ _ _ _ _ _ _ _ _ _ _ _ _ _ _ _ _ _ _ _ _ _ _ _ _ _ _ _ _ _ _ _ _ _ _ _ _ _ _ _ _ _ _ _ _ _ _ _ _ _ _ _ _ _ _ _ _ _ _ _ _ _ _ _ _ _ _ _ _ _ _ _ _ _ _ _ _ _ _ _ _ _ _ _ _ _ _ _ _ _ _ _ _ _ _ _ _ _ _ _ _ _ _ _ _ _ _ _ _ _ _ _ _ _ wr va ve g' c' v0.1 v0.2.2.2.2.1 _ ?_
      clear v0
      intro _ _ _ _ _ _ w1 hb1
      have H1 : Hid (Below wr.heap.size wr w1) := hb1
      clear hb1
      go_wp2
      obtain ⟨v1, g1, -⟩ := HKV.out w1 H1.out
      obtain ⟨oa, ob, oc, od, oe, of, og, oh⟩ := HV.out.2.2.2.1
      refine r33 _ _ _ _ _ _ _ _ _ _ _ _ _ _ _ _ _ _ _ _ _ _ _ _ _ _ _ _ _ _ _ _ _ _ _ _ _ _ _ _ _ _ _ _ _ _ _ _ _ _ _ _ _ _ _ _ _ _ _ _ _ _ _ _ _ _ _ _ _ _ _ _ _ _ _ _ _ _ _ _ _ _ _ _ _ _ _ _ _ _ _ _ _ _ _ _ _ _ _ _ _ _ _ _ _ _ _ _ _ _ _ _ _ _ _ _ _ _ _ _ _ _ _ _ _ _ _ _ _ _ _ _ _ _ _ _ _ _ _ _ _ _ _ _ _ _ _ _ _ _ _ _ _ _ _ _ _ _ _ _ _ _ _ _ _ _ _ _ _ _ _ _ _ _ _ _ _ _ _ _ _ _ _ _ _ _ _ _ _ _ _ _ _ _ _ _ _ _ _ _ _ _ _ _ _ _ _ _ _ _ _ _ _ _ _ _ _ _ _ _ _ _ _ _ _ _ _ _ _ _ _ _ _ _ _ _ _ _ _ _ _ _ _ _ _ _ _ _ _ _ _ _ _ _ _ _ _ _ _ _ _ _ _ _ _ _ _ _ _ _ _ _ _ _ _ _ _ _ _ _ _ _ w1 ve vf vg g' c' oe of og v1.2.2.2.2.2.1 v1.2.2.2.2.2.2.1 g1 _ ?_
      clear v1 g1 oa ob oc od oe of og oh
      intro _ _ _ _ _ _ _ _ _ _ _ _ _ w2 hb2
      have H2 : Hid (Below wr.heap.size wr w2) := bl_tr H1.out hb2
      clear hb2
      go_wp2
      obtain ⟨v1, g1, ck, kk, cw, ww⟩ := HKV.out w2 H2.out
      obtain ⟨oa, ob, oc, od, oe, of, og, oh⟩ := HV.out.2.2.2.1
      refine r34 _ _ _ _ _ _ _ _ _ _ _ _ _ _ _ _ _ _ _ _ _ _ _ _ _ _ _ _ _ _ _ _ _ _ _ _ _ _ _ _ _ _ _ _ _ _ _ _ _ _ _ _ _ _ _ _ _ _ _ _ _ _ _ _ _ _ _ _ _ _ _ _ _ _ _ _ _ _ _ _ _ _ _ _ _ _ _ _ _ _ _ _ _ _ _ _ _ _ _ _ _ _ _ _ _ _ _ _ _ _ _ _ _ _ _ _ _ _ _ _ _ _ _ _ _ _ _ _ _ _ _ _ _ _ _ _ _ _ _ _ _ _ _ _ _ _ _ _ _ _ _ _ _ _ _ _ _ _ _ _ _ _ _ _ _ _ _ _ _ _ _ _ _ _ _ _ _ _ _ _ _ _ _ _ _ _ _ _ _ _ _ _ _ _ _ _ _ _ _ _ _ _ _ _ _ _ _ _ _ _ _ _ _ _ _ _ _ _ _ _ _ _ _ _ _ _ _ _ _ _ _ _ _ _ _ _ _ _ _ _ _ _ _ _ _ _ _ _ _ _ _ _ _ _ _ _ _ _ _ _ _ _ _ _ _ _ _ _ _ _ _ _ _ _ _ _ _ _ w2 ve vh (chN ve vf vg) kv wv g' c' kb kc wb wc t oe oh (ch_nat ve vf vg oe of og).2 HL.out.1 HL.out.2 hlt v1.2.2.2.2.2.2.2 ck cw g1 kk ww _ ?_
      clear v1 g1 ck kk cw ww oa ob oc od oe of og oh
      intro _ _ _ _ _ _ _ _ _ _ _ _ _ _ _ _ _ _ _ _ _ _ _ _ _ w3 hb3
      have H3 : Hid (Below wr.heap.size wr w3) := bl_tr H2.out hb3
      clear hb3
      go_wp2
      obtain ⟨v1, g1, -⟩ := HKV.out w3 H3.out
      obtain ⟨oa, ob, oc, od, oe, of, og, oh⟩ := HV.out.2.2.2.1
      refine r35 _ _ _ _ _ _ _ _ _ _ _ _ _ _ _ _ _ _ _ _ _ _ _ _ _ _ _ _ _ _ _ _ _ _ _ _ _ _ _ _ _ _ _ _ _ _ _ _ _ _ _ _ _ _ _ _ _ _ _ _ _ _ _ _ _ _ _ _ _ _ _ _ _ _ _ _ _ _ _ _ _ _ _ _ _ _ _ _ _ _ _ _ _ _ _ _ _ _ _ _ _ _ _ _ _ _ _ _ _ _ _ _ _ _ _ _ _ _ _ _ _ _ _ _ _ _ _ _ _ _ _ _ _ _ _ _ _ _ _ _ _ _ _ _ _ _ _ _ _ _ _ _ _ _ _ _ _ _ _ _ _ _ _ _ _ _ _ _ _ _ _ _ _ _ _ _ _ _ _ _ _ _ _ _ _ _ _ _ _ _ _ _ _ _ _ _ _ _ _ _ _ _ _ _ _ _ _ _ _ _ _ _ _ _ _ _ _ _ _ _ _ _ _ _ _ _ _ _ _ _ _ _ _ _ _ _ _ _ _ _ _ _ _ _ _ _ _ _ _ _ _ _ _ _ _ _ _ _ _ _ _ _ _ _ _ _ _ _ _ _ _ _ _ _ _ _ _ _ _ _ _ _ w3 va vb vc g' c' oa ob oc v1.2.1 v1.2.2.1 g1 _ ?_
      clear v1 g1 oa ob oc od oe of og oh
      intro _ _ _ _ _ _ _ _ _ _ _ _ _ _ _ _ _ _ _ w4 hb4
      have H4 : Hid (Below wr.heap.size wr w4) := bl_tr H3.out hb4
      clear hb4
      obtain ⟨HA1, HA2, HA3, HXO, hs1⟩ := r36_facts va (majN va vb vc) HV.out.2.2.2.1.1 (maj_nat va vb vc HV.out.2.2.2.1.1 HV.out.2.2.2.1.2.1 HV.out.2.2.2.1.2.2.1).2
      generalize rightN va 2 = p1 at HA1 HXO
      generalize rightN va 13 = p2 at HA2 HXO
      generalize rightN va 22 = p3 at HA3 HXO
      have HSX : Hid (big0N va + majN va vb vc < 2 ^ 33) := hs1
      have f0 := r36_wrap (big0N va) (majN va vb vc) hs1
      have HSM : Hid (∃ s1, s1 = big0N va + majN va vb vc) := ⟨_, rfl⟩
      obtain ⟨s1, hs1'⟩ := HSM.out
      rw [← hs1'] at f0
      have HSE : Hid (s1 = big0N va + majN va vb vc) := hs1'
      generalize big0N va = bg at HXO f0
      clear hs1 hs1' HSM
      obtain ⟨f1, f2⟩ := f0
      go_wp2_with fail
      refine (HA1.out _).mono ?_
      rintro e w' ⟨rfl, m1, rfl⟩
      go_wp2_with fail
      refine (HA2.out _).mono ?_
      rintro e w' ⟨rfl, m2, rfl⟩
      go_wp2_with fail
      refine (HA3.out _).mono ?_
      rintro e w' ⟨rfl, m3, rfl⟩
      go_wp2_with fail
      refine (HXO.out _ _ (al_at _ _ _ _ 0 _ rfl rfl) (al_at _ _ _ _ 1 _ rfl rfl) (al_at _ _ _ _ 2 _ rfl rfl)).mono ?_
      rintro e w' ⟨rfl, rfl⟩
      go_wp2
      have HBW : Hid (Below w4.heap.size w4 w4) := Below.refl _ _
      refine r37 _ _ _ _ _ _ _ _ _ _ _ _ _ _ _ _ _ _ _ _ _ _ _ _ _ _ _ _ _ _ _ _ _ _ _ _ _ _ _ _ _ _ _ _ _ _ _ _ _ _ _ _ _ _ _ _ _ _ _ _ _ _ _ _ _ _ _ _ _ _ _ _ _ _ _ _ _ _ _ _ _ _ _ _ _ _ _ _ _ _ _ _ _ _ _ _ _ _ _ _ _ _ _ _ _ _ _ _ _ _ _ _ _ _ _ _ _ _ _ _ _ _ _ _ _ _ _ _ _ _ _ _ _ _ _ _ _ _ _ _ _ _ _ _ _ _ _ _ _ _ _ _ _ _ _ _ _ _ _ _ _ _ _ _ _ _ _ _ _ _ _ _ _ _ _ _ _ _ _ _ _ _ _ _ _ _ _ _ _ _ _ _ _ _ _ _ _ _ _ _ _ _ _ _ _ _ _ _ _ _ _ _ _ _ _ _ _ _ _ _ _ _ _ _ _ _ _ _ _ _ _ _ _ _ _ _ _ _ _ _ _ _ _ _ _ _ _ _ _ _ _ _ _ _ _ _ _ _ _ _ _ _ _ _ _ _ _ _ _ _ _ _ _ _ _ _ _ _ _ _ _ _ ⟨va, vb, vc, vd, ve, vf, vg, vh⟩ HV.out.2.2.2.1 ((vh + big1N ve + chN ve vf vg + kv + wv) % 4294967296) s1 g' c' (Nat.mod_lt _ (by decide)) (by rw [HSE.out]; exact HSX.out) ?hv ?hg _ ?_
      case hv => exact (HKV.out _ (bl_tr H4.out (by repeat' (with_reducible (first | exact HBW.out | refine bl_al ?_ _ | refine bl_dn ?_ _ | refine bl_dr ?_))))).1
      case hg => exact (HKV.out _ (bl_tr H4.out (by repeat' (with_reducible (first | exact HBW.out | refine bl_al ?_ _ | refine bl_dn ?_ _ | refine bl_dr ?_))))).2.1
      intro _ _ _ _ _ _ _ _ _ _ _ _ _ _ _ _ _ _ _ _ _ _ _ _ _ _ _ _ _ g6 w6 hv6 hg6 hge6 hb6
      have HGE : Hid (w.heap.size ≤ g6) := Nat.le_trans (bl_tr HV.out.2.2.1 (bl_tr H4.out (by repeat' (with_reducible (first | exact HBW.out | refine bl_al ?_ _ | refine bl_dn ?_ _ | refine bl_dr ?_))))).size hge6
      clear hge6
      have H6 : Hid (Below wr.heap.size wr w6) := bl_tr (bl_tr H4.out (by repeat' (with_reducible (first | exact HBW.out | refine bl_al ?_ _ | refine bl_dn ?_ _ | refine bl_dr ?_)))) hb6
      rw [HSE.out] at hv6
      have HV6 : Hid (VAt w6 g6 (roundsN wl ks (t + 1) q)) := by rw [HR.out]; exact hv6
      clear hb6 hv6 f1 f2
      go_wp2
      refine ⟨⟨t + 1, g6, 8, _, by omega, rfl, rfl, by go_num, HV6.out, hg6, Or.inr HGE.out, bl_tr HV.out.2.2.1 H6.out⟩, by simp [intOf]; omega⟩
    · obtain rfl : t = 64 := by omega
      go_wp2
      obtain ⟨h1, h2, h3, h4, h5⟩ := HV.out
      exact HX.out _ _ _ _ _ _ _ _ _ _ _ _ _ _ _ _ _ _ _ _ _ _ _ _ _ _ _ _ _ _ _ _ _ _ _ _ _ _ _ _ _ _ _ _ _ _ _ _ _ _ _ _ _ _ _ _ _ _ _ _ _ _ _ _ _ _ _ _ _ _ _ _ _ _ _ _ _ _ _ _ _ _ _ _ _ _ _ _ _ _ _ _ _ _ _ _ _ _ _ _ _ _ _ _ _ _ _ _ _ _ _ _ _ _ _ _ (by rw [← h5]; exact h1) h2 HGO.out h3
end Go.Proofs.YtagelkaenbdlaaaDoor
