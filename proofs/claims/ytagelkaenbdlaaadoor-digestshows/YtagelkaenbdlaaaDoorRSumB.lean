/- The document's own Sum: block by block. -/
import Derived.Test.YtagelkaenbdlaaaDoorRSumV
namespace Go.Proofs.YtagelkaenbdlaaaDoor
open Go.RowKit

theorem LAt.upB {B : Nat} {w w' : World} {b : Nat} {l : List Nat} (h : LAt w b l) (hb : Below B w w') (hg : b < B) : LAt w' b l := fun j hj => (hb.cell (p := ⟨b, j, none⟩) hg).trans (h j hj)
theorem mix_add (q : N8) (s : ByteArray) (ks : List Nat) : mixN q s ks = addN q (roundsN (wsN s 64) ks 64 q) := rfl
theorem v_of_row {w : World} {B g cap : Nat} {q : N8} (h : w.ownsRow B 3 1 (.slice (some ⟨g, 0, none⟩) 8 cap) 8 (ics q.l)) : VAt w g q :=
  ⟨h.cellAt 0 (by decide), h.cellAt 1 (by decide), h.cellAt 2 (by decide), h.cellAt 3 (by decide), h.cellAt 4 (by decide), h.cellAt 5 (by decide), h.cellAt 6 (by decide), h.cellAt 7 (by decide)⟩
theorem ics_one (l : List Nat) : ∀ u ∈ ics l, u.oneCell' = true := fun u hu => by
  obtain ⟨n, _, rfl⟩ := List.mem_map.1 hu
  rfl
theorem ics_len (l : List Nat) : (ics l).length = l.length := by simp [ics]
theorem add0 (b j : Nat) : (⟨b, 0, none⟩ : Addr).add j = ⟨b, j, none⟩ := by
  unfold Addr.add
  split <;> simp_all
/-- Blocks below hb, and block hb itself, are as they were. -/
theorem HAt.up2 {w w' : World} {b : Nat} {l : List Nat} (h : HAt w b l) (hb : Below w.heap.size w w') : HAt w' b l := h.up hb h.lt

set_option maxHeartbeats 40000000 in
set_option maxRecDepth 100000 in
theorem loop3 (x0 x1 x2 x4 x5 x9 x10 x11 x12 x13 x14 x15 x16 x17 x18 x19 x20 x21 x22 x23 x24 x25 x26 x27 x28 x29 x30 x31 x32 x33 x34 x35 x36 x37 x38 x39 x40 x41 x42 x43 x44 x45 x46 x47 x48 x49 x50 x51 x52 x53 x54 x55 x56 x57 x58 x59 x60 x61 x62 x63 x64 x65 x66 x67 x68 x69 x70 x71 x72 x73 x74 x75 x76 x77 x78 x79 x80 x81 x82 x83 x84 x85 x86 x87 x88 x89 x90 x91 x92 x93 x94 x95 x96 x97 x98 x99 x100 x101 x102 x103 x104 x105 x106 x107 x108 x109 x110 x111 x112 x113 x114 x115 x116 x117 x118 x119 x120 x121 x122 x123 x124 x125 x126 x127 x128 x129 x130 x131 x132 x133 x134 x135 x136 x137 x138 x139 x140 x141 x142 x143 x144 x145 x146 x147 x148 x149 x150 x151 x152 x153 x154 x155 x156 x157 x158 x159 x160 x161 x162 x163 x164 x165 x166 x167 x168 x169 x170 x171 x172 x173 x174 x175 x176 x177 x178 x179 x180 x181 x182 x183 x184 x185 x186 x187 x188 x189 x190 x191 x192 x193 x194 x195 x196 x197 x198 x199 x200 x201 x202 x203 x204 x205 x206 x207 x208 x209 x210 x211 x212 x213 x214 x215 x216 x217 x218 x219 x220 x221 x222 x223 x224 x225 x226 x227 x228 x229 x230 x231 x232 x233 x234 x235 x236 x237 x238 x239 x240 x241 x242 x243 x244 x245 x246 x247 x248 x249 x250 x251 x252 x253 x254 x255 x256 x257 x258 x259 x260 x261 x262 x263 x264 x265 x266 x267 x268 x269 x270 x271 x272 x273 x274 x275 x276 x277 x278 x279 x280 x281 x282 x283 : Value) (w : World) (P : List UInt8) (ks : List Nat) (q : N8) (N gp pc kb kc hb hc : Nat) (hq : q.ok) (hks : ∀ x ∈ ks, x < 2 ^ 32) (hkn : ks.length = 64) (hP : PAt w gp P) (hk : LAt w kb ks) (hh : HAt w hb q.l) (hgp : gp < hb) (hkb : kb < hb) (hpl : P.length < 2 ^ 50) (hN : P.length = 64 * N) (Q0 : Exit → Act → World → Prop)
    (hexit : ∀ (u8 u9 u10 u11 u12 u13 u14 u15 u16 u17 u18 u19 u20 u21 u22 u23 u24 u25 u59 u60 u61 u62 u63 u64 u65 u66 u67 u68 u69 u70 u71 u72 u73 u74 u75 u76 u77 u78 u79 u80 u81 u82 u83 u84 u85 u86 u87 u88 u89 u90 u91 u92 u93 u94 u95 u96 u97 u98 u99 u100 u101 u102 u103 u104 u105 u106 u107 u108 u109 u110 u111 u112 u113 u114 u115 u116 u117 u118 u119 u120 u121 u122 u123 u124 u125 u126 u127 u128 u129 u130 u131 u132 u133 u134 u135 u136 u137 u138 u139 u140 u141 u142 u143 u144 u145 u146 u147 u148 u149 u150 u151 u152 u153 u154 u155 u156 u157 u158 u159 u160 u161 u162 u163 u164 u165 u166 u167 u168 u169 u170 u171 u172 u173 u174 u175 u176 u177 u178 u179 u180 u181 u182 u183 u184 u185 u186 u187 u188 u189 u190 u191 u192 u193 u194 u195 u196 u197 u198 u199 u200 u201 u202 u203 u204 u205 u206 u207 u208 u209 u210 u211 u212 u213 u214 u215 u216 u217 u218 u219 u220 u221 u222 u223 u224 u225 u226 u227 u228 u229 u230 u231 u232 u233 u234 u235 u236 u237 u238 u239 u240 u241 u242 u243 u244 u245 u246 u247 u248 u249 u250 u251 u252 u253 u254 u255 u256 u257 u258 u259 u260 u261 u262 : Value) (w' : World), HAt w' hb (stF P ks 0 q N).l → Below hb w w' → Q0 (.exit 4) ⟨#[x0, x1, x2, .slice (some ⟨gp, 0, none⟩) P.length pc, x4, x5, .slice (some ⟨kb, 0, none⟩) 64 kc, .slice (some ⟨hb, 0, none⟩) 8 hc, u8, u9, u10, u11, u12, u13, u14, u15, u16, u17, u18, u19, u20, u21, u22, u23, u24, u25, x26, x27, x28, x29, x30, x31, x32, x33, x34, x35, x36, x37, x38, x39, x40, x41, x42, x43, x44, x45, x46, x47, x48, x49, x50, x51, x52, x53, x54, x55, x56, x57, x58, u59, u60, u61, u62, u63, u64, u65, u66, u67, u68, u69, u70, u71, u72, u73, u74, u75, u76, u77, u78, u79, u80, u81, u82, u83, u84, u85, u86, u87, u88, u89, u90, u91, u92, u93, u94, u95, u96, u97, u98, u99, u100, u101, u102, u103, u104, u105, u106, u107, u108, u109, u110, u111, u112, u113, u114, u115, u116, u117, u118, u119, u120, u121, u122, u123, u124, u125, u126, u127, u128, u129, u130, u131, u132, u133, u134, u135, u136, u137, u138, u139, u140, u141, u142, u143, u144, u145, u146, u147, u148, u149, u150, u151, u152, u153, u154, u155, u156, u157, u158, u159, u160, u161, u162, u163, u164, u165, u166, u167, u168, u169, u170, u171, u172, u173, u174, u175, u176, u177, u178, u179, u180, u181, u182, u183, u184, u185, u186, u187, u188, u189, u190, u191, u192, u193, u194, u195, u196, u197, u198, u199, u200, u201, u202, u203, u204, u205, u206, u207, u208, u209, u210, u211, u212, u213, u214, u215, u216, u217, u218, u219, u220, u221, u222, u223, u224, u225, u226, u227, u228, u229, u230, u231, u232, u233, u234, u235, u236, u237, u238, u239, u240, u241, u242, u243, u244, u245, u246, u247, u248, u249, u250, u251, u252, u253, u254, u255, u256, u257, u258, u259, u260, u261, u262, x263, x264, x265, x266, x267, x268, x269, x270, x271, x272, x273, x274, x275, x276, x277, x278, x279, x280, x281, x282, x283], []⟩ w') :
    Code.wp Tryd.prog (sub [true, true, true, true, true, true, false, true, false] (Tryd.f11.body.getD .skip)) Q0 ⟨#[x0, x1, x2, .slice (some ⟨gp, 0, none⟩) P.length pc, x4, x5, .slice (some ⟨kb, 0, none⟩) 64 kc, .slice (some ⟨hb, 0, none⟩) 8 hc, .int .i64 0, x9, x10, x11, x12, x13, x14, x15, x16, x17, x18, x19, x20, x21, x22, x23, x24, x25, x26, x27, x28, x29, x30, x31, x32, x33, x34, x35, x36, x37, x38, x39, x40, x41, x42, x43, x44, x45, x46, x47, x48, x49, x50, x51, x52, x53, x54, x55, x56, x57, x58, x59, x60, x61, x62, x63, x64, x65, x66, x67, x68, x69, x70, x71, x72, x73, x74, x75, x76, x77, x78, x79, x80, x81, x82, x83, x84, x85, x86, x87, x88, x89, x90, x91, x92, x93, x94, x95, x96, x97, x98, x99, x100, x101, x102, x103, x104, x105, x106, x107, x108, x109, x110, x111, x112, x113, x114, x115, x116, x117, x118, x119, x120, x121, x122, x123, x124, x125, x126, x127, x128, x129, x130, x131, x132, x133, x134, x135, x136, x137, x138, x139, x140, x141, x142, x143, x144, x145, x146, x147, x148, x149, x150, x151, x152, x153, x154, x155, x156, x157, x158, x159, x160, x161, x162, x163, x164, x165, x166, x167, x168, x169, x170, x171, x172, x173, x174, x175, x176, x177, x178, x179, x180, x181, x182, x183, x184, x185, x186, x187, x188, x189, x190, x191, x192, x193, x194, x195, x196, x197, x198, x199, x200, x201, x202, x203, x204, x205, x206, x207, x208, x209, x210, x211, x212, x213, x214, x215, x216, x217, x218, x219, x220, x221, x222, x223, x224, x225, x226, x227, x228, x229, x230, x231, x232, x233, x234, x235, x236, x237, x238, x239, x240, x241, x242, x243, x244, x245, x246, x247, x248, x249, x250, x251, x252, x253, x254, x255, x256, x257, x258, x259, x260, x261, x262, x263, x264, x265, x266, x267, x268, x269, x270, x271, x272, x273, x274, x275, x276, x277, x278, x279, x280, x281, x282, x283], []⟩ w := by
  obtain ⟨i0, hi, hz0, hz1, hz2⟩ := info_p infI
  have HX : Hid _ := hexit
  clear hexit
  have HP : Hid (PAt w gp P ∧ gp < hb ∧ P.length < 2 ^ 50 ∧ P.length = 64 * N) := ⟨hP, hgp, hpl, hN⟩
  have HK : Hid (LAt w kb ks ∧ kb < hb ∧ (∀ x ∈ ks, x < 2 ^ 32) ∧ ks.length = 64) := ⟨hk, hkb, hks, hkn⟩
  have HH : Hid (HAt w hb q.l ∧ q.ok) := ⟨hh, hq⟩
  have hNi : 64 * (N : Int) = (P.length : Int) := by omega
  have hpi : (P.length : Int) < 1125899906842624 := by omega
  clear hP hgp hpl hk hkb hks hkn hh hq hN
  conv => arg 2; whnf
  dsimp only
  go_loopw [8] (fun i wr => ∃ n : Nat, n ≤ N ∧ i = .int .i64 (64 * n : Nat) ∧ HAt wr hb (stF P ks 0 q n).l ∧ Below hb w wr) (fun i _ => 64 * N - (intOf i).toNat)
  case atStart => exact ⟨0, by omega, rfl, HH.out.1, Below.refl _ _⟩
  case round =>
    obtain ⟨n, hn, rfl, hh, hbl⟩ := hrel
    have HV : Hid (HAt wr hb (stF P ks 0 q n).l ∧ Below hb w wr ∧ (stF P ks 0 q n).ok) := ⟨hh, hbl, stF_ok P ks 0 q HH.out.2 n⟩
    clear hh hbl
    by_cases hlt : n < N
    · have hni : 64 * (n : Int) < (P.length : Int) := by omega
      have HNX : Hid (stF P ks 0 q (n + 1) = addN (stF P ks 0 q n) (roundsN (wsN (blk P n) 64) ks 64 (stF P ks 0 q n))) := by
        show mixN (stF P ks 0 q n) (blk P (0 + n)) ks = _
        rw [Nat.zero_add, mix_add]
      generalize stF P ks 0 q n = s at HV HNX
      have HNN : Hid (64 * n + 64 ≤ P.length ∧ n + 1 ≤ N) := by
        have := HP.out.2.2.2
        show _ ∧ _
        omega
      go_wp2
      refine loop4 _ _ _ _ _ _ _ _ _ _ _ _ _ _ _ _ _ _ _ _ _ _ _ _ _ _ _ _ _ _ _ _ _ _ _ _ _ _ _ _ _ _ _ _ _ _ _ _ _ _ _ _ _ _ _ _ _ _ _ _ _ _ _ _ _ _ _ _ _ _ _ _ _ _ _ _ _ _ _ _ _ _ _ _ _ _ _ _ _ _ _ _ _ _ _ _ _ _ _ _ _ _ _ _ _ _ _ _ _ _ _ _ _ _ _ _ _ _ _ _ _ _ _ _ _ _ _ _ _ _ _ _ _ _ _ _ _ _ _ _ _ _ _ _ _ _ _ _ _ _ _ _ _ _ _ _ _ _ _ _ _ _ _ _ _ _ _ _ _ _ _ _ _ _ _ _ _ _ _ _ _ _ _ _ _ _ _ _ _ _ _ _ _ _ _ _ _ _ _ _ _ _ _ _ _ _ _ _ _ _ _ _ _ _ _ _ _ _ _ _ _ _ _ _ _ _ _ _ _ _ _ _ _ _ _ _ _ _ _ _ _ _ _ _ _ _ _ _ _ _ _ _ _ _ _ _ _ _ _ _ _ _ _ _ _ _ _ _ _ _ _ _ _ _ _ _ _ _ _ _ wr P gp pc n (HP.out.1.up HV.out.2.1 HP.out.2.1) (Nat.lt_trans HP.out.2.1 HV.out.1.lt) HP.out.2.2.1 HNN.out.1 _ ?_
      intro _ _ _ _ _ _ _ _ _ _ _ _ _ _ _ _ _ _ _ _ _ _ _ _ _ _ _ _ _ _ _ _ _ _ _ _ _ _ _ _ _ _ _ _ _ _ _ _ _ _ _ _ _ _ _ _ _ _ _ _ _ _ _ _ _ _ _ _ _ _ _ _ _ _ _ _ _ _ _ g1 c1 w1 hw1 hg1 hb1
      have H1 : Hid (LAt w1 g1 (wsN (blk P n) 64) ∧ g1 < w1.heap.size ∧ HAt w1 hb s.l ∧ Below hb w w1) := ⟨hw1, hg1, HV.out.1.up2 hb1, HV.out.2.1.trans (hb1.mono (Nat.le_of_lt HV.out.1.lt))⟩
      clear hw1 hg1 hb1
      have HW1 : Hid (∀ x ∈ wsN (blk P n) 64, x < 2 ^ 32) := (ws_nat (blk P n) 64).2
      have HW2 : Hid ((wsN (blk P n) 64).length = 64) := wsN_len _ _
      generalize wsN (blk P n) 64 = wl at H1 HW1 HW2 HNX
      have HOE : Hid ((w1.alloc (.cells #[] 3)).ownsRow w1.heap.size 3 1 (.slice (some ⟨w1.heap.size, 0, none⟩) 0 0) 0 []) := World.ownsRow_lit w1 #[] 0 (Nat.le_refl _) (by unfold maxLen; omega) rfl
      have HCE : Hid (∀ j u, (ics s.l)[j]? = some u → (w1.alloc (.cells #[] 3)).cell? ((⟨hb, 0, none⟩ : Addr).add j) = some u) := fun j u hj => by
        have hj8 : j < s.l.length := by
          have := (List.getElem?_eq_some_iff.1 hj).1
          rwa [ics_len] at this
        rw [ics_get _ _ hj8] at hj
        injection hj with hj
        rw [← hj]
        have := (H1.out.2.2.1.up2 (bl_al (Below.refl _ _) (.cells #[] 3))).lat j hj8
        rw [add0]
        exact this
      go_wp2_with (at_builtin; refine wpList_append_own _ rfl _ _ 57 rfl w1.heap.size 3 i0 (.int .i64 0) 1 8 Tryd.underlying57 hi hz0 hz1 hz2 rfl (by decide) _ _ _ rfl HOE.out ⟨hb, 0, none⟩ 8 hc (ics s.l) rfl rfl HCE.out (ics_one _) ?c3 ?c4 ?c5 ?_)
      case c3 => unfold maxLen; omega
      case c4 => decide
      case c5 => rw [World.size_alloc]; omega
      intro v' w2 hown2 hg2 _
      have HB2 : Hid (Below w1.heap.size w1 w2) := ((Below.refl _ _).alloc (Nat.le_refl _) _).grown hg2 (by rw [World.size_alloc]; omega) (fun j hj => (HOE.out.lt j hj).1)
      have hown3 : w2.ownsRow w1.heap.size 3 1 v' 8 (ics s.l) := hown2
      clear hown2 hg2 HCE HOE
      obtain ⟨g2, cap2, rfl, hgb2, hgs2⟩ := hown3.form (by omega)
      have H2 : Hid (VAt w2 g2 s ∧ g2 < w2.heap.size ∧ w1.heap.size ≤ g2) := ⟨v_of_row hown3, hgs2, hgb2⟩
      clear hown3 hgs2 hgb2
      have H2K : Hid (LAt w2 kb ks ∧ LAt w2 g1 wl ∧ kb < w2.heap.size ∧ g1 < w2.heap.size ∧ HAt w2 hb s.l ∧ Below hb w w2) := by
        obtain ⟨h1, h2, h3, h4⟩ := H1.out
        have hz := HB2.out.size
        have hl := h3.lt
        have hk := HK.out.2.1
        exact ⟨(HK.out.1.upB h4 hk).up HB2.out (by omega), h1.up HB2.out h2, by omega, by omega, h3.up2 HB2.out, h4.trans (HB2.out.mono (by omega))⟩
      go_wp2
      refine loop6 _ _ _ _ _ _ _ _ _ _ _ _ _ _ _ _ _ _ _ _ _ _ _ _ _ _ _ _ _ _ _ _ _ _ _ _ _ _ _ _ _ _ _ _ _ _ _ _ _ _ _ _ _ _ _ _ _ _ _ _ _ _ _ _ _ _ _ _ _ _ _ _ _ _ _ _ _ _ _ _ _ _ _ _ _ _ _ _ _ _ _ _ _ _ _ _ _ _ _ _ _ _ _ _ _ _ _ _ _ _ _ _ _ _ _ _ _ _ _ _ _ _ _ _ _ _ _ _ _ _ _ _ _ _ _ _ _ _ _ _ _ _ _ _ _ _ _ _ _ _ _ _ _ _ _ _ _ _ _ _ _ _ _ _ _ _ _ _ _ _ _ _ _ _ _ _ _ _ _ _ _ _ _ _ _ _ _ _ _ _ _ _ _ _ _ _ _ _ _ _ _ _ _ _ _ _ _ _ _ _ _ _ _ _ _ _ _ _ _ _ _ _ _ _ _ _ _ _ _ _ _ _ _ _ _ _ _ _ _ _ _ _ _ _ _ _ _ _ _ _ _ _ _ _ _ _ _ _ _ _ _ _ _ _ _ _ _ _ _ _ _ _ _ _ _ _ _ _ _ _ w2 s HV.out.2.2 wl ks HW1.out HK.out.2.2.1 HW2.out HK.out.2.2.2 kb kc g1 c1 g2 cap2 H2K.out.1 H2K.out.2.1 H2K.out.2.2.1 H2K.out.2.2.2.1 H2.out.1 H2.out.2.1 _ ?_
      intro _ _ _ _ _ _ _ _ _ _ _ _ _ _ _ _ _ _ _ _ _ _ _ _ _ _ _ _ _ _ _ _ _ _ _ _ _ _ _ _ _ _ _ _ _ _ _ _ _ _ _ _ _ _ _ _ _ _ _ _ _ _ _ _ _ _ _ _ _ _ _ _ _ _ _ _ _ _ _ _ _ _ _ _ _ _ _ _ _ _ _ _ _ _ _ _ _ _ _ _ _ _ _ _ _ _ _ _ _ _ _ _ _ g3 c3 w3 hv3 hg3 hgo3 hb3
      have H3 : Hid (VAt w3 g3 (roundsN wl ks 64 s) ∧ HAt w3 hb s.l ∧ hb ≠ g3 ∧ Below hb w w3) := by
        have hl := H1.out.2.2.1.lt
        have hz := HB2.out.size
        refine ⟨hv3, H2K.out.2.2.2.2.1.up2 hb3, ?_, H2K.out.2.2.2.2.2.trans (hb3.mono (by omega))⟩
        have := H2.out.2.2
        rcases hgo3 with h | h <;> omega
      clear hv3 hg3 hgo3 hb3
      have HRO : Hid ((roundsN wl ks 64 s).ok) := roundsN_ok wl ks 64 s HV.out.2.2
      generalize roundsN wl ks 64 s = r at H3 HRO HNX
      go_wp2
      refine loop7 _ _ _ _ _ _ _ _ _ _ _ _ _ _ _ _ _ _ _ _ _ _ _ _ _ _ _ _ _ _ _ _ _ _ _ _ _ _ _ _ _ _ _ _ _ _ _ _ _ _ _ _ _ _ _ _ _ _ _ _ _ _ _ _ _ _ _ _ _ _ _ _ _ _ _ _ _ _ _ _ _ _ _ _ _ _ _ _ _ _ _ _ _ _ _ _ _ _ _ _ _ _ _ _ _ _ _ _ _ _ _ _ _ _ _ _ _ _ _ _ _ _ _ _ _ _ _ _ _ _ _ _ _ _ _ _ _ _ _ _ _ _ _ _ _ _ _ _ _ _ _ _ _ _ _ _ _ _ _ _ _ _ _ _ _ _ _ _ _ _ _ _ _ _ _ _ _ _ _ _ _ _ _ _ _ _ _ _ _ _ _ _ _ _ _ _ _ _ _ _ _ _ _ _ _ _ _ _ _ _ _ _ _ _ _ _ _ _ _ _ _ _ _ _ _ _ _ _ _ _ _ _ _ _ _ _ _ _ _ _ _ _ _ _ _ _ _ _ _ _ _ _ _ _ _ _ _ _ _ _ _ _ _ _ _ _ _ _ _ _ _ _ _ _ _ _ _ _ _ _ _ w3 s r HV.out.2.2 HRO.out hb hc g3 c3 H3.out.2.1 H3.out.1 H3.out.2.2.1 _ ?_
      intro _ _ _ _ _ _ _ _ _ _ _ _ _ _ _ _ _ _ w4 hh4 hb4
      have H4 : Hid (HAt w4 hb (stF P ks 0 q (n + 1)).l ∧ Below hb w w4) := ⟨by rw [HNX.out]; exact hh4, H3.out.2.2.2.trans hb4⟩
      clear hh4 hb4
      go_wp2
      refine ⟨⟨n + 1, HNN.out.2, ?_, H4.out.1, H4.out.2⟩, ?_⟩
      · exact congrArg (Value.int .i64) (by omega)
      · simp only [intOf]
        omega
    · obtain rfl : n = N := by omega
      go_wp2
      exact HX.out _ _ _ _ _ _ _ _ _ _ _ _ _ _ _ _ _ _ _ _ _ _ _ _ _ _ _ _ _ _ _ _ _ _ _ _ _ _ _ _ _ _ _ _ _ _ _ _ _ _ _ _ _ _ _ _ _ _ _ _ _ _ _ _ _ _ _ _ _ _ _ _ _ _ _ _ _ _ _ _ _ _ _ _ _ _ _ _ _ _ _ _ _ _ _ _ _ _ _ _ _ _ _ _ _ _ _ _ _ _ _ _ _ _ _ _ _ _ _ _ _ _ _ _ _ _ _ _ _ _ _ _ _ _ _ _ _ _ _ _ _ _ _ _ _ _ _ _ _ _ _ _ _ _ _ _ _ _ _ _ _ _ _ _ _ _ _ _ _ _ _ _ _ _ _ _ _ _ _ _ _ _ _ _ _ _ _ _ _ _ _ _ _ _ _ _ _ _ _ _ _ _ _ _ _ _ _ _ _ _ _ _ _ _ _ _ _ _ _ _ _ _ _ HV.out.1 HV.out.2.1
end Go.Proofs.YtagelkaenbdlaaaDoor
