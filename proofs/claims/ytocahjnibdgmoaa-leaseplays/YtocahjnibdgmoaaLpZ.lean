/- LeasePlays: one call of both. -/
import Derived.Test.YtocahjnibdgmoaaLpQ
namespace Go.Proofs.Ytocahjnibdgmoaa
open Go.RowKit Go.Shelf Go.Sort

theorem tellT_len {nw now : Int} {nb : Bool} {P : List Pj} : (tellT nw now nb P).length ≤ P.length := by
  unfold tellT
  split
  · rw [List.length_map]; exact List.length_filter_le _ _
  · exact Nat.zero_le _
theorem tellT_no {nw now : Int} {nb : Bool} {P : List Pj} (h : tellE nw now nb ≠ 0) : tellT nw now nb P = [] := by unfold tellT; rw [if_neg h]
def PP (w0 : World) (Bk R : Nat) (a b c : Int) (w : World) : Prop := ∃ nw P, LP w0 Bk R a b c nw P nw P [] w

set_option maxHeartbeats 8000000 in
set_option maxRecDepth 100000 in
theorem turnL (x0 x1 x2 x3 x4 x6 x8 x11 x12 x13 x14 x15 x16 x17 x18 x19 x20 x21 x22 x23 x24 x25 x26 x27 x28 x29 x30 x31 x32 x33 x34 x35 x36 x37 x38 x39 x40 x41 x42 x43 x44 x45 x46 x47 x48 x49 x50 x51 x52 x53 x54 x55 x56 x57 x58 x59 x60 x61 x62 x63 x64 x65 x66 x67 x68 x69 x70 x71 x72 x73 x74 x75 x76 x77 x78 x79 x80 x81 x82 x83 x84 x85 x86 x87 x88 x89 x90 x91 x92 x93 x94 x95 x96 x97 x98 x99 x100 x101 x102 x103 x104 x105 x106 x107 x108 x109 x110 x111 x112 x113 x114 x115 x116 x117 x118 x119 x120 x121 x122 x123 x124 x125 x126 x127 x128 x129 x130 x131 x132 x133 x134 x135 x136 x137 x138 x139 x140 x141 x142 x143 x144 x145 x146 x147 x148 x149 x150 x151 x152 x153 x154 x155 x156 x157 x158 x159 x160 x161 x162 x163 x164 x165 x166 x167 x168 x169 x170 x171 x172 x173 x174 x175 x176 x177 x178 x179 x180 x181 x182 x183 x184 x185 x186 x187 x188 x189 x190 x191 x192 x193 x194 x195 x196 x197 x198 x199 x200 x201 x202 x203 x204 x205 x206 x207 x208 x209 x210 x211 x212 x213 x214 x215 x216 x217 x218 x219 x220 x221 x222 x223 x224 x225 x226 x227 x228 x229 x230 x231 x232 x233 x234 x235 x236 : Value) (w : World) {w0 : World} {Bk R X : Nat} {a b c nw : Int} {P : List Pj} {kd wk dn : Int} {s : ByteArray} {gd : Bool} (t2 : Int) (hL : LP w0 Bk R a b c nw P nw P [(X, CallX kd wk dn s gd)] w) (hs : s.size ≤ maxLen) (hk1 : -9223372036854775808 ≤ kd) (hk2 : kd ≤ 9223372036854775807) (hwk : (Lit.int .i64 wk).wf = true) (Q0 : Exit → Act → World → Prop)
    (hexit : ∀ (u4 u11 u12 u13 u14 u15 u16 u17 u18 u19 u20 u77 u78 u79 u80 u81 u82 u83 u84 u85 u86 u87 u88 u89 u90 u91 u92 u93 u94 u95 u96 u97 u98 u99 u100 u101 u102 u103 u104 u105 u106 u107 u108 u109 u110 u111 u112 u113 u114 u115 u116 u117 u118 u119 u120 u121 u122 u123 u124 u125 u126 u127 u128 u129 u130 u131 u132 u133 u134 u135 u136 u137 u138 u139 u140 u141 u142 u143 u144 u145 u146 u147 u148 u149 u150 u151 u152 u153 u154 u155 u156 u157 u158 u159 u160 u161 u162 u163 u164 u165 u166 u167 u168 u169 u170 u171 u172 u173 u174 u175 u176 u177 u178 u179 u180 u181 u182 u183 u184 u185 u186 u187 u188 u189 u190 u191 u192 u193 u194 u195 u196 u197 u198 u199 u200 u201 u202 u203 u204 u205 u206 u207 u208 u209 u210 u211 u212 u213 u214 u215 u216 u217 u218 u219 u220 u221 u222 u223 u224 u225 u226 u227 u228 u229 u230 u231 u232 u233 u234 u235 u236 : Value) (w' : World), Hid (PP w0 Bk R a b c w') → Q0 .normal ⟨#[x0, x1, x2, x3, u4, .pointer (some ⟨Bk, 0, none⟩), x6, .pointer (some ⟨R, 0, none⟩), x8, .pointer (some ⟨X, 0, none⟩), .int .i64 t2, u11, u12, u13, u14, u15, u16, u17, u18, u19, u20, x21, x22, x23, x24, x25, x26, x27, x28, x29, x30, x31, x32, x33, x34, x35, x36, x37, x38, x39, x40, x41, x42, x43, x44, x45, x46, x47, x48, x49, x50, x51, x52, x53, x54, x55, x56, x57, x58, x59, x60, x61, x62, x63, x64, x65, x66, x67, x68, x69, x70, x71, x72, x73, x74, x75, x76, u77, u78, u79, u80, u81, u82, u83, u84, u85, u86, u87, u88, u89, u90, u91, u92, u93, u94, u95, u96, u97, u98, u99, u100, u101, u102, u103, u104, u105, u106, u107, u108, u109, u110, u111, u112, u113, u114, u115, u116, u117, u118, u119, u120, u121, u122, u123, u124, u125, u126, u127, u128, u129, u130, u131, u132, u133, u134, u135, u136, u137, u138, u139, u140, u141, u142, u143, u144, u145, u146, u147, u148, u149, u150, u151, u152, u153, u154, u155, u156, u157, u158, u159, u160, u161, u162, u163, u164, u165, u166, u167, u168, u169, u170, u171, u172, u173, u174, u175, u176, u177, u178, u179, u180, u181, u182, u183, u184, u185, u186, u187, u188, u189, u190, u191, u192, u193, u194, u195, u196, u197, u198, u199, u200, u201, u202, u203, u204, u205, u206, u207, u208, u209, u210, u211, u212, u213, u214, u215, u216, u217, u218, u219, u220, u221, u222, u223, u224, u225, u226, u227, u228, u229, u230, u231, u232, u233, u234, u235, u236], []⟩ w') :
    Code.wp Try.prog (sub [true, true, true, true, true, true, false, true, false, false, true, false, false, true, true, true] (Try.f3.body.getD .skip)) Q0 ⟨#[x0, x1, x2, x3, x4, .pointer (some ⟨Bk, 0, none⟩), x6, .pointer (some ⟨R, 0, none⟩), x8, .pointer (some ⟨X, 0, none⟩), .int .i64 t2, x11, x12, x13, x14, x15, x16, x17, x18, x19, x20, x21, x22, x23, x24, x25, x26, x27, x28, x29, x30, x31, x32, x33, x34, x35, x36, x37, x38, x39, x40, x41, x42, x43, x44, x45, x46, x47, x48, x49, x50, x51, x52, x53, x54, x55, x56, x57, x58, x59, x60, x61, x62, x63, x64, x65, x66, x67, x68, x69, x70, x71, x72, x73, x74, x75, x76, x77, x78, x79, x80, x81, x82, x83, x84, x85, x86, x87, x88, x89, x90, x91, x92, x93, x94, x95, x96, x97, x98, x99, x100, x101, x102, x103, x104, x105, x106, x107, x108, x109, x110, x111, x112, x113, x114, x115, x116, x117, x118, x119, x120, x121, x122, x123, x124, x125, x126, x127, x128, x129, x130, x131, x132, x133, x134, x135, x136, x137, x138, x139, x140, x141, x142, x143, x144, x145, x146, x147, x148, x149, x150, x151, x152, x153, x154, x155, x156, x157, x158, x159, x160, x161, x162, x163, x164, x165, x166, x167, x168, x169, x170, x171, x172, x173, x174, x175, x176, x177, x178, x179, x180, x181, x182, x183, x184, x185, x186, x187, x188, x189, x190, x191, x192, x193, x194, x195, x196, x197, x198, x199, x200, x201, x202, x203, x204, x205, x206, x207, x208, x209, x210, x211, x212, x213, x214, x215, x216, x217, x218, x219, x220, x221, x222, x223, x224, x225, x226, x227, x228, x229, x230, x231, x232, x233, x234, x235, x236], []⟩ w := by
  have HX : Hid (∀ (u4 u11 u12 u13 u14 u15 u16 u17 u18 u19 u20 u77 u78 u79 u80 u81 u82 u83 u84 u85 u86 u87 u88 u89 u90 u91 u92 u93 u94 u95 u96 u97 u98 u99 u100 u101 u102 u103 u104 u105 u106 u107 u108 u109 u110 u111 u112 u113 u114 u115 u116 u117 u118 u119 u120 u121 u122 u123 u124 u125 u126 u127 u128 u129 u130 u131 u132 u133 u134 u135 u136 u137 u138 u139 u140 u141 u142 u143 u144 u145 u146 u147 u148 u149 u150 u151 u152 u153 u154 u155 u156 u157 u158 u159 u160 u161 u162 u163 u164 u165 u166 u167 u168 u169 u170 u171 u172 u173 u174 u175 u176 u177 u178 u179 u180 u181 u182 u183 u184 u185 u186 u187 u188 u189 u190 u191 u192 u193 u194 u195 u196 u197 u198 u199 u200 u201 u202 u203 u204 u205 u206 u207 u208 u209 u210 u211 u212 u213 u214 u215 u216 u217 u218 u219 u220 u221 u222 u223 u224 u225 u226 u227 u228 u229 u230 u231 u232 u233 u234 u235 u236 : Value) (w' : World), Hid (PP w0 Bk R a b c w') → Q0 .normal ⟨#[x0, x1, x2, x3, u4, .pointer (some ⟨Bk, 0, none⟩), x6, .pointer (some ⟨R, 0, none⟩), x8, .pointer (some ⟨X, 0, none⟩), .int .i64 t2, u11, u12, u13, u14, u15, u16, u17, u18, u19, u20, x21, x22, x23, x24, x25, x26, x27, x28, x29, x30, x31, x32, x33, x34, x35, x36, x37, x38, x39, x40, x41, x42, x43, x44, x45, x46, x47, x48, x49, x50, x51, x52, x53, x54, x55, x56, x57, x58, x59, x60, x61, x62, x63, x64, x65, x66, x67, x68, x69, x70, x71, x72, x73, x74, x75, x76, u77, u78, u79, u80, u81, u82, u83, u84, u85, u86, u87, u88, u89, u90, u91, u92, u93, u94, u95, u96, u97, u98, u99, u100, u101, u102, u103, u104, u105, u106, u107, u108, u109, u110, u111, u112, u113, u114, u115, u116, u117, u118, u119, u120, u121, u122, u123, u124, u125, u126, u127, u128, u129, u130, u131, u132, u133, u134, u135, u136, u137, u138, u139, u140, u141, u142, u143, u144, u145, u146, u147, u148, u149, u150, u151, u152, u153, u154, u155, u156, u157, u158, u159, u160, u161, u162, u163, u164, u165, u166, u167, u168, u169, u170, u171, u172, u173, u174, u175, u176, u177, u178, u179, u180, u181, u182, u183, u184, u185, u186, u187, u188, u189, u190, u191, u192, u193, u194, u195, u196, u197, u198, u199, u200, u201, u202, u203, u204, u205, u206, u207, u208, u209, u210, u211, u212, u213, u214, u215, u216, u217, u218, u219, u220, u221, u222, u223, u224, u225, u226, u227, u228, u229, u230, u231, u232, u233, u234, u235, u236], []⟩ w') := hexit
  have x0 : w.cell? ⟨X, 0, none⟩ = some (.int .i64 kd) := Lib.cell_of_heap (hL.blk List.mem_cons_self) 0
  have hjc : ∀ {W : World} {n1 n2 : Int} {P1 P2 : List Pj}, LP w0 Bk R a b c n1 P1 n2 P2 [(X, CallX kd wk dn s gd)] W → W.cell? ⟨X, 1, none⟩ = some (.int .i64 wk) ∧ W.cell? ⟨X, 3, none⟩ = some (.string s) ∧ W.cell? ⟨X, 4, none⟩ = some (.bool gd) := fun h => by
    have hb := h.blk (x := (X, CallX kd wk dn s gd)) List.mem_cons_self
    exact ⟨Lib.cell_of_heap hb 1, Lib.cell_of_heap hb 3, Lib.cell_of_heap hb 4⟩
  have HJ : Hid (w.drew.cell? ⟨X, 1, none⟩ = some (.int .i64 wk) ∧ w.drew.cell? ⟨X, 3, none⟩ = some (.string s) ∧ w.drew.cell? ⟨X, 4, none⟩ = some (.bool gd)) := hjc hL.drew
  obtain ⟨cc, hcc⟩ : ∃ cc, cc = chs kd 5 := ⟨_, rfl⟩
  have hcl : cc < 5 := by rw [hcc]; exact chs_lt kd (by decide)
  have HC5 : Hid (∀ W, Calls Try.prog 9 #[.int .i64 kd, .int .i64 5] W fun e w' => e = .returned (.int .i64 (cc : Int)) ∧ w' = W) := fun W => by rw [hcc]; exact choose_any kd 5 W hk1 hk2 (by decide)
  have HL : Hid (LP w0 Bk R a b c nw P nw P [(X, CallX kd wk dn s gd)] w ∧ s.size ≤ maxLen ∧ (Lit.int .i64 wk).wf = true) := ⟨hL, hs, hwk⟩
  obtain ⟨TL, hTL⟩ : ∃ TL, TL = (sub [true, true, true, true, true, true, false, true, false, false, true, false, false, true, true, true, true] (Try.f3.body.getD .skip)) := ⟨_, rfl⟩
  have HTL : Hid (TL = (sub [true, true, true, true, true, true, false, true, false, false, true, false, false, true, true, true, true] (Try.f3.body.getD .skip))) := hTL
  have hlit : (sub [true, true, true, true, true, true, false, true, false, false, true, false, false, true, true, true, true] (Try.f3.body.getD .skip)) = TL := hTL.symm
  conv at hlit => lhs; whnf
  conv => arg 2; whnf
  rw [hlit]
  have hc5 : cc = 0 ∨ cc = 1 ∨ cc = 2 ∨ cc = 3 ∨ cc = 4 := by omega
  clear hlit hTL hexit hL hs hwk hk1 hk2 hcc hcl
  rcases hc5 with rfl | rfl | rfl | rfl | rfl
  · have HB : Hid (Calls Try.prog 10 #[.pointer (some ⟨Bk, 0, none⟩), .string s] w.drew fun e w' => e = .returned (.int .i64 (adE P s)) ∧ (w'.cell? ⟨X, 1, none⟩ = some (.int .i64 wk) ∧ w'.cell? ⟨X, 3, none⟩ = some (.string s) ∧ w'.cell? ⟨X, 4, none⟩ = some (.bool gd)) ∧ Hid (LP w0 Bk R a b c nw (adP P s) nw P [(X, CallX kd wk dn s gd)] w')) := by
      refine (HL.out.1.drew.add s HL.out.2.1).mono ?_
      rintro e w' ⟨rfl, r1⟩
      exact ⟨rfl, hjc r1, r1⟩
    have HR : Hid (∀ W, Hid (LP w0 Bk R a b c nw (adP P s) nw P [(X, CallX kd wk dn s gd)] W) → Calls Try.prog 11 #[.pointer (some ⟨R, 0, none⟩), .string s] W fun e w' => e = .returned (.int .i64 (adE P s)) ∧ (w'.cell? ⟨X, 1, none⟩ = some (.int .i64 wk) ∧ w'.cell? ⟨X, 3, none⟩ = some (.string s) ∧ w'.cell? ⟨X, 4, none⟩ = some (.bool gd)) ∧ Hid (LP w0 Bk R a b c nw (adP P s) nw (adP P s) [(X, CallX kd wk dn s gd)] w')) := fun W hW => by
      refine (hW.out.radd s HL.out.2.1).mono ?_
      rintro e w' ⟨rfl, r1⟩
      exact ⟨rfl, hjc r1, r1⟩
    clear hjc
    generalize adE P s = er at HB HR
    generalize (adP P s) = P1 at HB HR
    go_wp2_with (first | (go_at_call 9; refine (HC5.out _).mono ?_; rintro e w' ⟨rfl, hw⟩; subst w') | fail)
    go_region_held3 (fun w' => w'.cell? ⟨X, 1, none⟩ = some (.int .i64 wk) ∧ w'.cell? ⟨X, 3, none⟩ = some (.string s) ∧ w'.cell? ⟨X, 4, none⟩ = some (.bool gd))
      (first | with_reducible exact HJ.out | with_reducible assumption)
      (first
        | (go_at_call 10; refine HB.out.mono ?_; rintro e w4 ⟨rfl, hc4, hs4⟩)
        | (go_at_call 11; refine (HR.out _ (by assumption)).mono ?_; rintro e w5 ⟨rfl, hc5, hs5⟩)
        | fail)
    all_goals
      go_wp2
      rw [HTL.out]
      refine tellL _ _ _ _ _ _ _ _ _ _ _ _ _ _ _ _ _ _ _ _ _ _ _ _ _ _ _ _ _ _ _ _ _ _ _ _ _ _ _ _ _ _ _ _ _ _ _ _ _ _ _ _ _ _ _ _ _ _ _ _ _ _ _ _ _ _ _ _ _ _ _ _ _ _ _ _ _ _ _ _ _ _ _ _ _ _ _ _ _ _ _ _ _ _ _ _ _ _ _ _ _ _ _ _ _ _ _ _ _ _ _ _ _ _ _ _ _ _ _ _ _ _ _ _ _ _ _ _ _ _ _ _ _ _ _ _ _ _ _ _ _ _ _ _ _ _ _ _ _ _ _ _ _ _ _ _ _ _ _ _ _ _ _ _ _ _ _ _ _ _ _ _ _ _ _ _ _ _ _ _ _ _ _ _ _ _ _ _ _ _ _ _ _ _ _ _ _ _ _ _ _ _ _ _ _ _ _ _ _ _ _ _ _ _ _ _ _ _ _ _ _ _ _ _ _ _ _ _ _ _ _ _ _ _ w5 hs5.out HL.out.2.1 _ ?_
      intro u4 u15 u16 u17 u18 u19 u20 u166 u167 u168 u169 u170 u171 u172 u173 u174 u175 u176 u177 u178 u179 u180 u181 u182 u183 u184 u185 u186 u187 u188 u189 u190 u191 u192 u193 u194 u195 u196 u197 u198 u199 u200 u201 u202 u203 u204 u205 u206 u207 u208 u209 u210 u211 u212 u213 u214 u215 u216 u217 u218 u219 u220 u221 u222 u223 u224 u225 u226 u227 u228 u229 u230 u231 u232 u233 u234 u235 u236 w6 h6
      exact HX.out _ _ _ _ _ _ _ _ _ _ _ _ _ _ _ _ _ _ _ _ _ _ _ _ _ _ _ _ _ _ _ _ _ _ _ _ _ _ _ _ _ _ _ _ _ _ _ _ _ _ _ _ _ _ _ _ _ _ _ _ _ _ _ _ _ _ _ _ _ _ _ _ _ _ _ _ _ _ _ _ _ _ _ _ _ _ _ _ _ _ _ _ _ _ _ _ _ _ _ _ _ _ _ _ _ _ _ _ _ _ _ _ _ _ _ _ _ _ _ _ _ _ _ _ _ _ _ _ _ _ _ _ _ _ _ _ _ _ _ _ _ _ _ _ _ _ _ _ _ _ _ _ _ _ _ _ _ _ _ _ _ _ _ _ _ _ _ _ _ _ _ _ ⟨_, _, h6.out⟩
  · have HB : Hid (Calls Try.prog 12 #[.pointer (some ⟨Bk, 0, none⟩), .string s, .int .i64 wk, .int .i64 t2] w.drew fun e w' => e = .returned (.int .i64 (grE b c nw P s.data.toList wk t2)) ∧ (w'.cell? ⟨X, 1, none⟩ = some (.int .i64 wk) ∧ w'.cell? ⟨X, 3, none⟩ = some (.string s) ∧ w'.cell? ⟨X, 4, none⟩ = some (.bool gd)) ∧ Hid (LP w0 Bk R a b c (tellN nw t2 (nobody wk)) (grP a b c nw P s.data.toList wk t2) nw P [(X, CallX kd wk dn s gd)] w')) := by
      refine (HL.out.1.drew.grant s HL.out.2.1 wk t2 HL.out.2.2).mono ?_
      rintro e w' ⟨rfl, r1⟩
      exact ⟨rfl, hjc r1, r1⟩
    have HR : Hid (∀ W, Hid (LP w0 Bk R a b c (tellN nw t2 (nobody wk)) (grP a b c nw P s.data.toList wk t2) nw P [(X, CallX kd wk dn s gd)] W) → Calls Try.prog 13 #[.pointer (some ⟨R, 0, none⟩), .string s, .int .i64 wk, .int .i64 t2] W fun e w' => e = .returned (.int .i64 (grE b c nw P s.data.toList wk t2)) ∧ (w'.cell? ⟨X, 1, none⟩ = some (.int .i64 wk) ∧ w'.cell? ⟨X, 3, none⟩ = some (.string s) ∧ w'.cell? ⟨X, 4, none⟩ = some (.bool gd)) ∧ Hid (LP w0 Bk R a b c (tellN nw t2 (nobody wk)) (grP a b c nw P s.data.toList wk t2) (tellN nw t2 (nobody wk)) (grP a b c nw P s.data.toList wk t2) [(X, CallX kd wk dn s gd)] w')) := fun W hW => by
      refine (hW.out.rgrant s wk t2).mono ?_
      rintro e w' ⟨rfl, r1⟩
      exact ⟨rfl, hjc r1, r1⟩
    clear hjc
    generalize grE b c nw P s.data.toList wk t2 = er at HB HR
    generalize (grP a b c nw P s.data.toList wk t2) = P1 at HB HR
    generalize (tellN nw t2 (nobody wk)) = n1 at HB HR
    go_wp2_with (first | (go_at_call 9; refine (HC5.out _).mono ?_; rintro e w' ⟨rfl, hw⟩; subst w') | fail)
    go_region_held3 (fun w' => w'.cell? ⟨X, 1, none⟩ = some (.int .i64 wk) ∧ w'.cell? ⟨X, 3, none⟩ = some (.string s) ∧ w'.cell? ⟨X, 4, none⟩ = some (.bool gd))
      (first | with_reducible exact HJ.out | with_reducible assumption)
      (first
        | (go_at_call 12; refine HB.out.mono ?_; rintro e w4 ⟨rfl, hc4, hs4⟩)
        | (go_at_call 13; refine (HR.out _ (by assumption)).mono ?_; rintro e w5 ⟨rfl, hc5, hs5⟩)
        | fail)
    all_goals
      go_wp2
      rw [HTL.out]
      refine tellL _ _ _ _ _ _ _ _ _ _ _ _ _ _ _ _ _ _ _ _ _ _ _ _ _ _ _ _ _ _ _ _ _ _ _ _ _ _ _ _ _ _ _ _ _ _ _ _ _ _ _ _ _ _ _ _ _ _ _ _ _ _ _ _ _ _ _ _ _ _ _ _ _ _ _ _ _ _ _ _ _ _ _ _ _ _ _ _ _ _ _ _ _ _ _ _ _ _ _ _ _ _ _ _ _ _ _ _ _ _ _ _ _ _ _ _ _ _ _ _ _ _ _ _ _ _ _ _ _ _ _ _ _ _ _ _ _ _ _ _ _ _ _ _ _ _ _ _ _ _ _ _ _ _ _ _ _ _ _ _ _ _ _ _ _ _ _ _ _ _ _ _ _ _ _ _ _ _ _ _ _ _ _ _ _ _ _ _ _ _ _ _ _ _ _ _ _ _ _ _ _ _ _ _ _ _ _ _ _ _ _ _ _ _ _ _ _ _ _ _ _ _ _ _ _ _ _ _ _ _ _ _ _ _ w5 hs5.out HL.out.2.1 _ ?_
      intro u4 u15 u16 u17 u18 u19 u20 u166 u167 u168 u169 u170 u171 u172 u173 u174 u175 u176 u177 u178 u179 u180 u181 u182 u183 u184 u185 u186 u187 u188 u189 u190 u191 u192 u193 u194 u195 u196 u197 u198 u199 u200 u201 u202 u203 u204 u205 u206 u207 u208 u209 u210 u211 u212 u213 u214 u215 u216 u217 u218 u219 u220 u221 u222 u223 u224 u225 u226 u227 u228 u229 u230 u231 u232 u233 u234 u235 u236 w6 h6
      exact HX.out _ _ _ _ _ _ _ _ _ _ _ _ _ _ _ _ _ _ _ _ _ _ _ _ _ _ _ _ _ _ _ _ _ _ _ _ _ _ _ _ _ _ _ _ _ _ _ _ _ _ _ _ _ _ _ _ _ _ _ _ _ _ _ _ _ _ _ _ _ _ _ _ _ _ _ _ _ _ _ _ _ _ _ _ _ _ _ _ _ _ _ _ _ _ _ _ _ _ _ _ _ _ _ _ _ _ _ _ _ _ _ _ _ _ _ _ _ _ _ _ _ _ _ _ _ _ _ _ _ _ _ _ _ _ _ _ _ _ _ _ _ _ _ _ _ _ _ _ _ _ _ _ _ _ _ _ _ _ _ _ _ _ _ _ _ _ _ _ _ _ _ _ ⟨_, _, h6.out⟩
  · have HB : Hid (Calls Try.prog 14 #[.pointer (some ⟨Bk, 0, none⟩), .string s, .int .i64 wk, .int .i64 t2] w.drew fun e w' => e = .returned (.int .i64 (leE nw P s.data.toList wk t2)) ∧ (w'.cell? ⟨X, 1, none⟩ = some (.int .i64 wk) ∧ w'.cell? ⟨X, 3, none⟩ = some (.string s) ∧ w'.cell? ⟨X, 4, none⟩ = some (.bool gd)) ∧ Hid (LP w0 Bk R a b c (tellN nw t2 (nobody wk)) (beP a nw P s.data.toList wk t2) nw P [(X, CallX kd wk dn s gd)] w')) := by
      refine (HL.out.1.drew.beat s HL.out.2.1 wk t2 HL.out.2.2).mono ?_
      rintro e w' ⟨rfl, r1⟩
      exact ⟨rfl, hjc r1, r1⟩
    have HR : Hid (∀ W, Hid (LP w0 Bk R a b c (tellN nw t2 (nobody wk)) (beP a nw P s.data.toList wk t2) nw P [(X, CallX kd wk dn s gd)] W) → Calls Try.prog 15 #[.pointer (some ⟨R, 0, none⟩), .string s, .int .i64 wk, .int .i64 t2] W fun e w' => e = .returned (.int .i64 (leE nw P s.data.toList wk t2)) ∧ (w'.cell? ⟨X, 1, none⟩ = some (.int .i64 wk) ∧ w'.cell? ⟨X, 3, none⟩ = some (.string s) ∧ w'.cell? ⟨X, 4, none⟩ = some (.bool gd)) ∧ Hid (LP w0 Bk R a b c (tellN nw t2 (nobody wk)) (beP a nw P s.data.toList wk t2) (tellN nw t2 (nobody wk)) (beP a nw P s.data.toList wk t2) [(X, CallX kd wk dn s gd)] w')) := fun W hW => by
      refine (hW.out.rbeat s wk t2).mono ?_
      rintro e w' ⟨rfl, r1⟩
      exact ⟨rfl, hjc r1, r1⟩
    clear hjc
    generalize leE nw P s.data.toList wk t2 = er at HB HR
    generalize (beP a nw P s.data.toList wk t2) = P1 at HB HR
    generalize (tellN nw t2 (nobody wk)) = n1 at HB HR
    go_wp2_with (first | (go_at_call 9; refine (HC5.out _).mono ?_; rintro e w' ⟨rfl, hw⟩; subst w') | fail)
    go_region_held3 (fun w' => w'.cell? ⟨X, 1, none⟩ = some (.int .i64 wk) ∧ w'.cell? ⟨X, 3, none⟩ = some (.string s) ∧ w'.cell? ⟨X, 4, none⟩ = some (.bool gd))
      (first | with_reducible exact HJ.out | with_reducible assumption)
      (first
        | (go_at_call 14; refine HB.out.mono ?_; rintro e w4 ⟨rfl, hc4, hs4⟩)
        | (go_at_call 15; refine (HR.out _ (by assumption)).mono ?_; rintro e w5 ⟨rfl, hc5, hs5⟩)
        | fail)
    all_goals
      go_wp2
      rw [HTL.out]
      refine tellL _ _ _ _ _ _ _ _ _ _ _ _ _ _ _ _ _ _ _ _ _ _ _ _ _ _ _ _ _ _ _ _ _ _ _ _ _ _ _ _ _ _ _ _ _ _ _ _ _ _ _ _ _ _ _ _ _ _ _ _ _ _ _ _ _ _ _ _ _ _ _ _ _ _ _ _ _ _ _ _ _ _ _ _ _ _ _ _ _ _ _ _ _ _ _ _ _ _ _ _ _ _ _ _ _ _ _ _ _ _ _ _ _ _ _ _ _ _ _ _ _ _ _ _ _ _ _ _ _ _ _ _ _ _ _ _ _ _ _ _ _ _ _ _ _ _ _ _ _ _ _ _ _ _ _ _ _ _ _ _ _ _ _ _ _ _ _ _ _ _ _ _ _ _ _ _ _ _ _ _ _ _ _ _ _ _ _ _ _ _ _ _ _ _ _ _ _ _ _ _ _ _ _ _ _ _ _ _ _ _ _ _ _ _ _ _ _ _ _ _ _ _ _ _ _ _ _ _ _ _ _ _ _ _ w5 hs5.out HL.out.2.1 _ ?_
      intro u4 u15 u16 u17 u18 u19 u20 u166 u167 u168 u169 u170 u171 u172 u173 u174 u175 u176 u177 u178 u179 u180 u181 u182 u183 u184 u185 u186 u187 u188 u189 u190 u191 u192 u193 u194 u195 u196 u197 u198 u199 u200 u201 u202 u203 u204 u205 u206 u207 u208 u209 u210 u211 u212 u213 u214 u215 u216 u217 u218 u219 u220 u221 u222 u223 u224 u225 u226 u227 u228 u229 u230 u231 u232 u233 u234 u235 u236 w6 h6
      exact HX.out _ _ _ _ _ _ _ _ _ _ _ _ _ _ _ _ _ _ _ _ _ _ _ _ _ _ _ _ _ _ _ _ _ _ _ _ _ _ _ _ _ _ _ _ _ _ _ _ _ _ _ _ _ _ _ _ _ _ _ _ _ _ _ _ _ _ _ _ _ _ _ _ _ _ _ _ _ _ _ _ _ _ _ _ _ _ _ _ _ _ _ _ _ _ _ _ _ _ _ _ _ _ _ _ _ _ _ _ _ _ _ _ _ _ _ _ _ _ _ _ _ _ _ _ _ _ _ _ _ _ _ _ _ _ _ _ _ _ _ _ _ _ _ _ _ _ _ _ _ _ _ _ _ _ _ _ _ _ _ _ _ _ _ _ _ _ _ _ _ _ _ _ ⟨_, _, h6.out⟩
  · have HB : Hid (Calls Try.prog 16 #[.pointer (some ⟨Bk, 0, none⟩), .string s, .int .i64 wk, .int .i64 t2, .bool gd] w.drew fun e w' => e = .returned (.int .i64 (leE nw P s.data.toList wk t2)) ∧ (w'.cell? ⟨X, 1, none⟩ = some (.int .i64 wk) ∧ w'.cell? ⟨X, 3, none⟩ = some (.string s) ∧ w'.cell? ⟨X, 4, none⟩ = some (.bool gd)) ∧ Hid (LP w0 Bk R a b c (tellN nw t2 (nobody wk)) (doP nw P s.data.toList wk t2 gd) nw P [(X, CallX kd wk dn s gd)] w')) := by
      refine (HL.out.1.drew.done s HL.out.2.1 wk t2 HL.out.2.2 gd).mono ?_
      rintro e w' ⟨rfl, r1⟩
      exact ⟨rfl, hjc r1, r1⟩
    have HR : Hid (∀ W, Hid (LP w0 Bk R a b c (tellN nw t2 (nobody wk)) (doP nw P s.data.toList wk t2 gd) nw P [(X, CallX kd wk dn s gd)] W) → Calls Try.prog 17 #[.pointer (some ⟨R, 0, none⟩), .string s, .int .i64 wk, .int .i64 t2, .bool gd] W fun e w' => e = .returned (.int .i64 (leE nw P s.data.toList wk t2)) ∧ (w'.cell? ⟨X, 1, none⟩ = some (.int .i64 wk) ∧ w'.cell? ⟨X, 3, none⟩ = some (.string s) ∧ w'.cell? ⟨X, 4, none⟩ = some (.bool gd)) ∧ Hid (LP w0 Bk R a b c (tellN nw t2 (nobody wk)) (doP nw P s.data.toList wk t2 gd) (tellN nw t2 (nobody wk)) (doP nw P s.data.toList wk t2 gd) [(X, CallX kd wk dn s gd)] w')) := fun W hW => by
      refine (hW.out.rdone s wk t2 gd).mono ?_
      rintro e w' ⟨rfl, r1⟩
      exact ⟨rfl, hjc r1, r1⟩
    clear hjc
    generalize leE nw P s.data.toList wk t2 = er at HB HR
    generalize (doP nw P s.data.toList wk t2 gd) = P1 at HB HR
    generalize (tellN nw t2 (nobody wk)) = n1 at HB HR
    go_wp2_with (first | (go_at_call 9; refine (HC5.out _).mono ?_; rintro e w' ⟨rfl, hw⟩; subst w') | fail)
    go_region_held3 (fun w' => w'.cell? ⟨X, 1, none⟩ = some (.int .i64 wk) ∧ w'.cell? ⟨X, 3, none⟩ = some (.string s) ∧ w'.cell? ⟨X, 4, none⟩ = some (.bool gd))
      (first | with_reducible exact HJ.out | with_reducible assumption)
      (first
        | (go_at_call 16; refine HB.out.mono ?_; rintro e w4 ⟨rfl, hc4, hs4⟩)
        | (go_at_call 17; refine (HR.out _ (by assumption)).mono ?_; rintro e w5 ⟨rfl, hc5, hs5⟩)
        | fail)
    all_goals
      go_wp2
      rw [HTL.out]
      refine tellL _ _ _ _ _ _ _ _ _ _ _ _ _ _ _ _ _ _ _ _ _ _ _ _ _ _ _ _ _ _ _ _ _ _ _ _ _ _ _ _ _ _ _ _ _ _ _ _ _ _ _ _ _ _ _ _ _ _ _ _ _ _ _ _ _ _ _ _ _ _ _ _ _ _ _ _ _ _ _ _ _ _ _ _ _ _ _ _ _ _ _ _ _ _ _ _ _ _ _ _ _ _ _ _ _ _ _ _ _ _ _ _ _ _ _ _ _ _ _ _ _ _ _ _ _ _ _ _ _ _ _ _ _ _ _ _ _ _ _ _ _ _ _ _ _ _ _ _ _ _ _ _ _ _ _ _ _ _ _ _ _ _ _ _ _ _ _ _ _ _ _ _ _ _ _ _ _ _ _ _ _ _ _ _ _ _ _ _ _ _ _ _ _ _ _ _ _ _ _ _ _ _ _ _ _ _ _ _ _ _ _ _ _ _ _ _ _ _ _ _ _ _ _ _ _ _ _ _ _ _ _ _ _ _ w5 hs5.out HL.out.2.1 _ ?_
      intro u4 u15 u16 u17 u18 u19 u20 u166 u167 u168 u169 u170 u171 u172 u173 u174 u175 u176 u177 u178 u179 u180 u181 u182 u183 u184 u185 u186 u187 u188 u189 u190 u191 u192 u193 u194 u195 u196 u197 u198 u199 u200 u201 u202 u203 u204 u205 u206 u207 u208 u209 u210 u211 u212 u213 u214 u215 u216 u217 u218 u219 u220 u221 u222 u223 u224 u225 u226 u227 u228 u229 u230 u231 u232 u233 u234 u235 u236 w6 h6
      exact HX.out _ _ _ _ _ _ _ _ _ _ _ _ _ _ _ _ _ _ _ _ _ _ _ _ _ _ _ _ _ _ _ _ _ _ _ _ _ _ _ _ _ _ _ _ _ _ _ _ _ _ _ _ _ _ _ _ _ _ _ _ _ _ _ _ _ _ _ _ _ _ _ _ _ _ _ _ _ _ _ _ _ _ _ _ _ _ _ _ _ _ _ _ _ _ _ _ _ _ _ _ _ _ _ _ _ _ _ _ _ _ _ _ _ _ _ _ _ _ _ _ _ _ _ _ _ _ _ _ _ _ _ _ _ _ _ _ _ _ _ _ _ _ _ _ _ _ _ _ _ _ _ _ _ _ _ _ _ _ _ _ _ _ _ _ _ _ _ _ _ _ _ _ ⟨_, _, h6.out⟩
  · obtain ⟨T, hT⟩ : ∃ T, T = tellT nw t2 false P := ⟨_, rfl⟩
    obtain ⟨te, hte⟩ : ∃ te, te = tellE nw t2 false := ⟨_, rfl⟩
    obtain ⟨n, hn⟩ : ∃ n, n = T.length := ⟨_, rfl⟩
    have HB : Hid (Calls Try.prog 18 #[.pointer (some ⟨Bk, 0, none⟩), .int .i64 t2] w fun e w' => ∃ ao cap, e = .returned (.tuple #[.slice ao n cap, .int .i64 te]) ∧ Hid (∃ F2, LP w0 Bk R a b c (tellN nw t2 false) (tellP nw t2 false P) nw P (F2 ++ [(X, CallX kd wk dn s gd)]) w' ∧ ∀ W : World, (∀ x ∈ F2, W.heap[x.1]? = some x.2) → W.ownsRow w.heap.size 9 1 (.slice ao T.length cap) T.length (T.map encStr))) := by
      rw [hn, hte, hT]
      exact HL.out.1.tick t2
    have HR : Hid (∀ (W : World) (ao : Option Addr) (cap : Nat), Hid (∃ F2, LP w0 Bk R a b c (tellN nw t2 false) (tellP nw t2 false P) nw P (F2 ++ [(X, CallX kd wk dn s gd)]) W ∧ ∀ W : World, (∀ x ∈ F2, W.heap[x.1]? = some x.2) → W.ownsRow w.heap.size 9 1 (.slice ao T.length cap) T.length (T.map encStr)) → Calls Try.prog 19 #[.pointer (some ⟨R, 0, none⟩), .int .i64 t2, .int .i64 1] W fun e w' => ∃ a2 c2, e = .returned (.tuple #[.slice a2 n c2, .int .i64 te]) ∧ Hid (w'.ownsRow w.heap.size 9 1 (.slice ao T.length cap) T.length (T.map encStr) ∧ w'.ownsRow W.heap.size 9 1 (.slice a2 T.length c2) T.length (T.map encStr) ∧ LP w0 Bk R a b c (tellN nw t2 false) (tellP nw t2 false P) (tellN nw t2 false) (tellP nw t2 false P) [(X, CallX kd wk dn s gd)] w')) := fun W ao cap hW => by
      obtain ⟨F2, r1, r2⟩ := hW.out
      refine (r1.rtime t2).mono ?_
      rw [hn, hte]
      rw [hT] at r2 ⊢
      rintro e w' ⟨a2, c2, rfl, r3, r4⟩
      exact ⟨a2, c2, rfl, r2 w' fun x hx => r4.blk (List.mem_append_left _ hx), r3, r4.sub fun x hx => List.mem_append_right _ hx⟩
    have HX2 : Hid (∀ (W : World) (ao a2 : Option Addr) (cap c2 B2 : Nat), Hid (W.ownsRow w.heap.size 9 1 (.slice ao T.length cap) T.length (T.map encStr) ∧ W.ownsRow B2 9 1 (.slice a2 T.length c2) T.length (T.map encStr) ∧ LP w0 Bk R a b c (tellN nw t2 false) (tellP nw t2 false P) (tellN nw t2 false) (tellP nw t2 false P) [(X, CallX kd wk dn s gd)] W) → Calls Try.prog 20 #[.slice ao n cap, .int .i64 te, .int .i64 te, .slice a2 n c2] W fun e w' => e = .returned (.bool true) ∧ Hid (LP w0 Bk R a b c (tellN nw t2 false) (tellP nw t2 false P) (tellN nw t2 false) (tellP nw t2 false P) [(X, CallX kd wk dn s gd)] w')) := fun W ao a2 cap c2 B2 hW => by
      obtain ⟨r1, r2, r3⟩ := hW.out
      rw [hn]
      refine (textsT _ _ te T W r1 r2 ?_ fun e => ?_).mono ?_
      · have := tellT_len (nw := nw) (now := t2) (nb := false) (P := P)
        have := HL.out.1.pi.len
        rw [hT]; omega
      · rw [hT]; exact tellT_no (by rw [← hte]; exact e)
      · rintro e w' ⟨rfl, m, rfl⟩
        exact ⟨rfl, r3.drewN m⟩
    clear hjc hn hte hT HJ
    go_wp2_with (first
      | (go_at_call 9; refine (HC5.out _).mono ?_; rintro e w' ⟨rfl, hw⟩; subst w')
      | (go_at_call 18; refine HB.out.mono ?_; rintro e w4 ⟨a4, c4, rfl, R4⟩)
      | (go_at_call 19; refine (HR.out _ _ _ R4).mono ?_; rintro e w5 ⟨a5, c5, rfl, R5⟩)
      | (go_at_call 20; refine (HX2.out _ _ _ _ _ _ R5).mono ?_; rintro e w6 ⟨rfl, R6⟩)
      | fail)
    rw [HTL.out]
    refine tellL _ _ _ _ _ _ _ _ _ _ _ _ _ _ _ _ _ _ _ _ _ _ _ _ _ _ _ _ _ _ _ _ _ _ _ _ _ _ _ _ _ _ _ _ _ _ _ _ _ _ _ _ _ _ _ _ _ _ _ _ _ _ _ _ _ _ _ _ _ _ _ _ _ _ _ _ _ _ _ _ _ _ _ _ _ _ _ _ _ _ _ _ _ _ _ _ _ _ _ _ _ _ _ _ _ _ _ _ _ _ _ _ _ _ _ _ _ _ _ _ _ _ _ _ _ _ _ _ _ _ _ _ _ _ _ _ _ _ _ _ _ _ _ _ _ _ _ _ _ _ _ _ _ _ _ _ _ _ _ _ _ _ _ _ _ _ _ _ _ _ _ _ _ _ _ _ _ _ _ _ _ _ _ _ _ _ _ _ _ _ _ _ _ _ _ _ _ _ _ _ _ _ _ _ _ _ _ _ _ _ _ _ _ _ _ _ _ _ _ _ _ _ _ _ _ _ _ _ _ _ _ _ _ _ w6 R6.out HL.out.2.1 _ ?_
    intro u4 u15 u16 u17 u18 u19 u20 u166 u167 u168 u169 u170 u171 u172 u173 u174 u175 u176 u177 u178 u179 u180 u181 u182 u183 u184 u185 u186 u187 u188 u189 u190 u191 u192 u193 u194 u195 u196 u197 u198 u199 u200 u201 u202 u203 u204 u205 u206 u207 u208 u209 u210 u211 u212 u213 u214 u215 u216 u217 u218 u219 u220 u221 u222 u223 u224 u225 u226 u227 u228 u229 u230 u231 u232 u233 u234 u235 u236 w7 h7
    exact HX.out _ _ _ _ _ _ _ _ _ _ _ _ _ _ _ _ _ _ _ _ _ _ _ _ _ _ _ _ _ _ _ _ _ _ _ _ _ _ _ _ _ _ _ _ _ _ _ _ _ _ _ _ _ _ _ _ _ _ _ _ _ _ _ _ _ _ _ _ _ _ _ _ _ _ _ _ _ _ _ _ _ _ _ _ _ _ _ _ _ _ _ _ _ _ _ _ _ _ _ _ _ _ _ _ _ _ _ _ _ _ _ _ _ _ _ _ _ _ _ _ _ _ _ _ _ _ _ _ _ _ _ _ _ _ _ _ _ _ _ _ _ _ _ _ _ _ _ _ _ _ _ _ _ _ _ _ _ _ _ _ _ _ _ _ _ _ _ _ _ _ _ _ ⟨_, _, h7.out⟩
end Go.Proofs.Ytocahjnibdgmoaa
