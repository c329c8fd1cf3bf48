/- The document's own Sum: the words of a block (2). -/
import Derived.Test.YtagelkaenbdlaaaDoorRSumW
namespace Go.Proofs.YtagelkaenbdlaaaDoor
open Go.RowKit

/-- Bytes in a block. -/
def PAt (w : World) (g : Nat) (P : List UInt8) : Prop := ∀ j, j < P.length → w.cell? ⟨g, j, none⟩ = some (.int .u8 ((P.getD j 0).toNat : Nat))
theorem PAt.up {B : Nat} {w w' : World} {g : Nat} {P : List UInt8} (h : PAt w g P) (hb : Below B w w') (hg : g < B) : PAt w' g P := fun j hj => (hb.cell (p := ⟨g, j, none⟩) hg).trans (h j hj)
theorem byte_blk (P : List UInt8) (b k : Nat) (hk : k < 64) : byteN (blk P b) k = (P.getD (64 * b + k) 0).toNat := by
  unfold byteN blk
  rw [List.getD_eq_getElem?_getD, List.getD_eq_getElem?_getD]
  simp [hk]
/-- So many bytes, the greatest first. -/
def beF (s : ByteArray) (o : Nat) : Nat → Nat
  | 0 => 0
  | m + 1 => 256 * beF s o m + byteN s (o + m)
theorem byteN_lt (s : ByteArray) (k : Nat) : byteN s k < 256 := (s.data.toList.getD k 0).toNat_lt
theorem beF_lt (s : ByteArray) (o m : Nat) (hm : m ≤ 4) : beF s o m < 2 ^ 32 := by
  have h0 := byteN_lt s o
  have h1 := byteN_lt s (o + 1)
  have h2 := byteN_lt s (o + 2)
  have h3 := byteN_lt s (o + 3)
  match m, hm with
  | 0, _ => show 0 < 2 ^ 32; decide
  | 1, _ => simp only [beF, Nat.add_zero]; omega
  | 2, _ => simp only [beF, Nat.add_zero]; omega
  | 3, _ => simp only [beF, Nat.add_zero]; omega
  | 4, _ => simp only [beF, Nat.add_zero]; omega
theorem beF_four (s : ByteArray) (o : Nat) : beF s o 4 = be4N (byteN s o) (byteN s (o + 1)) (byteN s (o + 2)) (byteN s (o + 3)) := by
  simp only [beF, be4N, Nat.add_zero]
  omega
theorem wr61 (n : Nat) (h : n < 2 ^ 62) : IntKind.i64.wrap (n : Int) = (n : Int) := by rw [IntKind.wrap_i64]; omega
theorem wsN_len (s : ByteArray) (t : Nat) : (wsN s t).length = t := by
  induction t with
  | zero => rfl
  | succ t ih => simp [wsN, ih]
theorem sig0_facts (x : Nat) (hx : x < 2 ^ 32) :
    Hid (∀ W : World, Calls Tryd.prog 37 #[.int .i64 x, .int .i64 7] W fun e' w' => e' = .returned (.int .i64 (rightN x 7 : Nat)) ∧ ∃ m, w' = W.drewN m) ∧
    Hid (∀ W : World, Calls Tryd.prog 37 #[.int .i64 x, .int .i64 18] W fun e' w' => e' = .returned (.int .i64 (rightN x 18 : Nat)) ∧ ∃ m, w' = W.drewN m) ∧
    Hid (∀ (W : World) (b : Nat), W.cell? ⟨b, 0, none⟩ = some (.int .i64 (rightN x 7 : Nat)) → W.cell? ⟨b, 1, none⟩ = some (.int .i64 (rightN x 18 : Nat)) → W.cell? ⟨b, 2, none⟩ = some (.int .i64 (x / 8 : Nat)) → Calls Tryd.prog 36 #[.slice (some ⟨b, 0, none⟩) 3 3] W fun e' w' => e' = .returned (.int .i64 (sig0N x : Nat)) ∧ w' = W) := by
  have l1 := (right_lt x 7 hx (by decide)).2
  have l2 := (right_lt x 18 hx (by decide)).2
  exact ⟨fun W => Right_any x 7 W hx (by decide) (by decide), fun W => Right_any x 18 W hx (by decide) (by decide), fun W b => Xor_3 W b _ _ _ l1 l2 (by omega) _ rfl⟩
theorem sig1_facts (x : Nat) (hx : x < 2 ^ 32) :
    Hid (∀ W : World, Calls Tryd.prog 37 #[.int .i64 x, .int .i64 17] W fun e' w' => e' = .returned (.int .i64 (rightN x 17 : Nat)) ∧ ∃ m, w' = W.drewN m) ∧
    Hid (∀ W : World, Calls Tryd.prog 37 #[.int .i64 x, .int .i64 19] W fun e' w' => e' = .returned (.int .i64 (rightN x 19 : Nat)) ∧ ∃ m, w' = W.drewN m) ∧
    Hid (∀ (W : World) (b : Nat), W.cell? ⟨b, 0, none⟩ = some (.int .i64 (rightN x 17 : Nat)) → W.cell? ⟨b, 1, none⟩ = some (.int .i64 (rightN x 19 : Nat)) → W.cell? ⟨b, 2, none⟩ = some (.int .i64 (x / 1024 : Nat)) → Calls Tryd.prog 36 #[.slice (some ⟨b, 0, none⟩) 3 3] W fun e' w' => e' = .returned (.int .i64 (sig1N x : Nat)) ∧ w' = W) := by
  have l1 := (right_lt x 17 hx (by decide)).2
  have l2 := (right_lt x 19 hx (by decide)).2
  exact ⟨fun W => Right_any x 17 W hx (by decide) (by decide), fun W => Right_any x 19 W hx (by decide) (by decide), fun W b => Xor_3 W b _ _ _ l1 l2 (by omega) _ rfl⟩
theorem w8_nat (x d : Nat) (hd : d = x / 8) (hx : x < 2 ^ 32) : wrap64 ((x : Int) / 8) = (d : Int) := by unfold wrap64; omega
theorem w10_nat (x d : Nat) (hd : d = x / 1024) (hx : x < 2 ^ 32) : wrap64 ((x : Int) / 1024) = (d : Int) := by unfold wrap64; omega
theorem sz1 (W : World) (o : Obj) (k n : Nat) : W.heap.size + 1 = (((W.drewN k).alloc o).drewN n).heap.size := by
  show _ = ((W.drewN k).alloc o).heap.size
  rw [World.size_alloc]
  rfl
theorem ows_dn {w : World} {base : Nat} {e : TypeId} {size : Nat} {v : Value} {n : Nat} {xs : List Value} (h : w.ownsRow base e size v n xs) (k : Nat) : (w.drewN k).ownsRow base e size v n xs := h
theorem ows_dr {w : World} {base : Nat} {e : TypeId} {size : Nat} {v : Value} {n : Nat} {xs : List Value} (h : w.ownsRow base e size v n xs) : w.drew.ownsRow base e size v n xs := h
theorem bl0_al {B : Nat} {a w : World} (h : Below B a w) (hB : B ≤ a.heap.size) (o : Obj) : Below B a (w.alloc o) := h.alloc (Nat.le_trans hB h.size) o

set_option maxHeartbeats 40000000 in
set_option maxRecDepth 100000 in
theorem loop4 (x0 x1 x2 x4 x5 x6 x7 x11 x12 x13 x14 x15 x16 x17 x18 x19 x20 x21 x22 x23 x24 x25 x26 x27 x28 x29 x30 x31 x32 x33 x34 x35 x36 x37 x38 x39 x40 x41 x42 x43 x44 x45 x46 x47 x48 x49 x50 x51 x52 x53 x54 x55 x56 x57 x58 x59 x60 x61 x62 x63 x64 x65 x66 x67 x68 x69 x70 x71 x72 x73 x74 x75 x76 x77 x78 x79 x80 x81 x82 x83 x84 x85 x86 x87 x88 x89 x90 x91 x92 x93 x94 x95 x96 x97 x98 x99 x100 x101 x102 x103 x104 x105 x106 x107 x108 x109 x110 x111 x112 x113 x114 x115 x116 x117 x118 x119 x120 x121 x122 x123 x124 x125 x126 x127 x128 x129 x130 x131 x132 x133 x134 x135 x136 x137 x138 x139 x140 x141 x142 x143 x144 x145 x146 x147 x148 x149 x150 x151 x152 x153 x154 x155 x156 x157 x158 x159 x160 x161 x162 x163 x164 x165 x166 x167 x168 x169 x170 x171 x172 x173 x174 x175 x176 x177 x178 x179 x180 x181 x182 x183 x184 x185 x186 x187 x188 x189 x190 x191 x192 x193 x194 x195 x196 x197 x198 x199 x200 x201 x202 x203 x204 x205 x206 x207 x208 x209 x210 x211 x212 x213 x214 x215 x216 x217 x218 x219 x220 x221 x222 x223 x224 x225 x226 x227 x228 x229 x230 x231 x232 x233 x234 x235 x236 x237 x238 x239 x240 x241 x242 x243 x244 x245 x246 x247 x248 x249 x250 x251 x252 x253 x254 x255 x256 x257 x258 x259 x260 x261 x262 x263 x264 x265 x266 x267 x268 x269 x270 x271 x272 x273 x274 x275 x276 x277 x278 x279 x280 x281 x282 x283 : Value) (w : World) (P : List UInt8) (gp pc b : Nat) (hP : PAt w gp P) (hg : gp < w.heap.size) (hpl : P.length < 2 ^ 50) (hb64 : 64 * b + 64 ≤ P.length) (Q0 : Exit → Act → World → Prop)
    (hexit : ∀ (u10 u11 u12 u13 u14 u15 u16 u65 u66 u67 u68 u69 u70 u71 u72 u73 u74 u75 u76 u77 u78 u79 u80 u81 u82 u83 u84 u85 u86 u87 u88 u89 u90 u91 u92 u93 u94 u95 u96 u97 u98 u99 u100 u101 u102 u103 u104 u105 u106 u107 u108 u109 u110 u111 u112 u113 u114 u115 u116 u117 u118 u119 u120 u121 u122 u123 u124 u125 u126 u127 u128 u129 u130 u131 u132 u133 u134 u135 u136 : Value) (g' c' : Nat) (w' : World), LAt w' g' (wsN (blk P b) 64) → g' < w'.heap.size → Below w.heap.size w w' → Q0 (.exit 6) ⟨#[x0, x1, x2, .slice (some ⟨gp, 0, none⟩) P.length pc, x4, x5, x6, x7, .int .i64 (64 * b : Nat), .slice (some ⟨g', 0, none⟩) 64 c', u10, u11, u12, u13, u14, u15, u16, x17, x18, x19, x20, x21, x22, x23, x24, x25, x26, x27, x28, x29, x30, x31, x32, x33, x34, x35, x36, x37, x38, x39, x40, x41, x42, x43, x44, x45, x46, x47, x48, x49, x50, x51, x52, x53, x54, x55, x56, x57, x58, x59, x60, x61, x62, x63, x64, u65, u66, u67, u68, u69, u70, u71, u72, u73, u74, u75, u76, u77, u78, u79, u80, u81, u82, u83, u84, u85, u86, u87, u88, u89, u90, u91, u92, u93, u94, u95, u96, u97, u98, u99, u100, u101, u102, u103, u104, u105, u106, u107, u108, u109, u110, u111, u112, u113, u114, u115, u116, u117, u118, u119, u120, u121, u122, u123, u124, u125, u126, u127, u128, u129, u130, u131, u132, u133, u134, u135, u136, x137, x138, x139, x140, x141, x142, x143, x144, x145, x146, x147, x148, x149, x150, x151, x152, x153, x154, x155, x156, x157, x158, x159, x160, x161, x162, x163, x164, x165, x166, x167, x168, x169, x170, x171, x172, x173, x174, x175, x176, x177, x178, x179, x180, x181, x182, x183, x184, x185, x186, x187, x188, x189, x190, x191, x192, x193, x194, x195, x196, x197, x198, x199, x200, x201, x202, x203, x204, x205, x206, x207, x208, x209, x210, x211, x212, x213, x214, x215, x216, x217, x218, x219, x220, x221, x222, x223, x224, x225, x226, x227, x228, x229, x230, x231, x232, x233, x234, x235, x236, x237, x238, x239, x240, x241, x242, x243, x244, x245, x246, x247, x248, x249, x250, x251, x252, x253, x254, x255, x256, x257, x258, x259, x260, x261, x262, x263, x264, x265, x266, x267, x268, x269, x270, x271, x272, x273, x274, x275, x276, x277, x278, x279, x280, x281, x282, x283], []⟩ w') :
    Code.wp Tryd.prog (sub [true, true, true, true, true, true, false, true, false, false, true, false, false, true, false, true, false] (Tryd.f11.body.getD .skip)) Q0 ⟨#[x0, x1, x2, .slice (some ⟨gp, 0, none⟩) P.length pc, x4, x5, x6, x7, .int .i64 (64 * b : Nat), .slice none 0 0, .int .i64 0, x11, x12, x13, x14, x15, x16, x17, x18, x19, x20, x21, x22, x23, x24, x25, x26, x27, x28, x29, x30, x31, x32, x33, x34, x35, x36, x37, x38, x39, x40, x41, x42, x43, x44, x45, x46, x47, x48, x49, x50, x51, x52, x53, x54, x55, x56, x57, x58, x59, x60, x61, x62, x63, x64, x65, x66, x67, x68, x69, x70, x71, x72, x73, x74, x75, x76, x77, x78, x79, x80, x81, x82, x83, x84, x85, x86, x87, x88, x89, x90, x91, x92, x93, x94, x95, x96, x97, x98, x99, x100, x101, x102, x103, x104, x105, x106, x107, x108, x109, x110, x111, x112, x113, x114, x115, x116, x117, x118, x119, x120, x121, x122, x123, x124, x125, x126, x127, x128, x129, x130, x131, x132, x133, x134, x135, x136, x137, x138, x139, x140, x141, x142, x143, x144, x145, x146, x147, x148, x149, x150, x151, x152, x153, x154, x155, x156, x157, x158, x159, x160, x161, x162, x163, x164, x165, x166, x167, x168, x169, x170, x171, x172, x173, x174, x175, x176, x177, x178, x179, x180, x181, x182, x183, x184, x185, x186, x187, x188, x189, x190, x191, x192, x193, x194, x195, x196, x197, x198, x199, x200, x201, x202, x203, x204, x205, x206, x207, x208, x209, x210, x211, x212, x213, x214, x215, x216, x217, x218, x219, x220, x221, x222, x223, x224, x225, x226, x227, x228, x229, x230, x231, x232, x233, x234, x235, x236, x237, x238, x239, x240, x241, x242, x243, x244, x245, x246, x247, x248, x249, x250, x251, x252, x253, x254, x255, x256, x257, x258, x259, x260, x261, x262, x263, x264, x265, x266, x267, x268, x269, x270, x271, x272, x273, x274, x275, x276, x277, x278, x279, x280, x281, x282, x283], []⟩ w := by
  obtain ⟨i0, hi, hz0, hz1, hz2⟩ := info_p infI
  have HX : Hid _ := hexit
  clear hexit
  obtain ⟨at0, hat⟩ : ∃ at0, at0 = 64 * b := ⟨_, rfl⟩
  rw [← hat] at HX
  rw [← hat]
  obtain ⟨pn, hpn⟩ : ∃ pn, pn = P.length := ⟨_, rfl⟩
  rw [← hpn] at HX
  rw [← hpn]
  have HP : Hid (PAt w gp P ∧ gp < w.heap.size ∧ at0 = 64 * b ∧ pn = P.length ∧ pn < 2 ^ 50 ∧ at0 + 64 ≤ pn) := ⟨hP, hg, hat, hpn, by rw [hpn]; exact hpl, by rw [hat, hpn]; exact hb64⟩
  clear hP hg hpl hb64 hat hpn
  conv => arg 2; whnf
  dsimp only
  go_loopw [9, 10] (fun v i wr => ∃ t : Nat, t ≤ 64 ∧ i = .int .i64 t ∧ wr.ownsRow w.heap.size 3 1 v t (ics (wsN (blk P b) t)) ∧ Below w.heap.size w wr) (fun _ i _ => 64 - (intOf i).toNat)
  case atStart => exact ⟨0, by omega, rfl, World.ownsRow_nil _ _ _ _, Below.refl _ _⟩
  case round =>
    obtain ⟨t, ht, rfl, hown, hbl⟩ := hrel
    have HV : Hid (wr.ownsRow w.heap.size 3 1 u9 t (ics (wsN (blk P b) t)) ∧ Below w.heap.size w wr) := ⟨hown, hbl⟩
    clear hown hbl
    by_cases hlt : t < 64
    · have hti : (t : Int) < 64 := by omega
      by_cases h16 : t < 16
      · have h16i : (t : Int) < 16 := by omega
        go_wp2
        go_loop [11, 12] (fun n i => ∃ m : Nat, m ≤ 4 ∧ i = .int .i64 m ∧ n = .int .i64 (beF (blk P b) (4 * t) m : Nat)) (fun _ i => 4 - (intOf i).toNat)
        case atStart => exact ⟨0, by omega, rfl, rfl⟩
        case round =>
          obtain ⟨m, hm, rfl, rfl⟩ := hrel
          by_cases hm4 : m < 4
          · have hmi : (m : Int) < 4 := by omega
            have hbf := beF_lt (blk P b) (4 * t) m hm
            have hbl := byteN_lt (blk P b) (4 * t + m)
            obtain ⟨o3, ho3⟩ : ∃ o3, o3 = at0 + 4 * t + m := ⟨_, rfl⟩
            have hpo := HP.out.2.2.2.2
            have c0 : wr.cell? ⟨gp, o3, none⟩ = some (.int .u8 (byteN (blk P b) (4 * t + m) : Nat)) := by
              obtain ⟨h1, h2, h3, h4, h5, h6⟩ := HP.out
              rw [byte_blk P b _ (by omega), show 64 * b + (4 * t + m) = o3 from by omega]
              exact h1.up HV.out.2 h2 o3 (by omega)
            have HN : Hid (beF (blk P b) (4 * t) (m + 1) = 256 * beF (blk P b) (4 * t) m + byteN (blk P b) (4 * t + m)) := rfl
            generalize byteN (blk P b) (4 * t + m) = cb at c0 HN hbl
            generalize beF (blk P b) (4 * t) m = n at HN hbf
            obtain ⟨z, hz⟩ : ∃ z, z = 4 * t := ⟨_, rfl⟩
            obtain ⟨o2, ho2⟩ : ∃ o2, o2 = at0 + z := ⟨_, rfl⟩
            obtain ⟨n2, hn2⟩ : ∃ n2, n2 = 256 * n := ⟨_, rfl⟩
            obtain ⟨n3, hn3⟩ : ∃ n3, n3 = n2 + cb := ⟨_, rfl⟩
            rw [← hn2, ← hn3] at HN
            have e1 : 4 * (t : Int) = (z : Int) := by omega
            have e2 : (at0 : Int) + (z : Int) = (o2 : Int) := by omega
            have e3 : (o2 : Int) + (m : Int) = (o3 : Int) := by omega
            have e4 : 256 * (n : Int) = (n2 : Int) := by omega
            have e5 : (n2 : Int) + (cb : Int) = (n3 : Int) := by omega
            have d3 : (o3 : Int) < (pn : Int) := by omega
            have f1 := wr61 z (by omega)
            have f2 := wr61 o2 (by omega)
            have f3 := wr61 o3 (by omega)
            have f4 := wr61 n2 (by omega)
            have f5 := wr61 n3 (by omega)
            have f6 := wr61 cb (by omega)
            clear hz ho2 ho3 hn2 hn3 hbf hbl hpo
            go_wp2
            refine ⟨⟨m + 1, by omega, by go_num, by rw [HN.out]⟩, by simp [intOf]; omega⟩
          · obtain rfl : m = 4 := by omega
            have hbf := beF_lt (blk P b) (4 * t) 4 (by omega)
            have HN : Hid (wsN (blk P b) (t + 1) = wsN (blk P b) t ++ [beF (blk P b) (4 * t) 4]) := by
              show wsN (blk P b) t ++ [wnextN (blk P b) (wsN (blk P b) t) t] = _
              unfold wnextN
              rw [if_pos h16, beF_four]
            generalize beF (blk P b) (4 * t) 4 = n at HN hbf
            go_wp2_with (at_builtin; refine wpList_append_own _ rfl _ _ 57 rfl w.heap.size 3 i0 (.int .i64 0) 1 8 Tryd.underlying57 hi hz0 hz1 hz2 rfl (by decide) _ _ _ rfl (HV.out.1.alloc _) ⟨_, 0, none⟩ 1 1 [.int .i64 (n : Int)] rfl rfl ?c1 ?c2 ?c3 ?c4 ?c5 ?_)
            case c2 => rfl
            case c3 => unfold maxLen; omega
            case c4 => omega
            case c5 => have := HV.out.2.size; omega
            intro v' w4 hown4 hg4 _
            have HB4 : Hid (Below w.heap.size w w4) := (HV.out.2.alloc HV.out.2.size _).grown hg4 (by have := HV.out.2.size; rw [World.size_alloc]; omega) (fun j hj => (HV.out.1.lt j hj).1)
            have HO4 : Hid (w4.ownsRow w.heap.size 3 1 v' (t + 1) (ics (wsN (blk P b) (t + 1)))) := by
              rw [HN.out, show ics (wsN (blk P b) t ++ [n]) = ics (wsN (blk P b) t) ++ [.int .i64 (n : Int)] from by simp [ics]]
              exact hown4
            clear hown4 hg4
            go_wp2
            refine ⟨⟨t + 1, by omega, by go_num, HO4.out, HB4.out⟩, by simp [intOf]; omega⟩
      · have h16i : (16 : Int) ≤ (t : Int) := by omega
        have HT16 : Hid (16 ≤ t) := by show 16 ≤ t; omega
        have HLT : Hid (∀ x ∈ wsN (blk P b) t, x < 2 ^ 32) := (ws_nat (blk P b) t).2
        obtain ⟨g, cap, hug, hgb, hgs⟩ := HV.out.1.form (by omega)
        subst hug
        have c1 : wr.cell? ⟨g, t - 15, none⟩ = some (.int .i64 ((wsN (blk P b) t).getD (t - 15) 0 : Nat)) := (HV.out.1.cellAt (t - 15) (by omega)).trans (ics_get _ _ (by rw [wsN_len]; omega))
        have c2 : wr.cell? ⟨g, t - 2, none⟩ = some (.int .i64 ((wsN (blk P b) t).getD (t - 2) 0 : Nat)) := (HV.out.1.cellAt (t - 2) (by omega)).trans (ics_get _ _ (by rw [wsN_len]; omega))
        have l1 := get_lt _ HLT.out (t - 15)
        have l2 := get_lt _ HLT.out (t - 2)
        have HN : Hid (wsN (blk P b) (t + 1) = wsN (blk P b) t ++ [((wsN (blk P b) t).getD (t - 16) 0 + sig0N ((wsN (blk P b) t).getD (t - 15) 0) + (wsN (blk P b) t).getD (t - 7) 0 + sig1N ((wsN (blk P b) t).getD (t - 2) 0)) % 4294967296]) := by
          show wsN (blk P b) t ++ [wnextN (blk P b) (wsN (blk P b) t) t] = _
          unfold wnextN
          rw [if_neg h16]
        have HLN : Hid ((wsN (blk P b) t).length = t) := wsN_len _ _
        generalize (wsN (blk P b) t).getD (t - 15) 0 = x at c1 l1 HN
        generalize (wsN (blk P b) t).getD (t - 2) 0 = y at c2 l2 HN
        obtain ⟨i15, h15⟩ : ∃ i15, i15 = t - 15 := ⟨_, rfl⟩
        obtain ⟨i2, h2⟩ : ∃ i2, i2 = t - 2 := ⟨_, rfl⟩
        rw [← h15] at c1
        rw [← h2] at c2
        have e15 : (t : Int) - 15 = (i15 : Int) := by omega
        have e2 : (t : Int) - 2 = (i2 : Int) := by omega
        have d15 : (i15 : Int) < (t : Int) := by omega
        have d2 : (i2 : Int) < (t : Int) := by omega
        obtain ⟨HA1, HA2, HXO⟩ := sig0_facts x l1
        obtain ⟨HB1, HB2, HYO⟩ := sig1_facts y l2
        have HS : Hid (sig0N x < 2 ^ 32 ∧ sig1N y < 2 ^ 32) := ⟨(sig0_nat x l1).2, (sig1_nat y l2).2⟩
        generalize rightN x 7 = p1 at HA1 HXO
        generalize rightN x 18 = p2 at HA2 HXO
        generalize rightN y 17 = r1 at HB1 HYO
        generalize rightN y 19 = r2 at HB2 HYO
        generalize sig0N x = s0 at HXO HN HS
        generalize sig1N y = s1 at HYO HN HS
        obtain ⟨x8, hx8⟩ : ∃ x8, x8 = x / 8 := ⟨_, rfl⟩
        obtain ⟨y10, hy10⟩ : ∃ y10, y10 = y / 1024 := ⟨_, rfl⟩
        rw [← hx8] at HXO
        rw [← hy10] at HYO
        have HW8 : Hid (wrap64 ((x : Int) / 8) = (x8 : Int)) := w8_nat x x8 hx8 l1
        have HW10 : Hid (wrap64 ((y : Int) / 1024) = (y10 : Int)) := w10_nat y y10 hy10 l2
        have f1 := wr60 i15 (by omega)
        have f2 := wr60 i2 (by omega)
        clear hx8 hy10 h15 h2 l1 l2
        go_wp2
        go_quiet (fail)
        go_wp2_with fail
        refine (HA1.out _).mono ?_
        rintro e w' ⟨rfl, m1, rfl⟩
        go_wp2_with fail
        refine (HA2.out _).mono ?_
        rintro e w' ⟨rfl, m2, rfl⟩
        go_wp2_with fail
        refine (HXO.out _ _ (al_at _ _ _ _ 0 _ rfl rfl) (al_at _ _ _ _ 1 _ rfl rfl) (al_at _ _ _ _ 2 _ rfl (congrArg (fun z => some (Value.int .i64 z)) HW8.out))).mono ?_
        rintro e w' ⟨rfl, rfl⟩
        go_wp2_with fail
        refine (HB1.out _).mono ?_
        rintro e w' ⟨rfl, m3, rfl⟩
        go_wp2_with fail
        refine (HB2.out _).mono ?_
        rintro e w' ⟨rfl, m4, rfl⟩
        go_wp2_with fail
        refine (HYO.out _ _ (al_at _ _ _ _ 0 _ ?z1 rfl) (al_at _ _ _ _ 1 _ ?z2 rfl) (al_at _ _ _ _ 2 _ ?z3 (congrArg (fun z => some (Value.int .i64 z)) HW10.out))).mono ?_
        case z1 => exact sz1 _ _ _ _
        case z2 => exact sz1 _ _ _ _
        case z3 => exact sz1 _ _ _ _
        rintro e w' ⟨rfl, rfl⟩
        go_wp2
        refine r27 _ _ _ _ _ _ _ _ _ _ _ _ _ _ _ _ _ _ _ _ _ _ _ _ _ _ _ _ _ _ _ _ _ _ _ _ _ _ _ _ _ _ _ _ _ _ _ _ _ _ _ _ _ _ _ _ _ _ _ _ _ _ _ _ _ _ _ _ _ _ _ _ _ _ _ _ _ _ _ _ _ _ _ _ _ _ _ _ _ _ _ _ _ _ _ _ _ _ _ _ _ _ _ _ _ _ _ _ _ _ _ _ _ _ _ _ _ _ _ _ _ _ _ _ _ _ _ _ _ _ _ _ _ _ _ _ _ _ _ _ _ _ _ _ _ _ _ _ _ _ _ _ _ _ _ _ _ _ _ _ _ _ _ _ _ _ _ _ _ _ _ _ _ _ _ _ _ _ _ _ _ _ _ _ _ _ _ _ _ _ _ _ _ _ _ _ _ _ _ _ _ _ _ _ _ _ _ _ _ _ _ _ _ _ _ _ _ _ _ _ _ _ _ _ _ _ _ _ _ _ _ _ _ _ _ _ _ _ _ _ _ _ _ _ _ _ _ _ _ _ _ _ _ _ _ _ _ _ _ _ _ _ _ _ _ _ _ _ _ _ _ _ _ _ _ _ _ _ _ _ w _ t g cap s0 s1 (wsN (blk P b) t) HT16.out hlt HLN.out HLT.out HS.out.1 HS.out.2 ?hown ?hbl _ ?_
        case hown => repeat' (with_reducible (first | exact HV.out.1 | refine World.ownsRow.alloc ?_ _ | refine ows_dn ?_ _ | refine ows_dr ?_))
        case hbl => repeat' (with_reducible (first | exact HV.out.2 | refine bl_al ?_ _ | refine bl_dn ?_ _ | refine bl_dr ?_))
        intro _ _ _ _ _ _ _ _ _ _ _ _ _ _ _ _ _ _ _ g' cap' w5 hown5 hb5
        have H5 : Hid (w5.ownsRow w.heap.size 3 1 (.slice (some ⟨g', 0, none⟩) (t + 1) cap') (t + 1) (ics (wsN (blk P b) (t + 1))) ∧ Below w.heap.size w w5) := ⟨by rw [HN.out]; exact hown5, hb5⟩
        clear hown5 hb5 f1 f2
        go_wp2
        refine ⟨⟨t + 1, by omega, by go_num, H5.out.1, H5.out.2⟩, by simp [intOf]; omega⟩
    · obtain rfl : t = 64 := by omega
      obtain ⟨g, cap, hug, hgb, hgs⟩ := HV.out.1.form (by omega)
      subst hug
      go_wp2
      exact HX.out _ _ _ _ _ _ _ _ _ _ _ _ _ _ _ _ _ _ _ _ _ _ _ _ _ _ _ _ _ _ _ _ _ _ _ _ _ _ _ _ _ _ _ _ _ _ _ _ _ _ _ _ _ _ _ _ _ _ _ _ _ _ _ _ _ _ _ _ _ _ _ _ _ _ _ _ _ _ _ _ _ _ (fun j hj => by rw [wsN_len] at hj; exact (HV.out.1.cellAt j (by omega)).trans (ics_get _ _ (by rw [wsN_len]; omega))) hgs HV.out.2
end Go.Proofs.YtagelkaenbdlaaaDoor
