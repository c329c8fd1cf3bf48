/- The document's own Sum: the words of a block (2). -/
import Derived.ArgAppend
import Derived.Laws.IdiomStrings
import Derived.Test.YtcdgdmhlbgbklaaGreatDoorTg8
namespace Go.Proofs.YtcdgdmhlbgbklaaGreatDoor
open Go.RowKit

/-- Bytes in a block. -/
def PAt (w : World) (g : Nat) (P : List UInt8) : Prop := ∀ j, j < P.length → w.cell? ⟨g, j, none⟩ = some (.int .u8 ((P.getD j 0).toNat : Nat))
theorem PAt.up {B : Nat} {w w' : World} {g : Nat} {P : List UInt8} (h : PAt w g P) (hb : Below B w w') (hg : g < B) : PAt w' g P := fun j hj => (hb.cell (p := ⟨g, j, none⟩) hg).trans (h j hj)
theorem byte_blk (P : List UInt8) (b k : Nat) (hk : k < 64) : byteN (blk P b) k = (P.getD (64 * b + k) 0).toNat := by
  unfold byteN blk
  rw [List.getD_eq_getElem?_getD, List.getD_eq_getElem?_getD]
  simp [hk]
/-- So many bytes, the greatest first. -/
def beF (s : ByteArray) (o : Nat) : Nat → Nat
  | 0 => 0
  | m + 1 => 256 * beF s o m + byteN s (o + m)
theorem byteN_lt (s : ByteArray) (k : Nat) : byteN s k < 256 := (s.data.toList.getD k 0).toNat_lt
theorem beF_lt (s : ByteArray) (o m : Nat) (hm : m ≤ 4) : beF s o m < 2 ^ 32 := by
  have h0 := byteN_lt s o
  have h1 := byteN_lt s (o + 1)
  have h2 := byteN_lt s (o + 2)
  have h3 := byteN_lt s (o + 3)
  match m, hm with
  | 0, _ => show 0 < 2 ^ 32; decide
  | 1, _ => simp only [beF, Nat.add_zero]; omega
  | 2, _ => simp only [beF, Nat.add_zero]; omega
  | 3, _ => simp only [beF, Nat.add_zero]; omega
  | 4, _ => simp only [beF, Nat.add_zero]; omega
theorem beF_four (s : ByteArray) (o : Nat) : beF s o 4 = be4N (byteN s o) (byteN s (o + 1)) (byteN s (o + 2)) (byteN s (o + 3)) := by
  simp only [beF, be4N, Nat.add_zero]
  omega
theorem wr61 (n : Nat) (h : n < 2 ^ 62) : IntKind.i64.wrap (n : Int) = (n : Int) := by rw [IntKind.wrap_i64]; omega
theorem wsN_len (s : ByteArray) (t : Nat) : (wsN s t).length = t := by
  induction t with
  | zero => rfl
  | succ t ih => simp [wsN, ih]
theorem sig0_facts (x : Nat) (hx : x < 2 ^ 32) :
    Hid (∀ W : World, Calls Tryz.prog 127 #[.int .i64 x, .int .i64 7] W fun e' w' => e' = .returned (.int .i64 (rightN x 7 : Nat)) ∧ ∃ m, w' = W.drewN m) ∧
    Hid (∀ W : World, Calls Tryz.prog 127 #[.int .i64 x, .int .i64 18] W fun e' w' => e' = .returned (.int .i64 (rightN x 18 : Nat)) ∧ ∃ m, w' = W.drewN m) ∧
    Hid (∀ (W : World) (b : Nat), W.cell? ⟨b, 0, none⟩ = some (.int .i64 (rightN x 7 : Nat)) → W.cell? ⟨b, 1, none⟩ = some (.int .i64 (rightN x 18 : Nat)) → W.cell? ⟨b, 2, none⟩ = some (.int .i64 (x / 8 : Nat)) → Calls Tryz.prog 126 #[.slice (some ⟨b, 0, none⟩) 3 3] W fun e' w' => e' = .returned (.int .i64 (sig0N x : Nat)) ∧ w' = W) := by
  have l1 := (right_lt x 7 hx (by decide)).2
  have l2 := (right_lt x 18 hx (by decide)).2
  exact ⟨fun W => Right_any x 7 W hx (by decide) (by decide), fun W => Right_any x 18 W hx (by decide) (by decide), fun W b => Xor_3 W b _ _ _ l1 l2 (by omega) _ rfl⟩
theorem sig1_facts (x : Nat) (hx : x < 2 ^ 32) :
    Hid (∀ W : World, Calls Tryz.prog 127 #[.int .i64 x, .int .i64 17] W fun e' w' => e' = .returned (.int .i64 (rightN x 17 : Nat)) ∧ ∃ m, w' = W.drewN m) ∧
    Hid (∀ W : World, Calls Tryz.prog 127 #[.int .i64 x, .int .i64 19] W fun e' w' => e' = .returned (.int .i64 (rightN x 19 : Nat)) ∧ ∃ m, w' = W.drewN m) ∧
    Hid (∀ (W : World) (b : Nat), W.cell? ⟨b, 0, none⟩ = some (.int .i64 (rightN x 17 : Nat)) → W.cell? ⟨b, 1, none⟩ = some (.int .i64 (rightN x 19 : Nat)) → W.cell? ⟨b, 2, none⟩ = some (.int .i64 (x / 1024 : Nat)) → Calls Tryz.prog 126 #[.slice (some ⟨b, 0, none⟩) 3 3] W fun e' w' => e' = .returned (.int .i64 (sig1N x : Nat)) ∧ w' = W) := by
  have l1 := (right_lt x 17 hx (by decide)).2
  have l2 := (right_lt x 19 hx (by decide)).2
  exact ⟨fun W => Right_any x 17 W hx (by decide) (by decide), fun W => Right_any x 19 W hx (by decide) (by decide), fun W b => Xor_3 W b _ _ _ l1 l2 (by omega) _ rfl⟩
theorem w8_nat (x d : Nat) (hd : d = x / 8) (hx : x < 2 ^ 32) : wrap64 ((x : Int) / 8) = (d : Int) := by unfold wrap64; omega
theorem w10_nat (x d : Nat) (hd : d = x / 1024) (hx : x < 2 ^ 32) : wrap64 ((x : Int) / 1024) = (d : Int) := by unfold wrap64; omega
theorem sz1 (W : World) (o : Obj) (k n : Nat) : W.heap.size + 1 = (((W.drewN k).alloc o).drewN n).heap.size := by
  show _ = ((W.drewN k).alloc o).heap.size
  rw [World.size_alloc]
  rfl
theorem ows_dn {w : World} {base : Nat} {e : TypeId} {size : Nat} {v : Value} {n : Nat} {xs : List Value} (h : w.ownsRow base e size v n xs) (k : Nat) : (w.drewN k).ownsRow base e size v n xs := h
theorem ows_dr {w : World} {base : Nat} {e : TypeId} {size : Nat} {v : Value} {n : Nat} {xs : List Value} (h : w.ownsRow base e size v n xs) : w.drew.ownsRow base e size v n xs := h
theorem bl0_al {B : Nat} {a w : World} (h : Below B a w) (hB : B ≤ a.heap.size) (o : Obj) : Below B a (w.alloc o) := h.alloc (Nat.le_trans hB h.size) o

set_option maxHeartbeats 40000000 in
set_option maxRecDepth 100000 in
theorem loop4 (x0 x1 x2 x4 x5 x6 x7 x11 x12 x13 x14 x15 x16 x17 x18 x19 x20 x21 x22 x23 x24 x25 x26 x27 x28 x29 x30 x31 x32 x33 x34 x35 x36 x37 x38 x39 x40 x41 x42 x43 x44 x45 x46 x47 x48 x49 x50 x51 x52 x53 x54 x55 x56 x57 x58 x59 x60 x61 x62 x63 x64 x65 x66 x67 x68 x69 x70 x71 x72 x73 x74 x75 x76 x77 x78 x79 x80 x81 x82 x83 x84 x85 x86 x87 x88 x89 x90 x91 x92 x93 x94 x95 x96 x97 x98 x99 x100 x101 x102 x103 x104 x105 x106 x107 x108 x109 x110 x111 x112 x113 x114 x115 x116 x117 x118 x119 x120 x121 x122 x123 x124 x125 x126 x127 x128 x129 x130 x131 x132 x133 x134 x135 x136 x137 x138 x139 x140 x141 x142 x143 x144 x145 x146 x147 x148 x149 x150 x151 x152 x153 x154 x155 x156 x157 x158 x159 x160 x161 x162 x163 x164 x165 x166 x167 x168 x169 x170 x171 x172 x173 x174 x175 x176 x177 x178 x179 x180 x181 x182 x183 x184 x185 x186 x187 x188 x189 x190 x191 x192 x193 x194 x195 x196 x197 x198 x199 x200 x201 x202 x203 x204 x205 x206 x207 x208 x209 x210 x211 x212 x213 x214 x215 x216 x217 x218 x219 x220 x221 x222 x223 x224 x225 x226 x227 x228 x229 x230 x231 x232 x233 x234 x235 x236 x237 x238 x239 x240 x241 x242 x243 x244 x245 x246 x247 x248 x249 x250 x251 x252 x253 x254 x255 x256 x257 x258 x259 x260 x261 x262 x263 x264 x265 x266 x267 x268 x269 x270 x271 x272 x273 x274 x275 x276 x277 x278 x279 x280 x281 x282 x283 : Value) (w : World) (P : List UInt8) (gp pc b : Nat) (hP : PAt w gp P) (hg : gp < w.heap.size) (hpl : P.length < 2 ^ 50) (hb64 : 64 * b + 64 ≤ P.length) (Q0 : Exit → Act → World → Prop)
    (hexit : ∀ (u10 u11 u12 u13 u14 u15 u16 u65 u66 u67 u68 u69 u70 u71 u72 u73 u74 u75 u76 u77 u78 u79 u80 u81 u82 u83 u84 u85 u86 u87 u88 u89 u90 u91 u92 u93 u94 u95 u96 u97 u98 u99 u100 u101 u102 u103 u104 u105 u106 u107 u108 u109 u110 u111 u112 u113 u114 u115 u116 u117 u118 u119 u120 u121 u122 u123 u124 u125 u126 u127 u128 u129 u130 u131 u132 u133 u134 u135 u136 : Value) (g' c' : Nat) (w' : World), LAt w' g' (wsN (blk P b) 64) → g' < w'.heap.size → Below w.heap.size w w' → Q0 (.exit 6) ⟨#[x0, x1, x2, .slice (some ⟨gp, 0, none⟩) P.length pc, x4, x5, x6, x7, .int .i64 (64 * b : Nat), .slice (some ⟨g', 0, none⟩) 64 c', u10, u11, u12, u13, u14, u15, u16, x17, x18, x19, x20, x21, x22, x23, x24, x25, x26, x27, x28, x29, x30, x31, x32, x33, x34, x35, x36, x37, x38, x39, x40, x41, x42, x43, x44, x45, x46, x47, x48, x49, x50, x51, x52, x53, x54, x55, x56, x57, x58, x59, x60, x61, x62, x63, x64, u65, u66, u67, u68, u69, u70, u71, u72, u73, u74, u75, u76, u77, u78, u79, u80, u81, u82, u83, u84, u85, u86, u87, u88, u89, u90, u91, u92, u93, u94, u95, u96, u97, u98, u99, u100, u101, u102, u103, u104, u105, u106, u107, u108, u109, u110, u111, u112, u113, u114, u115, u116, u117, u118, u119, u120, u121, u122, u123, u124, u125, u126, u127, u128, u129, u130, u131, u132, u133, u134, u135, u136, x137, x138, x139, x140, x141, x142, x143, x144, x145, x146, x147, x148, x149, x150, x151, x152, x153, x154, x155, x156, x157, x158, x159, x160, x161, x162, x163, x164, x165, x166, x167, x168, x169, x170, x171, x172, x173, x174, x175, x176, x177, x178, x179, x180, x181, x182, x183, x184, x185, x186, x187, x188, x189, x190, x191, x192, x193, x194, x195, x196, x197, x198, x199, x200, x201, x202, x203, x204, x205, x206, x207, x208, x209, x210, x211, x212, x213, x214, x215, x216, x217, x218, x219, x220, x221, x222, x223, x224, x225, x226, x227, x228, x229, x230, x231, x232, x233, x234, x235, x236, x237, x238, x239, x240, x241, x242, x243, x244, x245, x246, x247, x248, x249, x250, x251, x252, x253, x254, x255, x256, x257, x258, x259, x260, x261, x262, x263, x264, x265, x266, x267, x268, x269, x270, x271, x272, x273, x274, x275, x276, x277, x278, x279, x280, x281, x282, x283], []⟩ w') :
    Code.wp Tryz.prog (subC [true, true, true, true, true, true, false, true, false, false, true, false, false, true, false, true, false] (Tryz.f73.body.getD .skip)) Q0 ⟨#[x0, x1, x2, .slice (some ⟨gp, 0, none⟩) P.length pc, x4, x5, x6, x7, .int .i64 (64 * b : Nat), .slice none 0 0, .int .i64 0, x11, x12, x13, x14, x15, x16, x17, x18, x19, x20, x21, x22, x23, x24, x25, x26, x27, x28, x29, x30, x31, x32, x33, x34, x35, x36, x37, x38, x39, x40, x41, x42, x43, x44, x45, x46, x47, x48, x49, x50, x51, x52, x53, x54, x55, x56, x57, x58, x59, x60, x61, x62, x63, x64, x65, x66, x67, x68, x69, x70, x71, x72, x73, x74, x75, x76, x77, x78, x79, x80, x81, x82, x83, x84, x85, x86, x87, x88, x89, x90, x91, x92, x93, x94, x95, x96, x97, x98, x99, x100, x101, x102, x103, x104, x105, x106, x107, x108, x109, x110, x111, x112, x113, x114, x115, x116, x117, x118, x119, x120, x121, x122, x123, x124, x125, x126, x127, x128, x129, x130, x131, x132, x133, x134, x135, x136, x137, x138, x139, x140, x141, x142, x143, x144, x145, x146, x147, x148, x149, x150, x151, x152, x153, x154, x155, x156, x157, x158, x159, x160, x161, x162, x163, x164, x165, x166, x167, x168, x169, x170, x171, x172, x173, x174, x175, x176, x177, x178, x179, x180, x181, x182, x183, x184, x185, x186, x187, x188, x189, x190, x191, x192, x193, x194, x195, x196, x197, x198, x199, x200, x201, x202, x203, x204, x205, x206, x207, x208, x209, x210, x211, x212, x213, x214, x215, x216, x217, x218, x219, x220, x221, x222, x223, x224, x225, x226, x227, x228, x229, x230, x231, x232, x233, x234, x235, x236, x237, x238, x239, x240, x241, x242, x243, x244, x245, x246, x247, x248, x249, x250, x251, x252, x253, x254, x255, x256, x257, x258, x259, x260, x261, x262, x263, x264, x265, x266, x267, x268, x269, x270, x271, x272, x273, x274, x275, x276, x277, x278, x279, x280, x281, x282, x283], []⟩ w := by
  obtain ⟨i0, hi, hz0, hz1, hz2⟩ := info_p infI
  have HX : Hid _ := hexit
  clear hexit
  obtain ⟨at0, hat⟩ : ∃ at0, at0 = 64 * b := ⟨_, rfl⟩
  rw [← hat] at HX
  rw [← hat]
  obtain ⟨pn, hpn⟩ : ∃ pn, pn = P.length := ⟨_, rfl⟩
  rw [← hpn] at HX
  rw [← hpn]
  have HP : Hid (PAt w gp P ∧ gp < w.heap.size ∧ at0 = 64 * b ∧ pn = P.length ∧ pn < 2 ^ 50 ∧ at0 + 64 ≤ pn) := ⟨hP, hg, hat, hpn, by rw [hpn]; exact hpl, by rw [hat, hpn]; exact hb64⟩
  clear hP hg hpl hb64 hat hpn
  conv => arg 2; whnf
  dsimp only
  go_loopw [9, 10] (fun v i wr => ∃ t : Nat, t ≤ 64 ∧ i = .int .i64 t ∧ wr.ownsRow w.heap.size 3 1 v t (ics (wsN (blk P b) t)) ∧ Below w.heap.size w wr) (fun _ i _ => 64 - (intOf i).toNat)
  case atStart => exact ⟨0, by omega, rfl, World.ownsRow_nil _ _ _ _, Below.refl _ _⟩
  case round =>
    obtain ⟨t, ht, rfl, hown, hbl⟩ := hrel
    have HV : Hid (wr.ownsRow w.heap.size 3 1 u9 t (ics (wsN (blk P b) t)) ∧ Below w.heap.size w wr) := ⟨hown, hbl⟩
    clear hown hbl
    by_cases hlt : t < 64
    · have hti : (t : Int) < 64 := by omega
      by_cases h16 : t < 16
      · have h16i : (t : Int) < 16 := by omega
        go_wp2
        go_loop [11, 12] (fun n i => ∃ m : Nat, m ≤ 4 ∧ i = .int .i64 m ∧ n = .int .i64 (beF (blk P b) (4 * t) m : Nat)) (fun _ i => 4 - (intOf i).toNat)
        case atStart => exact ⟨0, by omega, rfl, rfl⟩
        case round =>
          obtain ⟨m, hm, rfl, rfl⟩ := hrel
          by_cases hm4 : m < 4
          · have hmi : (m : Int) < 4 := by omega
            have hbf := beF_lt (blk P b) (4 * t) m hm
            have hbl := byteN_lt (blk P b) (4 * t + m)
            obtain ⟨o3, ho3⟩ : ∃ o3, o3 = at0 + 4 * t + m := ⟨_, rfl⟩
            have hpo := HP.out.2.2.2.2
            have c0 : wr.cell? ⟨gp, o3, none⟩ = some (.int .u8 (byteN (blk P b) (4 * t + m) : Nat)) := by
              obtain ⟨h1, h2, h3, h4, h5, h6⟩ := HP.out
              rw [byte_blk P b _ (by omega), show 64 * b + (4 * t + m) = o3 from by omega]
              exact h1.up HV.out.2 h2 o3 (by omega)
            have HN : Hid (beF (blk P b) (4 * t) (m + 1) = 256 * beF (blk P b) (4 * t) m + byteN (blk P b) (4 * t + m)) := rfl
            generalize byteN (blk P b) (4 * t + m) = cb at c0 HN hbl
            generalize beF (blk P b) (4 * t) m = n at HN hbf
            obtain ⟨z, hz⟩ : ∃ z, z = 4 * t := ⟨_, rfl⟩
            obtain ⟨o2, ho2⟩ : ∃ o2, o2 = at0 + z := ⟨_, rfl⟩
            obtain ⟨n2, hn2⟩ : ∃ n2, n2 = 256 * n := ⟨_, rfl⟩
            obtain ⟨n3, hn3⟩ : ∃ n3, n3 = n2 + cb := ⟨_, rfl⟩
            rw [← hn2, ← hn3] at HN
            have e1 : 4 * (t : Int) = (z : Int) := by omega
            have e2 : (at0 : Int) + (z : Int) = (o2 : Int) := by omega
            have e3 : (o2 : Int) + (m : Int) = (o3 : Int) := by omega
            have e4 : 256 * (n : Int) = (n2 : Int) := by omega
            have e5 : (n2 : Int) + (cb : Int) = (n3 : Int) := by omega
            have d3 : (o3 : Int) < (pn : Int) := by omega
            have f1 := wr61 z (by omega)
            have f2 := wr61 o2 (by omega)
            have f3 := wr61 o3 (by omega)
            have f4 := wr61 n2 (by omega)
            have f5 := wr61 n3 (by omega)
            have f6 := wr61 cb (by omega)
            clear hz ho2 ho3 hn2 hn3 hbf hbl hpo
            go_wp2
            refine ⟨⟨m + 1, by omega, by go_num, by rw [HN.out]⟩, by simp [intOf]; omega⟩
          · obtain rfl : m = 4 := by omega
            have hbf := beF_lt (blk P b) (4 * t) 4 (by omega)
            have HN : Hid (wsN (blk P b) (t + 1) = wsN (blk P b) t ++ [beF (blk P b) (4 * t) 4]) := by
              show wsN (blk P b) t ++ [wnextN (blk P b) (wsN (blk P b) t) t] = _
              unfold wnextN
              rw [if_pos h16, beF_four]
            generalize beF (blk P b) (4 * t) 4 = n at HN hbf
            go_wp2_with (at_builtin; refine wpList_append_own _ rfl _ _ 167 rfl w.heap.size 3 i0 (.int .i64 0) 1 8 Tryz.underlying167 hi hz0 hz1 hz2 rfl (by decide) _ _ _ rfl (HV.out.1.alloc _) ⟨_, 0, none⟩ 1 1 [.int .i64 (n : Int)] rfl rfl ?c1 ?c2 ?c3 ?c4 ?c5 ?_)
            case c2 => rfl
            case c3 => unfold maxLen; omega
            case c4 => omega
            case c5 => have := HV.out.2.size; omega
            intro v' w4 hown4 hg4 _
            have HB4 : Hid (Below w.heap.size w w4) := (HV.out.2.alloc HV.out.2.size _).grown hg4 (by have := HV.out.2.size; rw [World.size_alloc]; omega) (fun j hj => (HV.out.1.lt j hj).1)
            have HO4 : Hid (w4.ownsRow w.heap.size 3 1 v' (t + 1) (ics (wsN (blk P b) (t + 1)))) := by
              rw [HN.out, show ics (wsN (blk P b) t ++ [n]) = ics (wsN (blk P b) t) ++ [.int .i64 (n : Int)] from by simp [ics]]
              exact hown4
            clear hown4 hg4
            go_wp2
            refine ⟨⟨t + 1, by omega, by go_num, HO4.out, HB4.out⟩, by simp [intOf]; omega⟩
      · have h16i : (16 : Int) ≤ (t : Int) := by omega
        have HT16 : Hid (16 ≤ t) := by show 16 ≤ t; omega
        have HLT : Hid (∀ x ∈ wsN (blk P b) t, x < 2 ^ 32) := (ws_nat (blk P b) t).2
        obtain ⟨g, cap, hug, hgb, hgs⟩ := HV.out.1.form (by omega)
        subst hug
        have c1 : wr.cell? ⟨g, t - 15, none⟩ = some (.int .i64 ((wsN (blk P b) t).getD (t - 15) 0 : Nat)) := (HV.out.1.cellAt (t - 15) (by omega)).trans (ics_get _ _ (by rw [wsN_len]; omega))
        have c2 : wr.cell? ⟨g, t - 2, none⟩ = some (.int .i64 ((wsN (blk P b) t).getD (t - 2) 0 : Nat)) := (HV.out.1.cellAt (t - 2) (by omega)).trans (ics_get _ _ (by rw [wsN_len]; omega))
        have l1 := get_lt _ HLT.out (t - 15)
        have l2 := get_lt _ HLT.out (t - 2)
        have HN : Hid (wsN (blk P b) (t + 1) = wsN (blk P b) t ++ [((wsN (blk P b) t).getD (t - 16) 0 + sig0N ((wsN (blk P b) t).getD (t - 15) 0) + (wsN (blk P b) t).getD (t - 7) 0 + sig1N ((wsN (blk P b) t).getD (t - 2) 0)) % 4294967296]) := by
          show wsN (blk P b) t ++ [wnextN (blk P b) (wsN (blk P b) t) t] = _
          unfold wnextN
          rw [if_neg h16]
        have HLN : Hid ((wsN (blk P b) t).length = t) := wsN_len _ _
        generalize (wsN (blk P b) t).getD (t - 15) 0 = x at c1 l1 HN
        generalize (wsN (blk P b) t).getD (t - 2) 0 = y at c2 l2 HN
        obtain ⟨i15, h15⟩ : ∃ i15, i15 = t - 15 := ⟨_, rfl⟩
        obtain ⟨i2, h2⟩ : ∃ i2, i2 = t - 2 := ⟨_, rfl⟩
        rw [← h15] at c1
        rw [← h2] at c2
        have e15 : (t : Int) - 15 = (i15 : Int) := by omega
        have e2 : (t : Int) - 2 = (i2 : Int) := by omega
        have d15 : (i15 : Int) < (t : Int) := by omega
        have d2 : (i2 : Int) < (t : Int) := by omega
        obtain ⟨HA1, HA2, HXO⟩ := sig0_facts x l1
        obtain ⟨HB1, HB2, HYO⟩ := sig1_facts y l2
        have HS : Hid (sig0N x < 2 ^ 32 ∧ sig1N y < 2 ^ 32) := ⟨(sig0_nat x l1).2, (sig1_nat y l2).2⟩
        generalize rightN x 7 = p1 at HA1 HXO
        generalize rightN x 18 = p2 at HA2 HXO
        generalize rightN y 17 = r1 at HB1 HYO
        generalize rightN y 19 = r2 at HB2 HYO
        generalize sig0N x = s0 at HXO HN HS
        generalize sig1N y = s1 at HYO HN HS
        obtain ⟨x8, hx8⟩ : ∃ x8, x8 = x / 8 := ⟨_, rfl⟩
        obtain ⟨y10, hy10⟩ : ∃ y10, y10 = y / 1024 := ⟨_, rfl⟩
        rw [← hx8] at HXO
        rw [← hy10] at HYO
        have HW8 : Hid (wrap64 ((x : Int) / 8) = (x8 : Int)) := w8_nat x x8 hx8 l1
        have HW10 : Hid (wrap64 ((y : Int) / 1024) = (y10 : Int)) := w10_nat y y10 hy10 l2
        have f1 := wr60 i15 (by omega)
        have f2 := wr60 i2 (by omega)
        clear hx8 hy10 h15 h2 l1 l2
        go_wp2
        go_quiet (fail)
        go_wp2_with fail
        refine (HA1.out _).mono ?_
        rintro e w' ⟨rfl, m1, rfl⟩
        go_wp2_with fail
        refine (HA2.out _).mono ?_
        rintro e w' ⟨rfl, m2, rfl⟩
        go_wp2_with fail
        refine (HXO.out _ _ (al_atC _ _ _ _ 0 _ rfl rfl) (al_atC _ _ _ _ 1 _ rfl rfl) (al_atC _ _ _ _ 2 _ rfl (congrArg (fun z => some (Value.int .i64 z)) HW8.out))).mono ?_
        rintro e w' ⟨rfl, rfl⟩
        go_wp2_with fail
        refine (HB1.out _).mono ?_
        rintro e w' ⟨rfl, m3, rfl⟩
        go_wp2_with fail
        refine (HB2.out _).mono ?_
        rintro e w' ⟨rfl, m4, rfl⟩
        go_wp2_with fail
        refine (HYO.out _ _ (al_atC _ _ _ _ 0 _ ?z1 rfl) (al_atC _ _ _ _ 1 _ ?z2 rfl) (al_atC _ _ _ _ 2 _ ?z3 (congrArg (fun z => some (Value.int .i64 z)) HW10.out))).mono ?_
        case z1 => exact sz1 _ _ _ _
        case z2 => exact sz1 _ _ _ _
        case z3 => exact sz1 _ _ _ _
        rintro e w' ⟨rfl, rfl⟩
        go_wp2
        refine r27 _ _ _ _ _ _ _ _ _ _ _ _ _ _ _ _ _ _ _ _ _ _ _ _ _ _ _ _ _ _ _ _ _ _ _ _ _ _ _ _ _ _ _ _ _ _ _ _ _ _ _ _ _ _ _ _ _ _ _ _ _ _ _ _ _ _ _ _ _ _ _ _ _ _ _ _ _ _ _ _ _ _ _ _ _ _ _ _ _ _ _ _ _ _ _ _ _ _ _ _ _ _ _ _ _ _ _ _ _ _ _ _ _ _ _ _ _ _ _ _ _ _ _ _ _ _ _ _ _ _ _ _ _ _ _ _ _ _ _ _ _ _ _ _ _ _ _ _ _ _ _ _ _ _ _ _ _ _ _ _ _ _ _ _ _ _ _ _ _ _ _ _ _ _ _ _ _ _ _ _ _ _ _ _ _ _ _ _ _ _ _ _ _ _ _ _ _ _ _ _ _ _ _ _ _ _ _ _ _ _ _ _ _ _ _ _ _ _ _ _ _ _ _ _ _ _ _ _ _ _ _ _ _ _ _ _ _ _ _ _ _ _ _ _ _ _ _ _ _ _ _ _ _ _ _ _ _ _ _ _ _ _ _ _ _ _ _ _ _ _ _ _ _ _ _ _ _ _ _ _ w _ t g cap s0 s1 (wsN (blk P b) t) HT16.out hlt HLN.out HLT.out HS.out.1 HS.out.2 ?hown ?hbl _ ?_
        case hown => repeat' (with_reducible (first | exact HV.out.1 | refine World.ownsRow.alloc ?_ _ | refine ows_dn ?_ _ | refine ows_dr ?_))
        case hbl => repeat' (with_reducible (first | exact HV.out.2 | refine bl_al ?_ _ | refine bl_dn ?_ _ | refine bl_dr ?_))
        intro _ _ _ _ _ _ _ _ _ _ _ _ _ _ _ _ _ _ _ g' cap' w5 hown5 hb5
        have H5 : Hid (w5.ownsRow w.heap.size 3 1 (.slice (some ⟨g', 0, none⟩) (t + 1) cap') (t + 1) (ics (wsN (blk P b) (t + 1))) ∧ Below w.heap.size w w5) := ⟨by rw [HN.out]; exact hown5, hb5⟩
        clear hown5 hb5 f1 f2
        go_wp2
        refine ⟨⟨t + 1, by omega, by go_num, H5.out.1, H5.out.2⟩, by simp [intOf]; omega⟩
    · obtain rfl : t = 64 := by omega
      obtain ⟨g, cap, hug, hgb, hgs⟩ := HV.out.1.form (by omega)
      subst hug
      go_wp2
      exact HX.out _ _ _ _ _ _ _ _ _ _ _ _ _ _ _ _ _ _ _ _ _ _ _ _ _ _ _ _ _ _ _ _ _ _ _ _ _ _ _ _ _ _ _ _ _ _ _ _ _ _ _ _ _ _ _ _ _ _ _ _ _ _ _ _ _ _ _ _ _ _ _ _ _ _ _ _ _ _ _ _ _ _ (fun j hj => by rw [wsN_len] at hj; exact (HV.out.1.cellAt j (by omega)).trans (ics_get _ _ (by rw [wsN_len]; omega))) hgs HV.out.2
end Go.Proofs.YtcdgdmhlbgbklaaGreatDoor

/- The document's own Sum: block by block. -/
namespace Go.Proofs.YtcdgdmhlbgbklaaGreatDoor
open Go.RowKit

theorem LAt.upB {B : Nat} {w w' : World} {b : Nat} {l : List Nat} (h : LAt w b l) (hb : Below B w w') (hg : b < B) : LAt w' b l := fun j hj => (hb.cell (p := ⟨b, j, none⟩) hg).trans (h j hj)
theorem mix_add (q : N8) (s : ByteArray) (ks : List Nat) : mixN q s ks = addN q (roundsN (wsN s 64) ks 64 q) := rfl
theorem v_of_row {w : World} {B g cap : Nat} {q : N8} (h : w.ownsRow B 3 1 (.slice (some ⟨g, 0, none⟩) 8 cap) 8 (ics q.l)) : VAt w g q :=
  ⟨h.cellAt 0 (by decide), h.cellAt 1 (by decide), h.cellAt 2 (by decide), h.cellAt 3 (by decide), h.cellAt 4 (by decide), h.cellAt 5 (by decide), h.cellAt 6 (by decide), h.cellAt 7 (by decide)⟩
theorem ics_one (l : List Nat) : ∀ u ∈ ics l, u.oneCell' = true := fun u hu => by
  obtain ⟨n, _, rfl⟩ := List.mem_map.1 hu
  rfl
theorem ics_len (l : List Nat) : (ics l).length = l.length := by simp [ics]
theorem add0C (b j : Nat) : (⟨b, 0, none⟩ : Addr).add j = ⟨b, j, none⟩ := by
  unfold Addr.add
  split <;> simp_all
/-- Blocks below hb, and block hb itself, are as they were. -/
theorem HAt.up2 {w w' : World} {b : Nat} {l : List Nat} (h : HAt w b l) (hb : Below w.heap.size w w') : HAt w' b l := h.up hb h.lt

set_option maxHeartbeats 40000000 in
set_option maxRecDepth 100000 in
theorem loop3 (x0 x1 x2 x4 x5 x9 x10 x11 x12 x13 x14 x15 x16 x17 x18 x19 x20 x21 x22 x23 x24 x25 x26 x27 x28 x29 x30 x31 x32 x33 x34 x35 x36 x37 x38 x39 x40 x41 x42 x43 x44 x45 x46 x47 x48 x49 x50 x51 x52 x53 x54 x55 x56 x57 x58 x59 x60 x61 x62 x63 x64 x65 x66 x67 x68 x69 x70 x71 x72 x73 x74 x75 x76 x77 x78 x79 x80 x81 x82 x83 x84 x85 x86 x87 x88 x89 x90 x91 x92 x93 x94 x95 x96 x97 x98 x99 x100 x101 x102 x103 x104 x105 x106 x107 x108 x109 x110 x111 x112 x113 x114 x115 x116 x117 x118 x119 x120 x121 x122 x123 x124 x125 x126 x127 x128 x129 x130 x131 x132 x133 x134 x135 x136 x137 x138 x139 x140 x141 x142 x143 x144 x145 x146 x147 x148 x149 x150 x151 x152 x153 x154 x155 x156 x157 x158 x159 x160 x161 x162 x163 x164 x165 x166 x167 x168 x169 x170 x171 x172 x173 x174 x175 x176 x177 x178 x179 x180 x181 x182 x183 x184 x185 x186 x187 x188 x189 x190 x191 x192 x193 x194 x195 x196 x197 x198 x199 x200 x201 x202 x203 x204 x205 x206 x207 x208 x209 x210 x211 x212 x213 x214 x215 x216 x217 x218 x219 x220 x221 x222 x223 x224 x225 x226 x227 x228 x229 x230 x231 x232 x233 x234 x235 x236 x237 x238 x239 x240 x241 x242 x243 x244 x245 x246 x247 x248 x249 x250 x251 x252 x253 x254 x255 x256 x257 x258 x259 x260 x261 x262 x263 x264 x265 x266 x267 x268 x269 x270 x271 x272 x273 x274 x275 x276 x277 x278 x279 x280 x281 x282 x283 : Value) (w : World) (P : List UInt8) (ks : List Nat) (q : N8) (N gp pc kb kc hb hc : Nat) (hq : q.ok) (hks : ∀ x ∈ ks, x < 2 ^ 32) (hkn : ks.length = 64) (hP : PAt w gp P) (hk : LAt w kb ks) (hh : HAt w hb q.l) (hgp : gp < hb) (hkb : kb < hb) (hpl : P.length < 2 ^ 50) (hN : P.length = 64 * N) (Q0 : Exit → Act → World → Prop)
    (hexit : ∀ (u8 u9 u10 u11 u12 u13 u14 u15 u16 u17 u18 u19 u20 u21 u22 u23 u24 u25 u59 u60 u61 u62 u63 u64 u65 u66 u67 u68 u69 u70 u71 u72 u73 u74 u75 u76 u77 u78 u79 u80 u81 u82 u83 u84 u85 u86 u87 u88 u89 u90 u91 u92 u93 u94 u95 u96 u97 u98 u99 u100 u101 u102 u103 u104 u105 u106 u107 u108 u109 u110 u111 u112 u113 u114 u115 u116 u117 u118 u119 u120 u121 u122 u123 u124 u125 u126 u127 u128 u129 u130 u131 u132 u133 u134 u135 u136 u137 u138 u139 u140 u141 u142 u143 u144 u145 u146 u147 u148 u149 u150 u151 u152 u153 u154 u155 u156 u157 u158 u159 u160 u161 u162 u163 u164 u165 u166 u167 u168 u169 u170 u171 u172 u173 u174 u175 u176 u177 u178 u179 u180 u181 u182 u183 u184 u185 u186 u187 u188 u189 u190 u191 u192 u193 u194 u195 u196 u197 u198 u199 u200 u201 u202 u203 u204 u205 u206 u207 u208 u209 u210 u211 u212 u213 u214 u215 u216 u217 u218 u219 u220 u221 u222 u223 u224 u225 u226 u227 u228 u229 u230 u231 u232 u233 u234 u235 u236 u237 u238 u239 u240 u241 u242 u243 u244 u245 u246 u247 u248 u249 u250 u251 u252 u253 u254 u255 u256 u257 u258 u259 u260 u261 u262 : Value) (w' : World), HAt w' hb (stF P ks 0 q N).l → Below hb w w' → Q0 (.exit 4) ⟨#[x0, x1, x2, .slice (some ⟨gp, 0, none⟩) P.length pc, x4, x5, .slice (some ⟨kb, 0, none⟩) 64 kc, .slice (some ⟨hb, 0, none⟩) 8 hc, u8, u9, u10, u11, u12, u13, u14, u15, u16, u17, u18, u19, u20, u21, u22, u23, u24, u25, x26, x27, x28, x29, x30, x31, x32, x33, x34, x35, x36, x37, x38, x39, x40, x41, x42, x43, x44, x45, x46, x47, x48, x49, x50, x51, x52, x53, x54, x55, x56, x57, x58, u59, u60, u61, u62, u63, u64, u65, u66, u67, u68, u69, u70, u71, u72, u73, u74, u75, u76, u77, u78, u79, u80, u81, u82, u83, u84, u85, u86, u87, u88, u89, u90, u91, u92, u93, u94, u95, u96, u97, u98, u99, u100, u101, u102, u103, u104, u105, u106, u107, u108, u109, u110, u111, u112, u113, u114, u115, u116, u117, u118, u119, u120, u121, u122, u123, u124, u125, u126, u127, u128, u129, u130, u131, u132, u133, u134, u135, u136, u137, u138, u139, u140, u141, u142, u143, u144, u145, u146, u147, u148, u149, u150, u151, u152, u153, u154, u155, u156, u157, u158, u159, u160, u161, u162, u163, u164, u165, u166, u167, u168, u169, u170, u171, u172, u173, u174, u175, u176, u177, u178, u179, u180, u181, u182, u183, u184, u185, u186, u187, u188, u189, u190, u191, u192, u193, u194, u195, u196, u197, u198, u199, u200, u201, u202, u203, u204, u205, u206, u207, u208, u209, u210, u211, u212, u213, u214, u215, u216, u217, u218, u219, u220, u221, u222, u223, u224, u225, u226, u227, u228, u229, u230, u231, u232, u233, u234, u235, u236, u237, u238, u239, u240, u241, u242, u243, u244, u245, u246, u247, u248, u249, u250, u251, u252, u253, u254, u255, u256, u257, u258, u259, u260, u261, u262, x263, x264, x265, x266, x267, x268, x269, x270, x271, x272, x273, x274, x275, x276, x277, x278, x279, x280, x281, x282, x283], []⟩ w') :
    Code.wp Tryz.prog (subC [true, true, true, true, true, true, false, true, false] (Tryz.f73.body.getD .skip)) Q0 ⟨#[x0, x1, x2, .slice (some ⟨gp, 0, none⟩) P.length pc, x4, x5, .slice (some ⟨kb, 0, none⟩) 64 kc, .slice (some ⟨hb, 0, none⟩) 8 hc, .int .i64 0, x9, x10, x11, x12, x13, x14, x15, x16, x17, x18, x19, x20, x21, x22, x23, x24, x25, x26, x27, x28, x29, x30, x31, x32, x33, x34, x35, x36, x37, x38, x39, x40, x41, x42, x43, x44, x45, x46, x47, x48, x49, x50, x51, x52, x53, x54, x55, x56, x57, x58, x59, x60, x61, x62, x63, x64, x65, x66, x67, x68, x69, x70, x71, x72, x73, x74, x75, x76, x77, x78, x79, x80, x81, x82, x83, x84, x85, x86, x87, x88, x89, x90, x91, x92, x93, x94, x95, x96, x97, x98, x99, x100, x101, x102, x103, x104, x105, x106, x107, x108, x109, x110, x111, x112, x113, x114, x115, x116, x117, x118, x119, x120, x121, x122, x123, x124, x125, x126, x127, x128, x129, x130, x131, x132, x133, x134, x135, x136, x137, x138, x139, x140, x141, x142, x143, x144, x145, x146, x147, x148, x149, x150, x151, x152, x153, x154, x155, x156, x157, x158, x159, x160, x161, x162, x163, x164, x165, x166, x167, x168, x169, x170, x171, x172, x173, x174, x175, x176, x177, x178, x179, x180, x181, x182, x183, x184, x185, x186, x187, x188, x189, x190, x191, x192, x193, x194, x195, x196, x197, x198, x199, x200, x201, x202, x203, x204, x205, x206, x207, x208, x209, x210, x211, x212, x213, x214, x215, x216, x217, x218, x219, x220, x221, x222, x223, x224, x225, x226, x227, x228, x229, x230, x231, x232, x233, x234, x235, x236, x237, x238, x239, x240, x241, x242, x243, x244, x245, x246, x247, x248, x249, x250, x251, x252, x253, x254, x255, x256, x257, x258, x259, x260, x261, x262, x263, x264, x265, x266, x267, x268, x269, x270, x271, x272, x273, x274, x275, x276, x277, x278, x279, x280, x281, x282, x283], []⟩ w := by
  obtain ⟨i0, hi, hz0, hz1, hz2⟩ := info_p infI
  have HX : Hid _ := hexit
  clear hexit
  have HP : Hid (PAt w gp P ∧ gp < hb ∧ P.length < 2 ^ 50 ∧ P.length = 64 * N) := ⟨hP, hgp, hpl, hN⟩
  have HK : Hid (LAt w kb ks ∧ kb < hb ∧ (∀ x ∈ ks, x < 2 ^ 32) ∧ ks.length = 64) := ⟨hk, hkb, hks, hkn⟩
  have HH : Hid (HAt w hb q.l ∧ q.ok) := ⟨hh, hq⟩
  have hNi : 64 * (N : Int) = (P.length : Int) := by omega
  have hpi : (P.length : Int) < 1125899906842624 := by omega
  clear hP hgp hpl hk hkb hks hkn hh hq hN
  conv => arg 2; whnf
  dsimp only
  go_loopw [8] (fun i wr => ∃ n : Nat, n ≤ N ∧ i = .int .i64 (64 * n : Nat) ∧ HAt wr hb (stF P ks 0 q n).l ∧ Below hb w wr) (fun i _ => 64 * N - (intOf i).toNat)
  case atStart => exact ⟨0, by omega, rfl, HH.out.1, Below.refl _ _⟩
  case round =>
    obtain ⟨n, hn, rfl, hh, hbl⟩ := hrel
    have HV : Hid (HAt wr hb (stF P ks 0 q n).l ∧ Below hb w wr ∧ (stF P ks 0 q n).ok) := ⟨hh, hbl, stF_ok P ks 0 q HH.out.2 n⟩
    clear hh hbl
    by_cases hlt : n < N
    · have hni : 64 * (n : Int) < (P.length : Int) := by omega
      have HNX : Hid (stF P ks 0 q (n + 1) = addN (stF P ks 0 q n) (roundsN (wsN (blk P n) 64) ks 64 (stF P ks 0 q n))) := by
        show mixN (stF P ks 0 q n) (blk P (0 + n)) ks = _
        rw [Nat.zero_add, mix_add]
      generalize stF P ks 0 q n = s at HV HNX
      have HNN : Hid (64 * n + 64 ≤ P.length ∧ n + 1 ≤ N) := by
        have := HP.out.2.2.2
        show _ ∧ _
        omega
      go_wp2
      refine loop4 _ _ _ _ _ _ _ _ _ _ _ _ _ _ _ _ _ _ _ _ _ _ _ _ _ _ _ _ _ _ _ _ _ _ _ _ _ _ _ _ _ _ _ _ _ _ _ _ _ _ _ _ _ _ _ _ _ _ _ _ _ _ _ _ _ _ _ _ _ _ _ _ _ _ _ _ _ _ _ _ _ _ _ _ _ _ _ _ _ _ _ _ _ _ _ _ _ _ _ _ _ _ _ _ _ _ _ _ _ _ _ _ _ _ _ _ _ _ _ _ _ _ _ _ _ _ _ _ _ _ _ _ _ _ _ _ _ _ _ _ _ _ _ _ _ _ _ _ _ _ _ _ _ _ _ _ _ _ _ _ _ _ _ _ _ _ _ _ _ _ _ _ _ _ _ _ _ _ _ _ _ _ _ _ _ _ _ _ _ _ _ _ _ _ _ _ _ _ _ _ _ _ _ _ _ _ _ _ _ _ _ _ _ _ _ _ _ _ _ _ _ _ _ _ _ _ _ _ _ _ _ _ _ _ _ _ _ _ _ _ _ _ _ _ _ _ _ _ _ _ _ _ _ _ _ _ _ _ _ _ _ _ _ _ _ _ _ _ _ _ _ _ _ _ _ _ _ _ _ _ wr P gp pc n (HP.out.1.up HV.out.2.1 HP.out.2.1) (Nat.lt_trans HP.out.2.1 HV.out.1.lt) HP.out.2.2.1 HNN.out.1 _ ?_
      intro _ _ _ _ _ _ _ _ _ _ _ _ _ _ _ _ _ _ _ _ _ _ _ _ _ _ _ _ _ _ _ _ _ _ _ _ _ _ _ _ _ _ _ _ _ _ _ _ _ _ _ _ _ _ _ _ _ _ _ _ _ _ _ _ _ _ _ _ _ _ _ _ _ _ _ _ _ _ _ g1 c1 w1 hw1 hg1 hb1
      have H1 : Hid (LAt w1 g1 (wsN (blk P n) 64) ∧ g1 < w1.heap.size ∧ HAt w1 hb s.l ∧ Below hb w w1) := ⟨hw1, hg1, HV.out.1.up2 hb1, HV.out.2.1.trans (hb1.mono (Nat.le_of_lt HV.out.1.lt))⟩
      clear hw1 hg1 hb1
      have HW1 : Hid (∀ x ∈ wsN (blk P n) 64, x < 2 ^ 32) := (ws_nat (blk P n) 64).2
      have HW2 : Hid ((wsN (blk P n) 64).length = 64) := wsN_len _ _
      generalize wsN (blk P n) 64 = wl at H1 HW1 HW2 HNX
      have HOE : Hid ((w1.alloc (.cells #[] 3)).ownsRow w1.heap.size 3 1 (.slice (some ⟨w1.heap.size, 0, none⟩) 0 0) 0 []) := World.ownsRow_lit w1 #[] 0 (Nat.le_refl _) (by unfold maxLen; omega) rfl
      have HCE : Hid (∀ j u, (ics s.l)[j]? = some u → (w1.alloc (.cells #[] 3)).cell? ((⟨hb, 0, none⟩ : Addr).add j) = some u) := fun j u hj => by
        have hj8 : j < s.l.length := by
          have := (List.getElem?_eq_some_iff.1 hj).1
          rwa [ics_len] at this
        rw [ics_get _ _ hj8] at hj
        injection hj with hj
        rw [← hj]
        have := (H1.out.2.2.1.up2 (bl_al (Below.refl _ _) (.cells #[] 3))).lat j hj8
        rw [add0C]
        exact this
      go_wp2_with (at_builtin; refine wpList_append_own _ rfl _ _ 167 rfl w1.heap.size 3 i0 (.int .i64 0) 1 8 Tryz.underlying167 hi hz0 hz1 hz2 rfl (by decide) _ _ _ rfl HOE.out ⟨hb, 0, none⟩ 8 hc (ics s.l) rfl rfl HCE.out (ics_one _) ?c3 ?c4 ?c5 ?_)
      case c3 => unfold maxLen; omega
      case c4 => decide
      case c5 => rw [World.size_alloc]; omega
      intro v' w2 hown2 hg2 _
      have HB2 : Hid (Below w1.heap.size w1 w2) := ((Below.refl _ _).alloc (Nat.le_refl _) _).grown hg2 (by rw [World.size_alloc]; omega) (fun j hj => (HOE.out.lt j hj).1)
      have hown3 : w2.ownsRow w1.heap.size 3 1 v' 8 (ics s.l) := hown2
      clear hown2 hg2 HCE HOE
      obtain ⟨g2, cap2, rfl, hgb2, hgs2⟩ := hown3.form (by omega)
      have H2 : Hid (VAt w2 g2 s ∧ g2 < w2.heap.size ∧ w1.heap.size ≤ g2) := ⟨v_of_row hown3, hgs2, hgb2⟩
      clear hown3 hgs2 hgb2
      have H2K : Hid (LAt w2 kb ks ∧ LAt w2 g1 wl ∧ kb < w2.heap.size ∧ g1 < w2.heap.size ∧ HAt w2 hb s.l ∧ Below hb w w2) := by
        obtain ⟨h1, h2, h3, h4⟩ := H1.out
        have hz := HB2.out.size
        have hl := h3.lt
        have hk := HK.out.2.1
        exact ⟨(HK.out.1.upB h4 hk).up HB2.out (by omega), h1.up HB2.out h2, by omega, by omega, h3.up2 HB2.out, h4.trans (HB2.out.mono (by omega))⟩
      go_wp2
      refine loop6 _ _ _ _ _ _ _ _ _ _ _ _ _ _ _ _ _ _ _ _ _ _ _ _ _ _ _ _ _ _ _ _ _ _ _ _ _ _ _ _ _ _ _ _ _ _ _ _ _ _ _ _ _ _ _ _ _ _ _ _ _ _ _ _ _ _ _ _ _ _ _ _ _ _ _ _ _ _ _ _ _ _ _ _ _ _ _ _ _ _ _ _ _ _ _ _ _ _ _ _ _ _ _ _ _ _ _ _ _ _ _ _ _ _ _ _ _ _ _ _ _ _ _ _ _ _ _ _ _ _ _ _ _ _ _ _ _ _ _ _ _ _ _ _ _ _ _ _ _ _ _ _ _ _ _ _ _ _ _ _ _ _ _ _ _ _ _ _ _ _ _ _ _ _ _ _ _ _ _ _ _ _ _ _ _ _ _ _ _ _ _ _ _ _ _ _ _ _ _ _ _ _ _ _ _ _ _ _ _ _ _ _ _ _ _ _ _ _ _ _ _ _ _ _ _ _ _ _ _ _ _ _ _ _ _ _ _ _ _ _ _ _ _ _ _ _ _ _ _ _ _ _ _ _ _ _ _ _ _ _ _ _ _ _ _ _ _ _ _ _ _ _ _ _ _ _ _ _ _ _ w2 s HV.out.2.2 wl ks HW1.out HK.out.2.2.1 HW2.out HK.out.2.2.2 kb kc g1 c1 g2 cap2 H2K.out.1 H2K.out.2.1 H2K.out.2.2.1 H2K.out.2.2.2.1 H2.out.1 H2.out.2.1 _ ?_
      intro _ _ _ _ _ _ _ _ _ _ _ _ _ _ _ _ _ _ _ _ _ _ _ _ _ _ _ _ _ _ _ _ _ _ _ _ _ _ _ _ _ _ _ _ _ _ _ _ _ _ _ _ _ _ _ _ _ _ _ _ _ _ _ _ _ _ _ _ _ _ _ _ _ _ _ _ _ _ _ _ _ _ _ _ _ _ _ _ _ _ _ _ _ _ _ _ _ _ _ _ _ _ _ _ _ _ _ _ _ _ _ _ _ g3 c3 w3 hv3 hg3 hgo3 hb3
      have H3 : Hid (VAt w3 g3 (roundsN wl ks 64 s) ∧ HAt w3 hb s.l ∧ hb ≠ g3 ∧ Below hb w w3) := by
        have hl := H1.out.2.2.1.lt
        have hz := HB2.out.size
        refine ⟨hv3, H2K.out.2.2.2.2.1.up2 hb3, ?_, H2K.out.2.2.2.2.2.trans (hb3.mono (by omega))⟩
        have := H2.out.2.2
        rcases hgo3 with h | h <;> omega
      clear hv3 hg3 hgo3 hb3
      have HRO : Hid ((roundsN wl ks 64 s).ok) := roundsN_ok wl ks 64 s HV.out.2.2
      generalize roundsN wl ks 64 s = r at H3 HRO HNX
      go_wp2
      refine loop7 _ _ _ _ _ _ _ _ _ _ _ _ _ _ _ _ _ _ _ _ _ _ _ _ _ _ _ _ _ _ _ _ _ _ _ _ _ _ _ _ _ _ _ _ _ _ _ _ _ _ _ _ _ _ _ _ _ _ _ _ _ _ _ _ _ _ _ _ _ _ _ _ _ _ _ _ _ _ _ _ _ _ _ _ _ _ _ _ _ _ _ _ _ _ _ _ _ _ _ _ _ _ _ _ _ _ _ _ _ _ _ _ _ _ _ _ _ _ _ _ _ _ _ _ _ _ _ _ _ _ _ _ _ _ _ _ _ _ _ _ _ _ _ _ _ _ _ _ _ _ _ _ _ _ _ _ _ _ _ _ _ _ _ _ _ _ _ _ _ _ _ _ _ _ _ _ _ _ _ _ _ _ _ _ _ _ _ _ _ _ _ _ _ _ _ _ _ _ _ _ _ _ _ _ _ _ _ _ _ _ _ _ _ _ _ _ _ _ _ _ _ _ _ _ _ _ _ _ _ _ _ _ _ _ _ _ _ _ _ _ _ _ _ _ _ _ _ _ _ _ _ _ _ _ _ _ _ _ _ _ _ _ _ _ _ _ _ _ _ _ _ _ _ _ _ _ _ _ _ _ _ w3 s r HV.out.2.2 HRO.out hb hc g3 c3 H3.out.2.1 H3.out.1 H3.out.2.2.1 _ ?_
      intro _ _ _ _ _ _ _ _ _ _ _ _ _ _ _ _ _ _ w4 hh4 hb4
      have H4 : Hid (HAt w4 hb (stF P ks 0 q (n + 1)).l ∧ Below hb w w4) := ⟨by rw [HNX.out]; exact hh4, H3.out.2.2.2.trans hb4⟩
      clear hh4 hb4
      go_wp2
      refine ⟨⟨n + 1, HNN.out.2, ?_, H4.out.1, H4.out.2⟩, ?_⟩
      · exact congrArg (Value.int .i64) (by omega)
      · simp only [intOf]
        omega
    · obtain rfl : n = N := by omega
      go_wp2
      exact HX.out _ _ _ _ _ _ _ _ _ _ _ _ _ _ _ _ _ _ _ _ _ _ _ _ _ _ _ _ _ _ _ _ _ _ _ _ _ _ _ _ _ _ _ _ _ _ _ _ _ _ _ _ _ _ _ _ _ _ _ _ _ _ _ _ _ _ _ _ _ _ _ _ _ _ _ _ _ _ _ _ _ _ _ _ _ _ _ _ _ _ _ _ _ _ _ _ _ _ _ _ _ _ _ _ _ _ _ _ _ _ _ _ _ _ _ _ _ _ _ _ _ _ _ _ _ _ _ _ _ _ _ _ _ _ _ _ _ _ _ _ _ _ _ _ _ _ _ _ _ _ _ _ _ _ _ _ _ _ _ _ _ _ _ _ _ _ _ _ _ _ _ _ _ _ _ _ _ _ _ _ _ _ _ _ _ _ _ _ _ _ _ _ _ _ _ _ _ _ _ _ _ _ _ _ _ _ _ _ _ _ _ _ _ _ _ _ _ _ _ _ _ _ _ HV.out.1 HV.out.2.1
end Go.Proofs.YtcdgdmhlbgbklaaGreatDoor

/- The document's own Sum: its digits. -/
namespace Go.Proofs.YtcdgdmhlbgbklaaGreatDoor
open Go.RowKit

theorem hexd_hexC : ∀ n, n < 16 → hexd n = hexC n := by decide
theorem digit_facts (x jn p d r : Nat) (hx : x < 2 ^ 32) (hp : p = 2 ^ (4 * jn)) (hd : d = x / p) (hr : r = d % 16) :
    ((p : Int) == 0) = false ∧ ¬ (p : Int) = 0 ∧ ¬ p = 0 ∧ (x : Int) / (p : Int) = (d : Int) ∧ (x : Int).tdiv (p : Int) = (d : Int) ∧ IntKind.i64.wrap (d : Int) = (d : Int) ∧ (d : Int) % 16 = (r : Int) ∧ (d : Int).tmod 16 = (r : Int) ∧ IntKind.i64.wrap (r : Int) = (r : Int) := by
  have hp0 : 0 < p := by rw [hp]; exact Nat.two_pow_pos _
  have hdl : d < 4294967296 := by rw [hd]; exact Nat.lt_of_le_of_lt (Nat.div_le_self _ _) hx
  exact ⟨beq_eq_false_iff_ne.2 (by omega), by omega, by omega, by rw [hd]; push_cast; rfl, by rw [hd]; exact tdivN x p, wr62 d hdl, by omega, by rw [hr]; exact tmodN d 16, wr62 r (by omega)⟩

set_option maxHeartbeats 4000000 in
set_option maxRecDepth 100000 in
theorem r49 (x0 x1 x2 x3 x4 x5 x6 x8 x9 x10 x11 x12 x13 x14 x15 x16 x17 x18 x19 x20 x21 x22 x23 x24 x25 x29 x30 x31 x32 x33 x34 x35 x36 x37 x38 x39 x40 x41 x42 x43 x44 x45 x46 x47 x48 x49 x50 x51 x52 x53 x54 x55 x56 x57 x58 x59 x60 x61 x62 x63 x64 x65 x66 x67 x68 x69 x70 x71 x72 x73 x74 x75 x76 x77 x78 x79 x80 x81 x82 x83 x84 x85 x86 x87 x88 x89 x90 x91 x92 x93 x94 x95 x96 x97 x98 x99 x100 x101 x102 x103 x104 x105 x106 x107 x108 x109 x110 x111 x112 x113 x114 x115 x116 x117 x118 x119 x120 x121 x122 x123 x124 x125 x126 x127 x128 x129 x130 x131 x132 x133 x134 x135 x136 x137 x138 x139 x140 x141 x142 x143 x144 x145 x146 x147 x148 x149 x150 x151 x152 x153 x154 x155 x156 x157 x158 x159 x160 x161 x162 x163 x164 x165 x166 x167 x168 x169 x170 x171 x172 x173 x174 x175 x176 x177 x178 x179 x180 x181 x182 x183 x184 x185 x186 x187 x188 x189 x190 x191 x192 x193 x194 x195 x196 x197 x198 x199 x200 x201 x202 x203 x204 x205 x206 x207 x208 x209 x210 x211 x212 x213 x214 x215 x216 x217 x218 x219 x220 x221 x222 x223 x224 x225 x226 x227 x228 x229 x230 x231 x232 x233 x234 x235 x236 x237 x238 x239 x240 x241 x242 x243 x244 x245 x246 x247 x248 x249 x250 x251 x252 x253 x254 x255 x256 x257 x258 x259 x260 x261 x262 x263 x264 x265 x266 x267 x268 x269 x270 x271 x272 x273 x274 x275 x276 x277 x278 x279 x280 x281 x282 x283 : Value) (w : World) (hb hc i jn x : Nat) (b1 b3 : ByteArray) (hi : i < 8) (hj : jn ≤ 7) (hx : x < 2 ^ 32) (c0 : w.cell? ⟨hb, i, none⟩ = some (.int .i64 x))
    (hadd : ∀ W : World, (Op.stringOp .add b1 ⟨#[UInt8.ofNat (hexC (x / 2 ^ (4 * jn) % 16))]⟩).run Tryz.prog W = .ok (.string b3) W) (Q0 : Exit → Act → World → Prop)
    (hexit : ∀ (u271 u272 u273 u274 u275 u276 u277 u278 u279 u280 u281 u282 : Value) (n : Nat), Q0 .normal ⟨#[x0, x1, x2, x3, x4, x5, x6, .slice (some ⟨hb, 0, none⟩) 8 hc, x8, x9, x10, x11, x12, x13, x14, x15, x16, x17, x18, x19, x20, x21, x22, x23, x24, x25, .string b3, .int .i64 i, .int .i64 jn, x29, x30, x31, x32, x33, x34, x35, x36, x37, x38, x39, x40, x41, x42, x43, x44, x45, x46, x47, x48, x49, x50, x51, x52, x53, x54, x55, x56, x57, x58, x59, x60, x61, x62, x63, x64, x65, x66, x67, x68, x69, x70, x71, x72, x73, x74, x75, x76, x77, x78, x79, x80, x81, x82, x83, x84, x85, x86, x87, x88, x89, x90, x91, x92, x93, x94, x95, x96, x97, x98, x99, x100, x101, x102, x103, x104, x105, x106, x107, x108, x109, x110, x111, x112, x113, x114, x115, x116, x117, x118, x119, x120, x121, x122, x123, x124, x125, x126, x127, x128, x129, x130, x131, x132, x133, x134, x135, x136, x137, x138, x139, x140, x141, x142, x143, x144, x145, x146, x147, x148, x149, x150, x151, x152, x153, x154, x155, x156, x157, x158, x159, x160, x161, x162, x163, x164, x165, x166, x167, x168, x169, x170, x171, x172, x173, x174, x175, x176, x177, x178, x179, x180, x181, x182, x183, x184, x185, x186, x187, x188, x189, x190, x191, x192, x193, x194, x195, x196, x197, x198, x199, x200, x201, x202, x203, x204, x205, x206, x207, x208, x209, x210, x211, x212, x213, x214, x215, x216, x217, x218, x219, x220, x221, x222, x223, x224, x225, x226, x227, x228, x229, x230, x231, x232, x233, x234, x235, x236, x237, x238, x239, x240, x241, x242, x243, x244, x245, x246, x247, x248, x249, x250, x251, x252, x253, x254, x255, x256, x257, x258, x259, x260, x261, x262, x263, x264, x265, x266, x267, x268, x269, x270, u271, u272, u273, u274, u275, u276, u277, u278, u279, u280, u281, u282, x283], []⟩ (w.drewN n)) :
    Code.wp Tryz.prog (subC [true, true, true, true, true, true, true, true, false, true, false, false, true, false, false, true, false, false, true, false, false] (Tryz.f73.body.getD .skip)) Q0 ⟨#[x0, x1, x2, x3, x4, x5, x6, .slice (some ⟨hb, 0, none⟩) 8 hc, x8, x9, x10, x11, x12, x13, x14, x15, x16, x17, x18, x19, x20, x21, x22, x23, x24, x25, .string b1, .int .i64 i, .int .i64 jn, x29, x30, x31, x32, x33, x34, x35, x36, x37, x38, x39, x40, x41, x42, x43, x44, x45, x46, x47, x48, x49, x50, x51, x52, x53, x54, x55, x56, x57, x58, x59, x60, x61, x62, x63, x64, x65, x66, x67, x68, x69, x70, x71, x72, x73, x74, x75, x76, x77, x78, x79, x80, x81, x82, x83, x84, x85, x86, x87, x88, x89, x90, x91, x92, x93, x94, x95, x96, x97, x98, x99, x100, x101, x102, x103, x104, x105, x106, x107, x108, x109, x110, x111, x112, x113, x114, x115, x116, x117, x118, x119, x120, x121, x122, x123, x124, x125, x126, x127, x128, x129, x130, x131, x132, x133, x134, x135, x136, x137, x138, x139, x140, x141, x142, x143, x144, x145, x146, x147, x148, x149, x150, x151, x152, x153, x154, x155, x156, x157, x158, x159, x160, x161, x162, x163, x164, x165, x166, x167, x168, x169, x170, x171, x172, x173, x174, x175, x176, x177, x178, x179, x180, x181, x182, x183, x184, x185, x186, x187, x188, x189, x190, x191, x192, x193, x194, x195, x196, x197, x198, x199, x200, x201, x202, x203, x204, x205, x206, x207, x208, x209, x210, x211, x212, x213, x214, x215, x216, x217, x218, x219, x220, x221, x222, x223, x224, x225, x226, x227, x228, x229, x230, x231, x232, x233, x234, x235, x236, x237, x238, x239, x240, x241, x242, x243, x244, x245, x246, x247, x248, x249, x250, x251, x252, x253, x254, x255, x256, x257, x258, x259, x260, x261, x262, x263, x264, x265, x266, x267, x268, x269, x270, x271, x272, x273, x274, x275, x276, x277, x278, x279, x280, x281, x282, x283], []⟩ w := by
  have HX : Hid _ := hexit
  clear hexit
  have hii : (i : Int) < 8 := by omega
  obtain ⟨p, hp⟩ : ∃ p, p = 2 ^ (4 * jn) := ⟨_, rfl⟩
  rw [← hp] at hadd
  obtain ⟨d, hd⟩ : ∃ d, d = x / p := ⟨_, rfl⟩
  obtain ⟨r, hr⟩ : ∃ r, r = d % 16 := ⟨_, rfl⟩
  rw [← hd, ← hr] at hadd
  obtain ⟨z, hz⟩ : ∃ z, z = 4 * jn := ⟨_, rfl⟩
  have hr16 : r < 16 := by omega
  have HP : Hid (∀ W : World, Calls Tryz.prog 123 #[.int .i64 z] W fun e w' => e = .returned (.int .i64 (p : Nat)) ∧ w' = W) := fun W => by rw [hp, ← hz]; exact Pow2_any z W (by omega)
  have HH : Hid (∀ W : World, Calls Tryz.prog 130 #[.int .i64 r] W fun e w' => e = .returned (.string ⟨#[UInt8.ofNat (hexC r)]⟩) ∧ w' = W) := fun W => by rw [← hexd_hexC r hr16]; exact hexDigit_any r W hr16
  generalize (⟨#[UInt8.ofNat (hexC r)]⟩ : ByteArray) = b2 at hadd HH
  have e1 : 4 * (jn : Int) = (z : Int) := by omega
  have f0 := wr62 z (by omega)
  obtain ⟨d1, d2, d3, d4, d5, d6, d7, d8, d9⟩ := digit_facts x jn p d r hx hp hd hr
  clear hp hd hr hz hr16 hx hj hi
  conv => arg 2; whnf
  go_quiet (first
    | (go_at_call 123; refine Calls.quiet_of_same (HP.out _))
    | (go_at_call 130; refine Calls.quiet_of_same (HH.out _)))
  exact HX.out _ _ _ _ _ _ _ _ _ _ _ _ _

theorem addc (l : List UInt8) (c : UInt8) (h : l.length + 1 ≤ 9223372036854775807) (W : World) : (Op.stringOp .add ⟨l.toArray⟩ ⟨#[c]⟩).run Tryz.prog W = .ok (.string ⟨(l ++ [c]).toArray⟩) W := by
  refine (run_string_add_sum (w := W) _ _ (by rw [show (⟨l.toArray⟩ : ByteArray).size = l.length from by show l.toArray.size = _; simp, show (⟨#[c]⟩ : ByteArray).size = 1 from rfl]; exact h)).trans ?_
  rw [show (⟨#[c]⟩ : ByteArray) = ⟨[c].toArray⟩ from rfl, ByteArray.mk_append_mk]
/-- The digits of the first i numbers. -/
def preD (l : List Nat) (i : Nat) : List UInt8 := (l.take i).flatMap fun x => (List.range 8).map (digN x)
theorem preD_next (l : List Nat) (i : Nat) (h : i < l.length) : preD l (i + 1) = preD l i ++ (List.range 8).map (digN (l.getD i 0)) := by
  unfold preD
  rw [List.take_succ_eq_append_getElem h, List.flatMap_append, List.getD_eq_getElem?_getD, List.getElem?_eq_getElem h]
  simp
theorem flat8 (l : List Nat) : (l.flatMap fun x => (List.range 8).map (digN x)).length = 8 * l.length := by
  induction l with
  | nil => rfl
  | cons a l ih => rw [List.flatMap_cons, List.length_append, ih, List.length_map, List.length_range, List.length_cons]; omega
theorem preD_len (l : List Nat) (i : Nat) (h : i ≤ 8) : (preD l i).length ≤ 64 := by
  unfold preD
  rw [flat8, List.length_take]
  omega

set_option maxHeartbeats 40000000 in
set_option maxRecDepth 100000 in
theorem loop8 (x0 x1 x2 x3 x4 x5 x6 x8 x9 x10 x11 x12 x13 x14 x15 x16 x17 x18 x19 x20 x21 x22 x23 x24 x25 x28 x29 x30 x31 x32 x33 x34 x35 x36 x37 x38 x39 x40 x41 x42 x43 x44 x45 x46 x47 x48 x49 x50 x51 x52 x53 x54 x55 x56 x57 x58 x59 x60 x61 x62 x63 x64 x65 x66 x67 x68 x69 x70 x71 x72 x73 x74 x75 x76 x77 x78 x79 x80 x81 x82 x83 x84 x85 x86 x87 x88 x89 x90 x91 x92 x93 x94 x95 x96 x97 x98 x99 x100 x101 x102 x103 x104 x105 x106 x107 x108 x109 x110 x111 x112 x113 x114 x115 x116 x117 x118 x119 x120 x121 x122 x123 x124 x125 x126 x127 x128 x129 x130 x131 x132 x133 x134 x135 x136 x137 x138 x139 x140 x141 x142 x143 x144 x145 x146 x147 x148 x149 x150 x151 x152 x153 x154 x155 x156 x157 x158 x159 x160 x161 x162 x163 x164 x165 x166 x167 x168 x169 x170 x171 x172 x173 x174 x175 x176 x177 x178 x179 x180 x181 x182 x183 x184 x185 x186 x187 x188 x189 x190 x191 x192 x193 x194 x195 x196 x197 x198 x199 x200 x201 x202 x203 x204 x205 x206 x207 x208 x209 x210 x211 x212 x213 x214 x215 x216 x217 x218 x219 x220 x221 x222 x223 x224 x225 x226 x227 x228 x229 x230 x231 x232 x233 x234 x235 x236 x237 x238 x239 x240 x241 x242 x243 x244 x245 x246 x247 x248 x249 x250 x251 x252 x253 x254 x255 x256 x257 x258 x259 x260 x261 x262 x263 x264 x265 x266 x267 x268 x269 x270 x271 x272 x273 x274 x275 x276 x277 x278 x279 x280 x281 x282 x283 : Value) (w : World) (q : N8) (hq : q.ok) (hb hc : Nat) (hh : HAt w hb q.l) (Q0 : Exit → Act → World → Prop)
    (hexit : ∀ (u27 u28 u263 u264 u265 u266 u267 u268 u269 u270 u271 u272 u273 u274 u275 u276 u277 u278 u279 u280 u281 u282 : Value) (w' : World), Below w.heap.size w w' → Q0 (.exit 14) ⟨#[x0, x1, x2, x3, x4, x5, x6, .slice (some ⟨hb, 0, none⟩) 8 hc, x8, x9, x10, x11, x12, x13, x14, x15, x16, x17, x18, x19, x20, x21, x22, x23, x24, x25, .string ⟨(digsN q).toArray⟩, u27, u28, x29, x30, x31, x32, x33, x34, x35, x36, x37, x38, x39, x40, x41, x42, x43, x44, x45, x46, x47, x48, x49, x50, x51, x52, x53, x54, x55, x56, x57, x58, x59, x60, x61, x62, x63, x64, x65, x66, x67, x68, x69, x70, x71, x72, x73, x74, x75, x76, x77, x78, x79, x80, x81, x82, x83, x84, x85, x86, x87, x88, x89, x90, x91, x92, x93, x94, x95, x96, x97, x98, x99, x100, x101, x102, x103, x104, x105, x106, x107, x108, x109, x110, x111, x112, x113, x114, x115, x116, x117, x118, x119, x120, x121, x122, x123, x124, x125, x126, x127, x128, x129, x130, x131, x132, x133, x134, x135, x136, x137, x138, x139, x140, x141, x142, x143, x144, x145, x146, x147, x148, x149, x150, x151, x152, x153, x154, x155, x156, x157, x158, x159, x160, x161, x162, x163, x164, x165, x166, x167, x168, x169, x170, x171, x172, x173, x174, x175, x176, x177, x178, x179, x180, x181, x182, x183, x184, x185, x186, x187, x188, x189, x190, x191, x192, x193, x194, x195, x196, x197, x198, x199, x200, x201, x202, x203, x204, x205, x206, x207, x208, x209, x210, x211, x212, x213, x214, x215, x216, x217, x218, x219, x220, x221, x222, x223, x224, x225, x226, x227, x228, x229, x230, x231, x232, x233, x234, x235, x236, x237, x238, x239, x240, x241, x242, x243, x244, x245, x246, x247, x248, x249, x250, x251, x252, x253, x254, x255, x256, x257, x258, x259, x260, x261, x262, u263, u264, u265, u266, u267, u268, u269, u270, u271, u272, u273, u274, u275, u276, u277, u278, u279, u280, u281, u282, x283], []⟩ w') :
    Code.wp Tryz.prog (subC [true, true, true, true, true, true, true, true, false, true, false] (Tryz.f73.body.getD .skip)) Q0 ⟨#[x0, x1, x2, x3, x4, x5, x6, .slice (some ⟨hb, 0, none⟩) 8 hc, x8, x9, x10, x11, x12, x13, x14, x15, x16, x17, x18, x19, x20, x21, x22, x23, x24, x25, .string ⟨#[]⟩, .int .i64 0, x28, x29, x30, x31, x32, x33, x34, x35, x36, x37, x38, x39, x40, x41, x42, x43, x44, x45, x46, x47, x48, x49, x50, x51, x52, x53, x54, x55, x56, x57, x58, x59, x60, x61, x62, x63, x64, x65, x66, x67, x68, x69, x70, x71, x72, x73, x74, x75, x76, x77, x78, x79, x80, x81, x82, x83, x84, x85, x86, x87, x88, x89, x90, x91, x92, x93, x94, x95, x96, x97, x98, x99, x100, x101, x102, x103, x104, x105, x106, x107, x108, x109, x110, x111, x112, x113, x114, x115, x116, x117, x118, x119, x120, x121, x122, x123, x124, x125, x126, x127, x128, x129, x130, x131, x132, x133, x134, x135, x136, x137, x138, x139, x140, x141, x142, x143, x144, x145, x146, x147, x148, x149, x150, x151, x152, x153, x154, x155, x156, x157, x158, x159, x160, x161, x162, x163, x164, x165, x166, x167, x168, x169, x170, x171, x172, x173, x174, x175, x176, x177, x178, x179, x180, x181, x182, x183, x184, x185, x186, x187, x188, x189, x190, x191, x192, x193, x194, x195, x196, x197, x198, x199, x200, x201, x202, x203, x204, x205, x206, x207, x208, x209, x210, x211, x212, x213, x214, x215, x216, x217, x218, x219, x220, x221, x222, x223, x224, x225, x226, x227, x228, x229, x230, x231, x232, x233, x234, x235, x236, x237, x238, x239, x240, x241, x242, x243, x244, x245, x246, x247, x248, x249, x250, x251, x252, x253, x254, x255, x256, x257, x258, x259, x260, x261, x262, x263, x264, x265, x266, x267, x268, x269, x270, x271, x272, x273, x274, x275, x276, x277, x278, x279, x280, x281, x282, x283], []⟩ w := by
  have HX : Hid _ := hexit
  have HD : Hid (digsN q = preD q.l 8) := rfl
  have HH : Hid (HAt w hb q.l ∧ q.ok ∧ q.l.length = 8) := ⟨hh, hq, rfl⟩
  have HQ : Hid (∀ i, q.l.getD i 0 < 2 ^ 32) := fun i => N8.l_lt hq i
  rw [HD.out] at HX
  clear hexit hh hq HD
  generalize q.l = ql at HX HH HQ
  conv => arg 2; whnf
  dsimp only
  go_loopw [26, 27] (fun v i wr => ∃ k : Nat, k ≤ 8 ∧ i = .int .i64 k ∧ v = .string ⟨(preD ql k).toArray⟩ ∧ Below w.heap.size w wr) (fun _ i _ => 8 - (intOf i).toNat)
  case atStart => exact ⟨0, by omega, rfl, rfl, Below.refl _ _⟩
  case round =>
    obtain ⟨k, hk, rfl, rfl, hbl⟩ := hrel
    have HV : Hid (Below w.heap.size w wr) := hbl
    clear hbl
    by_cases hlt : k < 8
    · have hki : (k : Int) < 8 := by omega
      have HPL : Hid ((preD ql k).length ≤ 64) := preD_len ql k hk
      have HPN : Hid (preD ql (k + 1) = preD ql k ++ (List.range 8).map (digN (ql.getD k 0))) := preD_next ql k (by rw [HH.out.2.2]; exact hlt)
      have HC : Hid (∀ W : World, Below w.heap.size w W → W.cell? ⟨hb, k, none⟩ = some (.int .i64 (ql.getD k 0 : Nat))) := fun W hW => (HH.out.1.up2 hW).lat k (by rw [HH.out.2.2]; exact hlt)
      have HXL : Hid (ql.getD k 0 < 2 ^ 32) := HQ.out k
      generalize ql.getD k 0 = x at HPN HC HXL
      generalize preD ql k = pre at HPL HPN
      go_wp2
      go_loopw [26, 28] (fun v j wy => ∃ m : Nat, m ≤ 8 ∧ j = .int .i64 (7 - (m : Int)) ∧ v = .string ⟨(pre ++ (List.range m).map (digN x)).toArray⟩ ∧ Below w.heap.size w wy) (fun _ j _ => (intOf j + 1).toNat)
      case atStart => exact ⟨0, by omega, rfl, by simp, HV.out⟩
      case round =>
        clear HV
        obtain ⟨m, hm, rfl, rfl, hbl⟩ := hrel
        have HV : Hid (Below w.heap.size w _) := hbl
        clear hbl
        by_cases hm8 : m < 8
        · obtain ⟨jn, hjn⟩ : ∃ jn : Nat, jn = 7 - m := ⟨_, rfl⟩
          have e1 : (7 : Int) - (m : Int) = (jn : Int) := by omega
          have HJ : Hid (jn = 7 - m ∧ jn ≤ 7 ∧ (jn : Int) - 1 = 7 - ((m + 1 : Nat) : Int)) := ⟨hjn, by omega, by omega⟩
          have HA : Hid (∀ W : World, (Op.stringOp .add ⟨(pre ++ (List.range m).map (digN x)).toArray⟩ ⟨#[UInt8.ofNat (hexC (x / 2 ^ (4 * jn) % 16))]⟩).run Tryz.prog W = .ok (.string ⟨(pre ++ (List.range (m + 1)).map (digN x)).toArray⟩) W) := fun W => by
            rw [addc _ _ (by have := HPL.out; simp; omega) W]
            have : digN x m = UInt8.ofNat (hexC (x / 2 ^ (4 * jn) % 16)) := by
              unfold digN
              rw [show 28 - 4 * m = 4 * jn from by omega]
            rw [← this, List.range_succ, List.map_append, List.append_assoc]
            rfl
          clear hjn
          rw [e1]
          go_wp2
          refine r49 _ _ _ _ _ _ _ _ _ _ _ _ _ _ _ _ _ _ _ _ _ _ _ _ _ _ _ _ _ _ _ _ _ _ _ _ _ _ _ _ _ _ _ _ _ _ _ _ _ _ _ _ _ _ _ _ _ _ _ _ _ _ _ _ _ _ _ _ _ _ _ _ _ _ _ _ _ _ _ _ _ _ _ _ _ _ _ _ _ _ _ _ _ _ _ _ _ _ _ _ _ _ _ _ _ _ _ _ _ _ _ _ _ _ _ _ _ _ _ _ _ _ _ _ _ _ _ _ _ _ _ _ _ _ _ _ _ _ _ _ _ _ _ _ _ _ _ _ _ _ _ _ _ _ _ _ _ _ _ _ _ _ _ _ _ _ _ _ _ _ _ _ _ _ _ _ _ _ _ _ _ _ _ _ _ _ _ _ _ _ _ _ _ _ _ _ _ _ _ _ _ _ _ _ _ _ _ _ _ _ _ _ _ _ _ _ _ _ _ _ _ _ _ _ _ _ _ _ _ _ _ _ _ _ _ _ _ _ _ _ _ _ _ _ _ _ _ _ _ _ _ _ _ _ _ _ _ _ _ _ _ _ _ _ _ _ _ _ _ _ _ _ _ _ _ _ _ _ _ _ _ hb hc k jn x _ ⟨(pre ++ (List.range (m + 1)).map (digN x)).toArray⟩ hlt HJ.out.2.1 HXL.out (HC.out _ HV.out) HA.out _ ?_
          intro _ _ _ _ _ _ _ _ _ _ _ _ nn
          go_wp2
          refine ⟨⟨m + 1, by omega, congrArg (Value.int .i64) HJ.out.2.2, rfl, bl_dn HV.out _⟩, ?_⟩
          simp only [intOf]
          omega
        · obtain rfl : m = 8 := by omega
          go_wp2
          refine ⟨⟨k + 1, by omega, by go_num, by rw [HPN.out], HV.out⟩, by simp [intOf]; omega⟩
    · obtain rfl : k = 8 := by omega
      go_wp2
      exact HX.out _ _ _ _ _ _ _ _ _ _ _ _ _ _ _ _ _ _ _ _ _ _ _ HV.out
end Go.Proofs.YtcdgdmhlbgbklaaGreatDoor

/- The document's own Sum: the text with its ending. -/
namespace Go.Proofs.YtcdgdmhlbgbklaaGreatDoor
open Go.RowKit

/-- These bytes, at the head of a block from B on, with spare room that may be written. -/
def Bs (B : Nat) (w : World) (v : Value) (L : List UInt8) : Prop :=
  ∃ g cap, v = .slice (some ⟨g, 0, none⟩) L.length cap ∧ B ≤ g ∧ g < w.heap.size ∧ L.length ≤ cap ∧ PAt w g L ∧ ∀ j, L.length ≤ j → j < cap → (w.cell? ⟨g, j, none⟩).isSome = true ∧ w.frozen? ⟨g, j, none⟩ = false
theorem Bs.dr {B : Nat} {w : World} {v : Value} {L : List UInt8} (h : Bs B w v L) : Bs B w.drew v L := h
theorem Bs.al {B : Nat} {w : World} {v : Value} {L : List UInt8} (h : Bs B w v L) (o : Obj) : Bs B (w.alloc o) v L := by
  obtain ⟨g, cap, rfl, h1, h2, h3, h4, h5⟩ := h
  have hb := bl_al (Below.refl w.heap.size w) o
  have hc : ∀ j, (w.alloc o).cell? ⟨g, j, none⟩ = w.cell? ⟨g, j, none⟩ := fun j => hb.cell (p := ⟨g, j, none⟩) h2
  have hf : ∀ j, (w.alloc o).frozen? ⟨g, j, none⟩ = w.frozen? ⟨g, j, none⟩ := fun j => by
    unfold World.frozen?
    rw [show (w.alloc o).heap[(⟨g, j, none⟩ : Addr).block]? = w.heap[(⟨g, j, none⟩ : Addr).block]? from hb.block g h2]
  refine ⟨g, cap, rfl, h1, by rw [World.size_alloc]; omega, h3, h4.up hb h2, fun j a b => ?_⟩
  rw [hc, hf]
  exact h5 j a b
theorem bcsL_get (L : List UInt8) (j : Nat) (u : Value) (h : (bcs L)[j]? = some u) : j < L.length ∧ u = .int .u8 ((L.getD j 0).toNat : Nat) := by
  have hj : j < L.length := by
    have := (List.getElem?_eq_some_iff.1 h).1
    simpa [bcs] using this
  refine ⟨hj, ?_⟩
  rw [List.getD_eq_getElem?_getD, List.getElem?_eq_getElem hj]
  simp [bcs, hj] at h
  exact h.symm
theorem bcs_get (L : List UInt8) (j : Nat) (hj : j < L.length) : (bcs L)[j]? = some (.int .u8 ((L.getD j 0).toNat : Nat)) := by
  unfold bcs
  rw [List.getElem?_map, List.getD_eq_getElem?_getD, List.getElem?_eq_getElem hj]
  rfl
theorem getD_app (L : List UInt8) (c : UInt8) (j : Nat) : (L ++ [c]).getD j 0 = if j < L.length then L.getD j 0 else if j = L.length then c else 0 := by
  rw [List.getD_eq_getElem?_getD, List.getD_eq_getElem?_getD, List.getElem?_append]
  split
  · rfl
  · split
    · subst_vars; simp
    · rw [List.getElem?_eq_none (by simp; omega)]; rfl

/-- One byte more. -/
theorem run_append_bs (w ww : World) (ty : TypeId) (B : Nat) (v : Value) (L : List UInt8) (hbs : Bs B w v L) (hbl : Below B ww w) (ad : Addr) (c0 : Nat) (c : UInt8) (hc : w.cell? ad = some (.int .u8 (c.toNat : Nat))) (hlen : L.length + 1 ≤ 140737488355328) :
    ∃ v' w', (Builtin.append_ #[125, 125] ty #[v, .slice (some ad) 1 c0]).run Tryz.prog w = .ok v' w' ∧ Bs B w' v' (L ++ [c]) ∧ Below B ww w' := by
  obtain ⟨i0, hi, hz0, hz1, hz2⟩ := info_p infB
  obtain ⟨g, cap, rfl, hg1, hg2, hcap, hP, hS⟩ := hbs
  have hnews : ∀ j u, [Value.int .u8 (c.toNat : Nat)][j]? = some u → w.cell? (ad.add j) = some u := by
    intro j u hj
    match j, hj with
    | 0, hj => simp at hj; subst hj; simpa [Addr.add] using hc
  by_cases hr : L.length + 1 ≤ cap
  · have hrun := run_append_room_cells (P := Tryz.prog) w 125 ty 5 i0 Tryz.underlying125 hi g 0 L.length cap ad 1 c0 [.int .u8 (c.toNat : Nat)] (by rw [hz1]; rfl) hnews (by intro u hu; simp at hu; subst hu; rfl) hr (fun j hj => by rw [hz1]; simp at hj; subst hj; simpa using (hS L.length (Nat.le_refl _) (by omega)).1) (fun j hj => by rw [hz1]; simp at hj; subst hj; simpa using (hS L.length (Nat.le_refl _) (by omega)).2)
    refine ⟨_, _, hrun, ?_, ?_⟩
    · rw [hz1]
      have es : w.setCells g (0 + L.length * 1) [.int .u8 (c.toNat : Nat)] = w.setCell ⟨g, L.length, none⟩ (.int .u8 (c.toNat : Nat)) := by simp [World.setCells]
      rw [es]
      have hsame := World.cell?_setCell_same' w ⟨g, L.length, none⟩ (.int .u8 (c.toNat : Nat)) (hS L.length (Nat.le_refl _) (by omega)).1
      have hoth : ∀ j, j ≠ L.length → (w.setCell ⟨g, L.length, none⟩ (.int .u8 (c.toNat : Nat))).cell? ⟨g, j, none⟩ = w.cell? ⟨g, j, none⟩ := fun j hj => World.cell?_setCell_other w _ _ _ (by intro e; injection e with e1 e2; omega)
      refine ⟨g, cap, by simp, hg1, by simpa [World.setCell] using hg2, by simpa using hr, ?_, ?_⟩
      · intro j hj
        rw [getD_app]
        simp at hj
        by_cases h : j < L.length
        · rw [if_pos h, hoth j (by omega)]
          exact hP j h
        · obtain rfl : j = L.length := by omega
          rw [if_neg h, if_pos rfl]
          exact hsame
      · intro j h1 h2
        simp at h1
        rw [hoth j (by omega), World.frozen?_setCell]
        exact hS j (by omega) h2
    · rw [hz1]
      have es : w.setCells g (0 + L.length * 1) [.int .u8 (c.toNat : Nat)] = w.setCell ⟨g, L.length, none⟩ (.int .u8 (c.toNat : Nat)) := by simp [World.setCells]
      rw [es]
      exact hbl.setCell (p := ⟨g, L.length, none⟩) hg1 _
  · obtain ⟨v', w', hrun, hown, hgr⟩ := run_append_arg_grows (P := Tryz.prog) w 125 ty 5 i0 (.int .u8 0) 1 1 Tryz.underlying125 hi hz0 hz1 hz2 rfl (by decide) ⟨g, 0, none⟩ L.length cap (bcs L) (by simp [bcs]) (fun j u hj => by
        obtain ⟨h1, rfl⟩ := bcsL_get L j u hj
        rw [add0C]
        exact hP j h1) ad 1 c0 [.int .u8 (c.toNat : Nat)] rfl hnews (by omega) (by unfold maxLen; omega) (by omega)
    refine ⟨v', w', hrun, ?_, hbl.grown hgr (by omega) (by intro k hk; cases hk)⟩
    rcases hown.2 with ⟨_, h0⟩ | ⟨g', cap', cur, hv, hb, hg, hn, hm, hcs, htk⟩
    · omega
    · subst hv
      refine ⟨g', cap', by simp, by omega, (Array.getElem?_eq_some_iff.1 hg).1, by simpa using hn, ?_, ?_⟩
      · intro j hj
        have hj' : j < L.length + 1 := by simpa using hj
        have hl := hown.cellAt j (by omega)
        rw [hl, show bcs L ++ [Value.int .u8 (c.toNat : Nat)] = bcs (L ++ [c]) from by simp [bcs]]
        exact bcs_get _ _ hj
      · intro j h1 h2
        refine ⟨?_, Lib.frozen_of_heap hg j⟩
        rw [Lib.cell_of_heap hg, Array.getElem?_eq_getElem (by omega)]
        rfl

theorem wpList_append_bs {ops : Array Oper} {rest : List Oper} {o : Oper} {a : Act} {Q : Exit → Act → World → Prop} (w ww : World) (hgd : o.guard = none) (s x : Operand)
    (ho : o.op = .call { callee := .builtin .append, args := #[s, x], argTypes := #[125, 125] }) (B : Nat) (v : Value) (L : List UInt8) (hs : a.eval s = v) (hbs : Bs B w v L) (hbl : Below B ww w)
    (ad : Addr) (c0 : Nat) (c : UInt8) (hx : a.eval x = .slice (some ad) 1 c0) (hc : w.cell? ad = some (.int .u8 (c.toNat : Nat))) (hlen : L.length + 1 ≤ 140737488355328)
    (h : ∀ v' w', Bs B w' v' (L ++ [c]) → Below B ww w' → wpList Tryz.prog ops Q rest (a.put o.dst v') w') : wpList Tryz.prog ops Q (o :: rest) a w := by
  obtain ⟨v', w', hr, h1, h2⟩ := run_append_bs w ww o.type B v L hbs hbl ad c0 c hc hlen
  refine wpList_plain hgd fun K hK => ?_
  unfold Oper.wp execOp
  simp only [ho, resolve, invoke, builtin, Sem.run_bind, Sem.run_pure, Result.andThen_ok, List.map_toArray, List.map_cons, List.map_nil, hs, hx, hr]
  exact hK _ _ (h v' w' h1 h2)

/-- A text's bytes, laid anew. -/
theorem bs_of_string (w : World) (s : ByteArray) : ∃ v W, (convert 9 125 (.string s)).run Tryz.prog w = .ok v W ∧ Bs w.heap.size W v s.data.toList ∧ Below w.heap.size w W := by
  have hr := run_bytes_of_string (P := Tryz.prog) w 9 125 5 s Tryz.underlying9 Tryz.underlying125 Tryz.underlying5
  have hge := grownCap_ge w s.size 0 5
  generalize grownCap w s.size 0 5 = cap at hr hge
  have hsz : (bytesRow s cap).size = cap := by
    unfold bytesRow
    rw [Array.size_append, Array.size_map, Array.size_replicate]
    have : s.data.size = s.size := rfl
    omega
  have hl : s.data.toList.length = s.size := s_len s
  have hh : (w.drew.alloc (.cells (bytesRow s cap) 5 ((bytesRow s cap).size, (bytesRow s cap).size + 1))).heap[w.heap.size]? = some (.cells (bytesRow s cap) 5 ((bytesRow s cap).size, (bytesRow s cap).size + 1)) := heap_alloc_new w.drew _
  have hcell : ∀ j, (w.drew.alloc (.cells (bytesRow s cap) 5 ((bytesRow s cap).size, (bytesRow s cap).size + 1))).cell? ⟨w.heap.size, j, none⟩ = (bytesRow s cap)[j]? := fun j => by
    unfold World.cell?
    simp only
    rw [hh]
    rfl
  refine ⟨_, _, hr, ⟨w.heap.size, cap, by rw [hl], Nat.le_refl _, (Array.getElem?_eq_some_iff.1 hh).1, by omega, ?_, ?_⟩, (Below.refl _ _).drew.alloc (Nat.le_refl _) _⟩
  · intro j hj
    rw [hcell]
    unfold bytesRow
    rw [Array.getElem?_append, if_pos (by rw [Array.size_map]; rw [hl] at hj; exact hj), Array.getElem?_map, ← Array.getElem?_toList, List.getElem?_eq_getElem hj, List.getD_eq_getElem?_getD, List.getElem?_eq_getElem hj]
    rfl
  · intro j h1 h2
    refine ⟨?_, ?_⟩
    · rw [hcell, Array.getElem?_eq_getElem (by omega)]
      rfl
    · unfold World.frozen?
      simp only
      rw [hh]
      simp
      omega
end Go.Proofs.YtcdgdmhlbgbklaaGreatDoor

/- The document's own Sum. -/
namespace Go.Proofs.YtcdgdmhlbgbklaaGreatDoor
open Go.RowKit

theorem cu_lt : ∀ x ∈ cuN, x < 2 ^ 32 := by
  have h : cuN.all (fun x => decide (x < 2 ^ 32)) = true := by kernel_rfl
  intro x hx
  exact of_decide_eq_true (List.all_eq_true.1 h x hx)
theorem cu_len : cuN.length = 64 := by kernel_rfl
theorem sq_l : q0.l = sqN := by kernel_rfl
def lenV : Value → Nat
  | .slice _ n _ => n
  | _ => 0
/-- What is there ahead of the length: the text, 128, and so many noughts. -/
def padZ (s : ByteArray) (k : Nat) : List UInt8 := s.data.toList ++ 128 :: List.replicate k 0
theorem padZ_len (s : ByteArray) (k : Nat) : (padZ s k).length = s.size + 1 + k := by
  unfold padZ
  rw [List.length_append, s_len, List.length_cons, List.length_replicate]
  omega
theorem padZ_next (s : ByteArray) (k : Nat) : padZ s (k + 1) = padZ s k ++ [0] := by
  unfold padZ
  rw [List.append_assoc, List.replicate_succ']
  rfl
theorem padZ_pad (s : ByteArray) : padZ s (endQ s.size - 1) ++ lenBs s.size 8 = padL s := by
  unfold padZ padL endB
  rw [List.append_assoc]
  rfl
theorem lenBs_next (n j : Nat) : lenBs n (j + 1) = lenBs n j ++ [lenB n j] := by
  unfold lenBs
  rw [List.range_succ, List.map_append]
  rfl
theorem lenBs_len (n j : Nat) : (lenBs n j).length = j := by simp [lenBs]
theorem pad_64 (s : ByteArray) : (padL s).length = 64 * ((padL s).length / 64) := by
  obtain ⟨h1, h2⟩ := pad_len s
  omega
theorem pad_lt (s : ByteArray) (hs : s.size ≤ 140737488351300) : (padL s).length < 2 ^ 50 := by
  rw [← padZ_pad, List.length_append, padZ_len, lenBs_len]
  unfold endQ
  omega
theorem len_facts (n jn p d r : Nat) (hn : n ≤ 140737488351300) (hp : p = 2 ^ (8 * jn)) (hd : d = 8 * n / p) (hr : r = d % 256) :
    ((p : Int) == 0) = false ∧ ¬ (p : Int) = 0 ∧ ¬ p = 0 ∧ ((8 * n : Nat) : Int) / (p : Int) = (d : Int) ∧ ((8 * n : Nat) : Int).tdiv (p : Int) = (d : Int) ∧ IntKind.i64.wrap (d : Int) = (d : Int) ∧ (d : Int) % 256 = (r : Int) ∧ (d : Int).tmod 256 = (r : Int) ∧ IntKind.i64.wrap (r : Int) = (r : Int) ∧ IntKind.u8.wrap (r : Int) = (r : Int) := by
  have hp0 : 0 < p := by rw [hp]; exact Nat.two_pow_pos _
  have hdl : d < 2 ^ 62 := by rw [hd]; exact Nat.lt_of_le_of_lt (Nat.div_le_self _ _) (by omega)
  exact ⟨beq_eq_false_iff_ne.2 (by omega), by omega, by omega, by rw [hd]; push_cast; rfl, by rw [hd]; exact tdivN _ p, wr61 d hdl, by omega, by rw [hr]; exact tmodN d 256, wr61 r (by omega), by rw [IntKind.wrap_u8]; omega⟩

/-- What lies where the blocks begin. -/
theorem sum_mem {w W : World} {P : List UInt8} {g : Nat} {KC FC : Array Value} {ks : List Nat} {q : N8} (hbl : Below w.heap.size w W) (hP : PAt W g P) (hg : g < W.heap.size) (hK : KC = intCells ks) (hF : FC = intCells q.l) :
    Hid (PAt ((W.alloc (.cells KC 3)).alloc (.cells FC 3)) g P ∧ LAt ((W.alloc (.cells KC 3)).alloc (.cells FC 3)) W.heap.size ks ∧ HAt ((W.alloc (.cells KC 3)).alloc (.cells FC 3)) (W.heap.size + 1) q.l ∧ g < W.heap.size + 1 ∧ Below w.heap.size w ((W.alloc (.cells KC 3)).alloc (.cells FC 3))) := by
  have b1 := bl_al (Below.refl W.heap.size W) (.cells KC 3)
  have b2 := bl_al b1 (.cells FC 3)
  have hk : HAt (W.alloc (.cells KC 3)) W.heap.size ks := by unfold HAt; rw [← hK]; exact heap_alloc_new W _
  have hf : HAt ((W.alloc (.cells KC 3)).alloc (.cells FC 3)) (W.alloc (.cells KC 3)).heap.size q.l := by unfold HAt; rw [← hF]; exact heap_alloc_new _ _
  rw [World.size_alloc] at hf
  refine ⟨hP.up b2 hg, ?_, hf, Nat.lt_succ_of_lt hg, bl_tr hbl b2⟩
  exact (hk.up2 (bl_al (Below.refl _ _) (.cells FC 3))).lat

set_option maxHeartbeats 40000000 in
set_option maxRecDepth 100000 in
theorem Sum_doc (s : ByteArray) (w : World) (hs : s.size ≤ 140737488351300) :
    Calls Tryz.prog 73 #[.string s] w fun e w' => e = .returned (.string ⟨(digsN (stF (padL s) cuN 0 q0 ((padL s).length / 64))).toArray⟩) ∧ Below w.heap.size w w' := by
  obtain ⟨v0, W0, hcv, hbs, hbl⟩ := bs_of_string w s
  obtain ⟨P, hPe⟩ : ∃ P, P = padL s := ⟨_, rfl⟩
  rw [← hPe]
  obtain ⟨q9, hq9⟩ : ∃ q9, q9 = stF P cuN 0 q0 (P.length / 64) := ⟨_, rfl⟩
  rw [← hq9]
  have HPE : Hid (P = padL s ∧ P.length < 2 ^ 50 ∧ P.length = 64 * (P.length / 64)) := ⟨hPe, by rw [hPe]; exact pad_lt s hs, by rw [hPe]; exact pad_64 s⟩
  have HQ9 : Hid (q9 = stF P cuN 0 q0 (P.length / 64) ∧ q9.ok) := ⟨hq9, by rw [hq9]; exact stF_ok P cuN 0 q0 q0_ok _⟩
  clear hPe hq9
  have HS : Hid (s.size ≤ 140737488351300) := hs
  have H0 : Hid (Bs w.heap.size W0 v0 s.data.toList ∧ Below w.heap.size w W0) := ⟨hbs, hbl⟩
  have hsi : (s.size : Int) ≤ 140737488351300 := by omega
  clear hs hbs hbl
  go_enter Tryz.func73, Tryz.ntmps73
  go_wp2_with (at_builtin; refine wpList_append_bs _ w rfl _ _ rfl w.heap.size _ _ rfl (H0.out.1.al _) (H0.out.2.alloc H0.out.2.size _) ⟨_, 0, none⟩ 1 128 rfl ?c1 ?c2 ?_)
  case c1 => exact al_atC _ _ _ _ 0 _ rfl rfl
  case c2 => rw [s_len]; have := HS.out; omega
  intro v1 w1 hb1 hbl1
  have HZ : Hid (∃ z, z = endQ s.size - 1) := ⟨_, rfl⟩
  obtain ⟨z, hz⟩ := HZ.out
  have HZ2 : Hid (z = endQ s.size - 1) := hz
  have hz64 : z ≤ 63 := by rw [hz]; unfold endQ; omega
  have H1 : Hid (Bs w.heap.size w1 v1 (padZ s 0) ∧ Below w.heap.size w w1) := ⟨hb1, hbl1⟩
  clear hb1 hbl1 H0 hcv hz HZ
  go_wp2
  go_loopw [3] (fun v wr => ∃ k n g cap : Nat, k ≤ z ∧ n = s.size + 1 + k ∧ v = .slice (some ⟨g, 0, none⟩) n cap ∧ Bs w.heap.size wr v (padZ s k) ∧ Below w.heap.size w wr) (fun v _ => s.size + 1 + z - lenV v)
  case atStart =>
    obtain ⟨g, cap, hv, _⟩ := H1.out.1
    rw [padZ_len] at hv
    exact ⟨0, _, g, cap, by omega, rfl, hv, H1.out⟩
  case round =>
    clear H1
    obtain ⟨k, n, g, cap, hk, hn, rfl, hbs, hbl⟩ := hrel
    have HV : Hid (Bs w.heap.size wr (.slice (some ⟨g, 0, none⟩) n cap) (padZ s k) ∧ Below w.heap.size w wr) := ⟨hbs, hbl⟩
    have HNN : Hid (n = s.size + 1 + k) := hn
    have hni : (n : Int) ≤ 140737488351400 := by omega
    obtain ⟨r, hr⟩ : ∃ r, r = n % 64 := ⟨_, rfl⟩
    have e1 : (n : Int) % 64 = (r : Int) := by omega
    have HR : Hid (r = n % 64) := hr
    clear hbs hbl hn hr
    by_cases hlt : k < z
    · have hr56 : ¬ (r : Int) = 56 := by
        have := HR.out; have := HNN.out; have hz := HZ2.out
        unfold endQ at hz
        omega
      go_wp2_with (at_builtin; refine wpList_append_bs _ w rfl _ _ rfl w.heap.size _ _ rfl (HV.out.1.al _) (HV.out.2.alloc HV.out.2.size _) ⟨_, 0, none⟩ 1 0 rfl ?c1 ?c2 ?_)
      case c1 => exact al_atC _ _ _ _ 0 _ rfl rfl
      case c2 => rw [padZ_len]; omega
      intro v2 w2 hb2 hbl2
      have H2 : Hid (Bs w.heap.size w2 v2 (padZ s (k + 1)) ∧ Below w.heap.size w w2) := ⟨by rw [padZ_next]; exact hb2, hbl2⟩
      clear hb2 hbl2
      obtain ⟨g2, cap2, hv2, -⟩ := H2.out.1
      rw [padZ_len] at hv2
      subst hv2
      go_wp2
      refine ⟨⟨k + 1, _, g2, cap2, by omega, rfl, rfl, H2.out⟩, ?_⟩
      have := HNN.out
      simp only [lenV]
      omega
    · obtain rfl : k = z := by omega
      obtain rfl : r = 56 := by
        have := HR.out; have := HNN.out; have hz := HZ2.out
        unfold endQ at hz
        omega
      obtain ⟨ln, hln⟩ : ∃ ln, ln = 8 * s.size := ⟨_, rfl⟩
      have e2 : 8 * (s.size : Int) = (ln : Int) := by omega
      have HLN : Hid (ln = 8 * s.size) := hln
      have f1 := wr61 ln (by omega)
      clear hln
      have H3 : Hid (Bs w.heap.size wr (.slice (some ⟨g, 0, none⟩) n cap) (padZ s k ++ lenBs s.size 0) ∧ Below w.heap.size w wr ∧ n = s.size + 1 + k + 0) := ⟨by simpa [lenBs] using HV.out.1, HV.out.2, HNN.out⟩
      clear HV HNN HR hlt hk
      go_wp2
      clear f1 e1 hni
      go_loopw [3, 5] (fun v i wy => ∃ m n g cap : Nat, m ≤ 8 ∧ i = .int .i64 (7 - (m : Int)) ∧ n = s.size + 1 + k + m ∧ v = .slice (some ⟨g, 0, none⟩) n cap ∧ Bs w.heap.size wy v (padZ s k ++ lenBs s.size m) ∧ Below w.heap.size w wy) (fun _ i _ => (intOf i + 1).toNat)
      case atStart => exact ⟨0, _, g, cap, by omega, rfl, H3.out.2.2, rfl, H3.out.1, H3.out.2.1⟩
      case round =>
        clear H3 e2
        obtain ⟨m, n, g, cap, hm, rfl, hn, rfl, hbs, hbl⟩ := hrel
        have HV : Hid (Bs w.heap.size _ (.slice (some ⟨g, 0, none⟩) n cap) (padZ s k ++ lenBs s.size m) ∧ Below w.heap.size w _) := ⟨hbs, hbl⟩
        have HNN : Hid (n = s.size + 1 + k + m) := hn
        clear hbs hbl hn
        by_cases hm8 : m < 8
        · obtain ⟨jn, hjn⟩ : ∃ jn : Nat, jn = 7 - m := ⟨_, rfl⟩
          have e1 : (7 : Int) - (m : Int) = (jn : Int) := by omega
          have HJ : Hid ((jn : Int) - 1 = 7 - ((m + 1 : Nat) : Int)) := by show _ = _; omega
          obtain ⟨p, hp⟩ : ∃ p, p = 2 ^ (8 * jn) := ⟨_, rfl⟩
          obtain ⟨d, hd⟩ : ∃ d, d = 8 * s.size / p := ⟨_, rfl⟩
          obtain ⟨r, hr⟩ : ∃ r, r = d % 256 := ⟨_, rfl⟩
          obtain ⟨z8, hz8⟩ : ∃ z8, z8 = 8 * jn := ⟨_, rfl⟩
          have hLB : lenB s.size m = UInt8.ofNat r := by
            unfold lenB
            rw [hr, hd, hp, show 56 - 8 * m = 8 * jn from by omega]
          have HRB : Hid ((lenB s.size m).toNat = r) := by
            show _ = _
            rw [hLB]
            have : r < 256 := by omega
            simp [UInt8.toNat_ofNat']
            omega
          have HP : Hid (∀ W : World, Calls Tryz.prog 123 #[.int .i64 z8] W fun e w' => e = .returned (.int .i64 (p : Nat)) ∧ w' = W) := fun W => by rw [hp, ← hz8]; exact Pow2_any z8 W (by omega)
          have e3 : 8 * (jn : Int) = (z8 : Int) := by omega
          have hji : (0 : Int) ≤ (jn : Int) := by omega
          have hr0 : (r : Int) < 256 := by omega
          have hlen : (padZ s k ++ lenBs s.size m).length + 1 ≤ 140737488355328 := by
            rw [List.length_append, padZ_len, lenBs_len]
            have := HS.out
            omega
          obtain ⟨d1, d2, d3, d4, d5, d6, d7, d8, d9, d10⟩ := len_facts s.size jn p d r HS.out hp hd hr
          rw [← HLN.out] at d4 d5
          have f0 := wr61 z8 (by omega)
          clear hp hd hr hz8 hjn hLB
          rw [e1]
          go_wp2_with fail
          refine (HP.out _).mono ?_
          rintro e w' ⟨rfl, rfl⟩
          go_wp2_with (at_builtin; refine wpList_append_bs _ w rfl _ _ rfl w.heap.size _ _ rfl (HV.out.1.al _) (HV.out.2.alloc HV.out.2.size _) ⟨_, 0, none⟩ 1 (lenB s.size m) rfl ?c1 hlen ?_)
          case c1 => exact al_atC _ _ _ _ 0 _ rfl (congrArg (fun z : Nat => some (Value.int .u8 (z : Int))) HRB.out.symm)
          intro v2 w2 hb2 hbl2
          have H2 : Hid (Bs w.heap.size w2 v2 (padZ s k ++ lenBs s.size (m + 1)) ∧ Below w.heap.size w w2) := ⟨by rw [lenBs_next]; first | exact hb2 | (rw [← List.append_assoc]; exact hb2), hbl2⟩
          clear hb2 hbl2 d1 d2 d3 d4 d5 d6 d7 d8 d9 d10 f0
          obtain ⟨g2, cap2, hv2, -⟩ := H2.out.1
          rw [List.length_append, padZ_len, lenBs_len] at hv2
          subst hv2
          go_wp2
          refine ⟨⟨m + 1, _, g2, cap2, by omega, congrArg (Value.int .i64) HJ.out, rfl, rfl, H2.out⟩, ?_⟩
          simp only [intOf]
          omega
        · obtain rfl : m = 8 := by omega
          obtain ⟨KC, hKC⟩ : ∃ KC, KC = intCells cuN := ⟨_, rfl⟩
          obtain ⟨FC, hFC⟩ : ∃ FC, FC = intCells q0.l := ⟨_, rfl⟩
          have HCo : Hid (∀ W : World, Calls Tryz.prog 124 #[] W fun e w' => e = .returned (.slice (some ⟨W.heap.size, 0, none⟩) 64 64) ∧ w' = W.alloc (.cells KC 3)) := fun W => by rw [hKC]; exact Constants_any W
          have HFi : Hid (∀ W : World, Calls Tryz.prog 125 #[] W fun e w' => e = .returned (.slice (some ⟨W.heap.size, 0, none⟩) 8 8) ∧ w' = W.alloc (.cells FC 3)) := fun W => by rw [hFC, sq_l]; exact Firsts_any W
          have HPP : Hid (padZ s k ++ lenBs s.size 8 = P) := by show _ = _; rw [HPE.out.1, HZ2.out]; exact padZ_pad s
          have HNP : Hid (n = P.length) := by
            have := HNN.out
            show _ = _
            rw [← HPP.out, List.length_append, padZ_len, lenBs_len]
            exact this
          have HKC : Hid (KC = intCells cuN ∧ FC = intCells q0.l) := ⟨hKC, hFC⟩
          clear hKC hFC
          go_wp2_with fail
          refine (HCo.out _).mono ?_
          rintro e w' ⟨rfl, rfl⟩
          go_wp2_with fail
          refine (HFi.out _).mono ?_
          rintro e w' ⟨rfl, rfl⟩
          obtain ⟨g', cap', hv', hg1, hg2, -, hPA, -⟩ := HV.out.1
          rw [HPP.out] at hv' hPA
          injection hv' with e1 e2 e3
          injection e1 with e1
          injection e1 with e1 _ _
          subst e1 e3
          have HPA := sum_mem HV.out.2 hPA hg2 HKC.out.1 HKC.out.2
          clear hg1 hg2 hPA
          rw [HNP.out]
          go_wp2
          refine loop3 _ _ _ _ _ _ _ _ _ _ _ _ _ _ _ _ _ _ _ _ _ _ _ _ _ _ _ _ _ _ _ _ _ _ _ _ _ _ _ _ _ _ _ _ _ _ _ _ _ _ _ _ _ _ _ _ _ _ _ _ _ _ _ _ _ _ _ _ _ _ _ _ _ _ _ _ _ _ _ _ _ _ _ _ _ _ _ _ _ _ _ _ _ _ _ _ _ _ _ _ _ _ _ _ _ _ _ _ _ _ _ _ _ _ _ _ _ _ _ _ _ _ _ _ _ _ _ _ _ _ _ _ _ _ _ _ _ _ _ _ _ _ _ _ _ _ _ _ _ _ _ _ _ _ _ _ _ _ _ _ _ _ _ _ _ _ _ _ _ _ _ _ _ _ _ _ _ _ _ _ _ _ _ _ _ _ _ _ _ _ _ _ _ _ _ _ _ _ _ _ _ _ _ _ _ _ _ _ _ _ _ _ _ _ _ _ _ _ _ _ _ _ _ _ _ _ _ _ _ _ _ _ _ _ _ _ _ _ _ _ _ _ _ _ _ _ _ _ _ _ _ _ _ _ _ _ _ _ _ _ _ _ _ _ _ _ _ _ _ _ _ _ _ _ _ _ _ _ _ _ _ P cuN q0 (P.length / 64) g cap _ 64 _ 8 q0_ok cu_lt cu_len HPA.out.1 HPA.out.2.1 HPA.out.2.2.1 HPA.out.2.2.2.1 (Nat.lt_succ_self _) HPE.out.2.1 HPE.out.2.2 _ ?_
          intro _ _ _ _ _ _ _ _ _ _ _ _ _ _ _ _ _ _ _ _ _ _ _ _ _ _ _ _ _ _ _ _ _ _ _ _ _ _ _ _ _ _ _ _ _ _ _ _ _ _ _ _ _ _ _ _ _ _ _ _ _ _ _ _ _ _ _ _ _ _ _ _ _ _ _ _ _ _ _ _ _ _ _ _ _ _ _ _ _ _ _ _ _ _ _ _ _ _ _ _ _ _ _ _ _ _ _ _ _ _ _ _ _ _ _ _ _ _ _ _ _ _ _ _ _ _ _ _ _ _ _ _ _ _ _ _ _ _ _ _ _ _ _ _ _ _ _ _ _ _ _ _ _ _ _ _ _ _ _ _ _ _ _ _ _ _ _ _ _ _ _ _ _ _ _ _ _ _ _ _ _ _ _ _ _ _ _ _ _ _ _ _ _ _ _ _ _ _ _ _ _ _ _ _ _ _ _ _ _ _ _ _ _ _ _ _ _ _ _ _ _ _ w4 hh4 hb4
          rw [← HQ9.out.1] at hh4
          have H4 : Hid (Below w.heap.size w w4) := HPA.out.2.2.2.2.trans (hb4.mono (Nat.le_succ_of_le HV.out.2.size))
          have H5 : Hid _ := hh4
          clear hh4 hb4 HPA HPP HNP HKC HCo HFi
          go_wp2
          refine loop8 _ _ _ _ _ _ _ _ _ _ _ _ _ _ _ _ _ _ _ _ _ _ _ _ _ _ _ _ _ _ _ _ _ _ _ _ _ _ _ _ _ _ _ _ _ _ _ _ _ _ _ _ _ _ _ _ _ _ _ _ _ _ _ _ _ _ _ _ _ _ _ _ _ _ _ _ _ _ _ _ _ _ _ _ _ _ _ _ _ _ _ _ _ _ _ _ _ _ _ _ _ _ _ _ _ _ _ _ _ _ _ _ _ _ _ _ _ _ _ _ _ _ _ _ _ _ _ _ _ _ _ _ _ _ _ _ _ _ _ _ _ _ _ _ _ _ _ _ _ _ _ _ _ _ _ _ _ _ _ _ _ _ _ _ _ _ _ _ _ _ _ _ _ _ _ _ _ _ _ _ _ _ _ _ _ _ _ _ _ _ _ _ _ _ _ _ _ _ _ _ _ _ _ _ _ _ _ _ _ _ _ _ _ _ _ _ _ _ _ _ _ _ _ _ _ _ _ _ _ _ _ _ _ _ _ _ _ _ _ _ _ _ _ _ _ _ _ _ _ _ _ _ _ _ _ _ _ _ _ _ _ _ _ _ _ _ _ _ _ _ _ _ _ _ _ _ _ _ _ _ _ w4 q9 HQ9.out.2 _ _ H5.out _ ?_
          intro _ _ _ _ _ _ _ _ _ _ _ _ _ _ _ _ _ _ _ _ _ _ w5 hb5
          have H6 : Hid (Below w.heap.size w w5) := bl_tr H4.out hb5
          clear hb5
          go_wp2
          go_ret
          exact ⟨rfl, H6.out⟩
end Go.Proofs.YtcdgdmhlbgbklaaGreatDoor

/- The document's Directory: a name's node and texts. -/
namespace Go.Proofs.YtcdgdmhlbgbklaaGreatDoor
open Go.RowKit Go.Shelf Go.Maps Go.WideMaps Go.Sort
attribute [local go_sem ↓] appS_eq

theorem RSm_any (s : ByteArray) (w : World) (hs : s.size ≤ 140737488351300) :
    Calls Tryz.prog 73 #[.string s] w fun e w' => e = .returned (.string (smD s)) ∧ Below w.heap.size w w' := by
  unfold smD
  rw [sum_plain]
  exact Sum_doc s w hs

/-- How it stands between two names: hv the names, nv the nodes, tv the texts. -/
structure DrS (w0 : World) (H : List (List UInt8)) (nd : List Nd) (A : List (List UInt8)) (hv nv tv : Value) (wr : World) : Prop where
  names : wr.ownsRow w0.heap.size 9 1 hv H.length (H.map encStr)
  nodes : wr.ownsRow w0.heap.size 108 3 nv nd.length (ndCells nd)
  texts : RowT w0.heap.size (addAll A) tv wr
  nh : ∀ b, nv.ownBlock = some b → hv.ownBlock ≠ some b
  nt : ∀ b, nv.ownBlock = some b → tv.ownBlock ≠ some b
  bel : Below w0.heap.size w0 wr
/-- A block that is none of these. -/
structure DrN (w0 : World) (hv nv tv : Value) (Nb : Nat) : Prop where
  lo : w0.heap.size ≤ Nb
  h : hv.ownBlock ≠ some Nb
  n : nv.ownBlock ≠ some Nb
  t : tv.ownBlock ≠ some Nb
section
variable {w0 : World} {H A : List (List UInt8)} {nd : List Nd} {hv nv tv : Value} {w w' : World} {Nb : Nat}
theorem DrS.up (h : DrS w0 H nd A hv nv tv w) (hb : Below w.heap.size w w') : DrS w0 H nd A hv nv tv w' :=
  ⟨row_heap h.names fun b hb2 => hb.block b (h.names.lt b hb2).2, row_heap h.nodes fun b hb2 => hb.block b (h.nodes.lt b hb2).2, h.texts.up hb, h.nh, h.nt, h.bel.trans (hb.mono h.bel.size)⟩
theorem DrS.fb (h : DrS w0 H nd A hv nv tv w) (hN : DrN w0 hv nv tv Nb) {nm dg : ByteArray} {kd : Int} (hb : FB nm kd dg Nb w w') : DrS w0 H nd A hv nv tv w' :=
  ⟨row_heap h.names fun b hb2 => hb.oth b (fun e => hN.h (by rw [← e]; exact hb2)), row_heap h.nodes fun b hb2 => hb.oth b (fun e => hN.n (by rw [← e]; exact hb2)), h.texts.keep (fun b hb2 => hb.oth b (fun e => hN.t (by rw [← e]; exact hb2))) (by rw [hb.size]; exact Nat.le_refl _), h.nh, h.nt,
    ⟨hb.os.trans h.bel.os, hb.tape.trans h.bel.tape, hb.output.trans h.bel.output, by rw [hb.size]; exact h.bel.size, fun b hb2 => (hb.oth b (by have := hN.lo; omega)).trans (h.bel.block b hb2)⟩⟩
theorem DrS.fresh (h : DrS w0 H nd A hv nv tv w) : DrN w0 hv nv tv w.heap.size :=
  ⟨h.bel.size, fun e => by have := (h.names.lt _ e).2; omega, fun e => by have := (h.nodes.lt _ e).2; omega, fun e => by have := (h.texts.own.lt _ e).2; omega⟩
theorem DrS.turn (h : DrS w0 H nd A hv nv tv w) {A2 : List (List UInt8)} {tv2 : Value} (hr : RowT w0.heap.size (addAll A2) tv2 w') (hb : Below w.heap.size w w') (hg : ∀ g, tv2.ownBlock = some g → tv.ownBlock = some g ∨ w.heap.size ≤ g) : DrS w0 H nd A2 hv nv tv2 w' := by
  have h1 := h.up hb
  refine ⟨h1.names, h1.nodes, hr, h.nh, fun b hb2 e => ?_, h1.bel⟩
  rcases hg b e with e2 | e2
  · exact h.nt b hb2 e2
  · have := (h.nodes.lt b hb2).2
    omega
theorem DrN.turn (h : DrN w0 hv nv tv Nb) {tv2 : Value} {s : Nat} (hs : Nb < s) (hg : ∀ g, tv2.ownBlock = some g → tv.ownBlock = some g ∨ s ≤ g) : DrN w0 hv nv tv2 Nb :=
  ⟨h.lo, h.h, h.n, fun e => by
    rcases hg _ e with e2 | e2
    · exact h.t e2
    · omega⟩
/-- One node more. -/
theorem DrS.node (h : DrS w0 H nd A hv nv tv w) (x : Nd) (hn : nd.length ≤ 1000) :
    ∃ G C w', (appS #[102, 102] 102 #[nv, .slice (some ⟨w.heap.size, 0, none⟩) 1 1]).run Tryz.prog (w.alloc (.cells #[.string x.1, .int .i64 x.2.1, .string x.2.2] 108)) = .ok (.slice (some ⟨G, 0, none⟩) (nd.length + 1) C) w' ∧
      DrS w0 H (nd ++ [x]) A hv (.slice (some ⟨G, 0, none⟩) (nd.length + 1) C) tv w' := by
  obtain ⟨i0, hi, hz0, hz1, hz2⟩ := info_p infNd
  have hsz : (w.alloc (.cells #[.string x.1, .int .i64 x.2.1, .string x.2.2] 108)).heap.size = w.heap.size + 1 := World.size_alloc _ _
  have hA := h.up (w' := w.alloc (.cells #[.string x.1, .int .i64 x.2.1, .string x.2.2] 108)) ((Below.refl _ w).alloc (Nat.le_refl _) _)
  have hlo := h.bel.size
  obtain ⟨G, C, w', hrun, hrow, hgr, hat, hlt⟩ := run_append_lies (P := Tryz.prog) (w.alloc (.cells #[.string x.1, .int .i64 x.2.1, .string x.2.2] 108)) 102 102 w0.heap.size 108 i0 (.agg #[.string ⟨#[]⟩, .int .i64 0, .string ⟨#[]⟩]) 3 40 Tryz.underlying102 hi hz0 hz1 hz2 rfl (by decide) nv nd.length (ndCells nd) hA.nodes ⟨w.heap.size, 0, none⟩ 1 1 [.string x.1, .int .i64 x.2.1, .string x.2.2] rfl (new_cells w _ _) (fun u hu => by simp at hu; rcases hu with rfl | rfl | rfl <;> rfl) (by decide) (by unfold maxLen; omega) (by omega) (by omega) (w.heap.size + 1) hsz
  have hkeep : ∀ b, b < w.heap.size → nv.ownBlock ≠ some b → w'.heap[b]? = w.heap[b]? ∧ G ≠ b := fun b hb hne => ⟨(hgr.block b (by omega) (fun e => hne e.symm)).trans (Below.heap_alloc _ _ _ hb), fun e => by
      rcases hat with h1 | h1
      · exact hne (by rw [h1, e])
      · omega⟩
  have e : ndCells (nd ++ [x]) = ndCells nd ++ [.string x.1, .int .i64 x.2.1, .string x.2.2] := by simp [ndCells]
  refine ⟨G, C, w', hrun, ⟨row_heap h.names fun b hb => (hkeep b (h.names.lt b hb).2 (fun e => h.nh b e hb)).1, ?_, h.texts.keep (fun b hb => (hkeep b (h.texts.own.lt b hb).2 (fun e => h.nt b e hb)).1) (by have := hgr.size; omega), fun b hb e => ?_, fun b hb e => ?_, ?_⟩⟩
  · rw [e, List.length_append]
    exact hrow
  · have e2 : G = b := by injection hb
    exact (hkeep b (h.names.lt b e).2 (fun e3 => h.nh b e3 e)).2 e2
  · have e2 : G = b := by injection hb
    exact (hkeep b (h.texts.own.lt b e).2 (fun e3 => h.nt b e3 e)).2 e2
  · exact hA.bel.grown hgr (by omega) fun k hk => (hA.nodes.lt k hk).1
end

set_option maxHeartbeats 8000000 in
set_option maxRecDepth 100000 in
theorem tailL (x0 x1 x2 x3 x4 x5 x6 x7 x8 x11 x12 x15 x16 x17 x18 x19 x20 x21 x22 x23 x24 x25 x26 x27 x28 x29 x30 x31 x32 x33 x34 x35 x36 x37 x38 x39 x40 x41 x42 x43 x44 x45 x46 x47 x48 x49 x50 x51 x52 x53 x54 x55 x56 x57 x58 x59 x60 x61 x62 x63 x64 x65 x66 x67 x68 x69 x70 x71 x72 x73 x74 x75 x76 x77 x78 x79 x80 x81 x82 x83 x84 x85 x86 x87 x88 x89 x90 x91 x92 x93 x94 x95 x96 x97 x98 x99 x100 x101 x102 x103 x104 x105 x106 x107 x108 x109 x110 x111 x112 x113 x114 x115 x116 x117 x118 x119 x120 x121 x122 x123 x124 x125 x126 x127 : Value) (w0 w : World) (H A : List (List UInt8)) (nd : List Nd) (hv nv tv : Value) (Nb : Nat) (nm t : ByteArray) (kd : Int) (hS : DrS w0 H nd A hv nv tv w) (hN : DrN w0 hv nv tv Nb) (hB : FB nm kd ⟨#[]⟩ Nb w w) (ht : t.size ≤ 140737488351300) (hA : A.length ≤ 1000000) (hn : nd.length ≤ 1000) (Q0 : Exit → Act → World → Prop)
    (hexit : ∀ (u9 u10 u115 u116 u117 u118 u119 u120 u121 u122 u123 u124 : Value) (w' : World), Hid (DrS w0 H (nd ++ [(nm, kd, smD t)]) (A ++ [t.data.toList]) hv u9 u10 w') → Q0 .normal ⟨#[x0, x1, x2, x3, x4, x5, x6, x7, x8, u9, u10, x11, x12, .pointer (some ⟨Nb, 0, none⟩), .string t, x15, x16, x17, x18, x19, x20, x21, x22, x23, x24, x25, x26, x27, x28, x29, x30, x31, x32, x33, x34, x35, x36, x37, x38, x39, x40, x41, x42, x43, x44, x45, x46, x47, x48, x49, x50, x51, x52, x53, x54, x55, x56, x57, x58, x59, x60, x61, x62, x63, x64, x65, x66, x67, x68, x69, x70, x71, x72, x73, x74, x75, x76, x77, x78, x79, x80, x81, x82, x83, x84, x85, x86, x87, x88, x89, x90, x91, x92, x93, x94, x95, x96, x97, x98, x99, x100, x101, x102, x103, x104, x105, x106, x107, x108, x109, x110, x111, x112, x113, x114, u115, u116, u117, u118, u119, u120, u121, u122, u123, u124, x125, x126, x127], []⟩ w') :
    Code.wp Tryz.prog (subC [true, true, true, true, true, false, true, false, false, true, false, false, true, true, true, true, true, true] (Tryz.f32.body.getD .skip)) Q0 ⟨#[x0, x1, x2, x3, x4, x5, x6, x7, x8, nv, tv, x11, x12, .pointer (some ⟨Nb, 0, none⟩), .string t, x15, x16, x17, x18, x19, x20, x21, x22, x23, x24, x25, x26, x27, x28, x29, x30, x31, x32, x33, x34, x35, x36, x37, x38, x39, x40, x41, x42, x43, x44, x45, x46, x47, x48, x49, x50, x51, x52, x53, x54, x55, x56, x57, x58, x59, x60, x61, x62, x63, x64, x65, x66, x67, x68, x69, x70, x71, x72, x73, x74, x75, x76, x77, x78, x79, x80, x81, x82, x83, x84, x85, x86, x87, x88, x89, x90, x91, x92, x93, x94, x95, x96, x97, x98, x99, x100, x101, x102, x103, x104, x105, x106, x107, x108, x109, x110, x111, x112, x113, x114, x115, x116, x117, x118, x119, x120, x121, x122, x123, x124, x125, x126, x127], []⟩ w := by
  have HX : Hid (∀ (u9 u10 u115 u116 u117 u118 u119 u120 u121 u122 u123 u124 : Value) (w' : World), Hid (DrS w0 H (nd ++ [(nm, kd, smD t)]) (A ++ [t.data.toList]) hv u9 u10 w') → Q0 .normal ⟨#[x0, x1, x2, x3, x4, x5, x6, x7, x8, u9, u10, x11, x12, .pointer (some ⟨Nb, 0, none⟩), .string t, x15, x16, x17, x18, x19, x20, x21, x22, x23, x24, x25, x26, x27, x28, x29, x30, x31, x32, x33, x34, x35, x36, x37, x38, x39, x40, x41, x42, x43, x44, x45, x46, x47, x48, x49, x50, x51, x52, x53, x54, x55, x56, x57, x58, x59, x60, x61, x62, x63, x64, x65, x66, x67, x68, x69, x70, x71, x72, x73, x74, x75, x76, x77, x78, x79, x80, x81, x82, x83, x84, x85, x86, x87, x88, x89, x90, x91, x92, x93, x94, x95, x96, x97, x98, x99, x100, x101, x102, x103, x104, x105, x106, x107, x108, x109, x110, x111, x112, x113, x114, u115, u116, u117, u118, u119, u120, u121, u122, u123, u124, x125, x126, x127], []⟩ w') := hexit
  have hNb : Nb < w.heap.size := (Array.getElem?_eq_some_iff.1 hB.blk).1
  have HAd : Hid (Calls Tryz.prog 33 #[tv, .string t] w fun e w1 => ∃ tv', e = .returned tv' ∧ Hid (DrS w0 H nd (A ++ [t.data.toList]) hv nv tv' w1 ∧ DrN w0 hv nv tv' Nb ∧ Below w.heap.size w w1)) := by
    refine (hS.texts.add t (Nat.le_trans (addAll_len A) hA)).mono ?_
    rintro e w1 ⟨tv', rfl, hr, hb, hg⟩
    exact ⟨tv', rfl, hS.turn (by rw [addAll_snoc]; exact hr) hb hg, hN.turn hNb hg, hb⟩
  have HSu : Hid (∀ W, Calls Tryz.prog 73 #[.string t] W fun e w' => e = .returned (.string (smD t)) ∧ Below W.heap.size W w') := fun W => RSm_any t W ht
  have HBk : Hid (∀ W, Below w.heap.size w W → W.heap[Nb]? = some (.cells #[.string nm, .int .i64 kd, .string ⟨#[]⟩] 108 (0, 0))) := fun W hW => (hW.block Nb hNb).trans hB.blk
  have HNL : Hid (nd.length ≤ 1000) := hn
  clear hexit hS hN hB ht hA hn hNb
  generalize smD t = sm9 at *
  conv => arg 2; whnf
  dsimp only
  go_wp2_with fail
  refine HAd.out.mono ?_
  rintro e w1 ⟨tv', rfl, H1⟩
  go_wp2_with fail
  refine (HSu.out _).mono ?_
  rintro e w2 ⟨rfl, hb2⟩
  have hS2 := H1.out.1.up hb2
  have hF2 : FB nm kd ⟨#[]⟩ Nb w2 w2 := ⟨HBk.out _ (H1.out.2.2.trans (hb2.mono H1.out.2.2.size)), rfl, rfl, rfl, rfl, fun _ _ => rfl⟩
  have hF3 := hF2.set2 sm9
  have hS3 := hS2.fb H1.out.2.1 hF3
  obtain ⟨W3, hW3⟩ : ∃ W3, W3 = w2.setCell ⟨Nb, 2, none⟩ (.string sm9) := ⟨_, rfl⟩
  rw [← hW3] at hF3 hS3
  obtain ⟨G, C, w4, hap, hS4⟩ := hS3.node (nm, kd, sm9) HNL.out
  have HE : Hid (DrS w0 H (nd ++ [(nm, kd, sm9)]) (A ++ [t.data.toList]) hv (.slice (some ⟨G, 0, none⟩) (nd.length + 1) C) tv' w4) := hS4
  have n2 := hF2.c2
  have z2 := hF2.fz 2
  have m0 := hF3.c0
  have m1 := hF3.c1
  have m2 := hF3.c2
  simp only at hap
  have hz : W3.heap.size = w2.heap.size := by rw [hW3]; simp [World.setCell]
  rw [hz] at hap
  rw [hW3] at m0 m1 m2 hap
  clear hS2 hF2 hF3 hS3 hS4 hb2 H1 HAd HSu HBk HNL hz hW3
  go_wp2
  exact HX.out _ _ _ _ _ _ _ _ _ _ _ _ _ HE
end Go.Proofs.YtcdgdmhlbgbklaaGreatDoor

/- The document's Directory: one name, whole. -/
namespace Go.Proofs.YtcdgdmhlbgbklaaGreatDoor
open Go.RowKit Go.Shelf Go.Maps Go.WideMaps Go.Sort
attribute [local go_sem ↓] appS_eq

/-- How a directory further in is answered. -/
def DjP (T : ByteArray) (M : List (List UInt8)) (W : World) (e : Ending) (w' : World) : Prop := ∃ mo mc, e = .returned (.tuple #[.string T, .slice mo M.length mc]) ∧ w'.ownsRow W.heap.size 9 1 (.slice mo M.length mc) M.length (M.map encStr) ∧ Below W.heap.size W w'

set_option maxHeartbeats 16000000 in
set_option maxRecDepth 100000 in
theorem bodyL (x1 x2 x3 x4 x5 x7 x8 x13 x14 x15 x16 x17 x18 x19 x20 x21 x22 x23 x24 x25 x26 x27 x28 x29 x30 x31 x32 x33 x34 x35 x36 x37 x38 x39 x40 x41 x42 x43 x44 x45 x46 x47 x48 x49 x50 x51 x52 x53 x54 x55 x56 x57 x58 x59 x60 x61 x62 x63 x64 x65 x66 x67 x68 x69 x70 x71 x72 x73 x74 x75 x76 x77 x78 x79 x80 x81 x82 x83 x84 x85 x86 x87 x88 x89 x90 x91 x92 x93 x94 x95 x96 x97 x98 x99 x100 x101 x102 x103 x104 x105 x106 x107 x108 x109 x110 x111 x112 x113 x114 x115 x116 x117 x118 x119 x120 x121 x122 x123 x124 x125 x126 x127 : Value) (ao : Option Addr) (cap : Nat) (L : List Fl) (p : ByteArray) (w0 w : World) (H A M : List (List UInt8)) (nd : List Nd) (hv nv tv : Value) (k : Nat) (hk : k < H.length) (hHl : H.length ≤ 60) (T : ByteArray) (hS : DrS w0 H nd A hv nv tv w) (hL : IsFl w0 ao L) (hl : L.length ≤ 60) (kd : Int) (tx : ByteArray) (hkt : ktF L p.data.toList = (kd, tx))
    (hD : kd = 3 → ∀ W, Below w0.heap.size w0 W → Calls Tryz.prog 32 #[.slice ao L.length cap, .string p] W (DjP T M W)) (hT : T.size ≤ 140737488351300) (htx : tx.size ≤ 140737488351300) (hA : A.length + M.length ≤ 999999) (hn : nd.length ≤ 1000) (Q0 : Exit → Act → World → Prop)
    (hexit : ∀ (u9 u10 u13 u14 u15 u16 u17 u18 u63 u64 u65 u66 u67 u68 u69 u70 u71 u72 u73 u74 u75 u76 u77 u78 u79 u80 u81 u82 u83 u84 u85 u86 u87 u88 u89 u90 u91 u92 u93 u94 u95 u96 u97 u98 u99 u100 u101 u102 u103 u104 u105 u106 u107 u108 u109 u110 u111 u112 u113 u114 u115 u116 u117 u118 u119 u120 u121 u122 u123 u124 : Value) (w' : World), Hid (DrS w0 H (nd ++ [(⟨(H[k]).toArray⟩, kd, smD (if kd = 3 then T else tx))]) (A ++ ((if kd = 3 then M else []) ++ [(if kd = 3 then T else tx).data.toList])) hv u9 u10 w') → Q0 .normal ⟨#[.slice ao L.length cap, x1, x2, x3, x4, x5, hv, x7, x8, u9, u10, .int .i64 (k : Int), .string p, u13, u14, u15, u16, u17, u18, x19, x20, x21, x22, x23, x24, x25, x26, x27, x28, x29, x30, x31, x32, x33, x34, x35, x36, x37, x38, x39, x40, x41, x42, x43, x44, x45, x46, x47, x48, x49, x50, x51, x52, x53, x54, x55, x56, x57, x58, x59, x60, x61, x62, u63, u64, u65, u66, u67, u68, u69, u70, u71, u72, u73, u74, u75, u76, u77, u78, u79, u80, u81, u82, u83, u84, u85, u86, u87, u88, u89, u90, u91, u92, u93, u94, u95, u96, u97, u98, u99, u100, u101, u102, u103, u104, u105, u106, u107, u108, u109, u110, u111, u112, u113, u114, u115, u116, u117, u118, u119, u120, u121, u122, u123, u124, x125, x126, x127], []⟩ w') :
    Code.wp Tryz.prog (subC [true, true, true, true, true, false, true, false, false, true, false, false, true, true] (Tryz.f32.body.getD .skip)) Q0 ⟨#[.slice ao L.length cap, x1, x2, x3, x4, x5, hv, x7, x8, nv, tv, .int .i64 (k : Int), .string p, x13, x14, x15, x16, x17, x18, x19, x20, x21, x22, x23, x24, x25, x26, x27, x28, x29, x30, x31, x32, x33, x34, x35, x36, x37, x38, x39, x40, x41, x42, x43, x44, x45, x46, x47, x48, x49, x50, x51, x52, x53, x54, x55, x56, x57, x58, x59, x60, x61, x62, x63, x64, x65, x66, x67, x68, x69, x70, x71, x72, x73, x74, x75, x76, x77, x78, x79, x80, x81, x82, x83, x84, x85, x86, x87, x88, x89, x90, x91, x92, x93, x94, x95, x96, x97, x98, x99, x100, x101, x102, x103, x104, x105, x106, x107, x108, x109, x110, x111, x112, x113, x114, x115, x116, x117, x118, x119, x120, x121, x122, x123, x124, x125, x126, x127], []⟩ w := by
  have HX : Hid (∀ (u9 u10 u13 u14 u15 u16 u17 u18 u63 u64 u65 u66 u67 u68 u69 u70 u71 u72 u73 u74 u75 u76 u77 u78 u79 u80 u81 u82 u83 u84 u85 u86 u87 u88 u89 u90 u91 u92 u93 u94 u95 u96 u97 u98 u99 u100 u101 u102 u103 u104 u105 u106 u107 u108 u109 u110 u111 u112 u113 u114 u115 u116 u117 u118 u119 u120 u121 u122 u123 u124 : Value) (w' : World), Hid (DrS w0 H (nd ++ [(⟨(H[k]).toArray⟩, kd, smD (if kd = 3 then T else tx))]) (A ++ ((if kd = 3 then M else []) ++ [(if kd = 3 then T else tx).data.toList])) hv u9 u10 w') → Q0 .normal ⟨#[.slice ao L.length cap, x1, x2, x3, x4, x5, hv, x7, x8, u9, u10, .int .i64 (k : Int), .string p, u13, u14, u15, u16, u17, u18, x19, x20, x21, x22, x23, x24, x25, x26, x27, x28, x29, x30, x31, x32, x33, x34, x35, x36, x37, x38, x39, x40, x41, x42, x43, x44, x45, x46, x47, x48, x49, x50, x51, x52, x53, x54, x55, x56, x57, x58, x59, x60, x61, x62, u63, u64, u65, u66, u67, u68, u69, u70, u71, u72, u73, u74, u75, u76, u77, u78, u79, u80, u81, u82, u83, u84, u85, u86, u87, u88, u89, u90, u91, u92, u93, u94, u95, u96, u97, u98, u99, u100, u101, u102, u103, u104, u105, u106, u107, u108, u109, u110, u111, u112, u113, u114, u115, u116, u117, u118, u119, u120, u121, u122, u123, u124, x125, x126, x127], []⟩ w') := hexit
  obtain ⟨hg, hc, hvv, _, _⟩ := hS.names.form (by omega)
  have hnm : w.cell? ⟨hg, k, none⟩ = some (.string ⟨(H[k]).toArray⟩) := by
    rw [hvv] at hS
    refine (hS.names.cellAt k (by omega)).trans ?_
    rw [List.getElem?_map, List.getElem?_eq_getElem hk]
    rfl
  subst hvv
  have hki : (k : Int) < (H.length : Int) := by omega
  have HN : Hid (DrN w0 (.slice (some ⟨hg, 0, none⟩) H.length hc) nv tv w.heap.size) := hS.fresh
  obtain ⟨W1, hW1⟩ : ∃ W1, W1 = w.alloc (.cells #[.string ⟨(H[k]).toArray⟩, .int .i64 3, .string ⟨#[]⟩] 108) := ⟨_, rfl⟩
  have HS1 : Hid (DrS w0 H nd A (.slice (some ⟨hg, 0, none⟩) H.length hc) nv tv W1) := by rw [hW1]; exact hS.up ((Below.refl _ w).alloc (Nat.le_refl _) _)
  have HF1 : Hid (FB ⟨(H[k]).toArray⟩ 3 ⟨#[]⟩ w.heap.size W1 W1) := by
    rw [hW1]
    exact ⟨heap_alloc_new w _, rfl, rfl, rfl, rfl, fun _ _ => rfl⟩
  have HL1 : Hid (IsFl W1 ao L) := hL.below HS1.out.bel (Nat.le_refl _)
  have HLn : Hid (∀ g o, ao = some ⟨g, o, none⟩ → g ≠ w.heap.size ∨ L = []) := fun g o e => by
    rcases hL with h | ⟨g2, o2, e2, h2, _⟩
    · exact .inr h
    · rw [e] at e2
      cases e2
      exact .inl (by have := hS.bel.size; omega)
  have HD : Hid (kd = 3 → ∀ W, Below w0.heap.size w0 W → Calls Tryz.prog 32 #[.slice ao L.length cap, .string p] W (DjP T M W)) := hD
  have HZ : Hid (T.size ≤ 140737488351300 ∧ tx.size ≤ 140737488351300 ∧ A.length + M.length ≤ 999999 ∧ nd.length ≤ 1000 ∧ L.length ≤ 60 ∧ ktF L p.data.toList = (kd, tx)) := ⟨hT, htx, hA, hn, hl, hkt⟩
  obtain ⟨YF, hYF⟩ : ∃ YF, YF = (subC [true, true, true, true, true, false, true, false, false, true, false, false, true, true, true, true, false, true, false] (Tryz.f32.body.getD .skip)) := ⟨_, rfl⟩
  have HYF : Hid (YF = (subC [true, true, true, true, true, false, true, false, false, true, false, false, true, true, true, true, false, true, false] (Tryz.f32.body.getD .skip))) := hYF
  have hlF : (subC [true, true, true, true, true, false, true, false, false, true, false, false, true, true, true, true, false, true, false] (Tryz.f32.body.getD .skip)) = YF := hYF.symm
  obtain ⟨YM, hYM⟩ : ∃ YM, YM = (subC [true, true, true, true, true, false, true, false, false, true, false, false, true, true, true, true, true, false, true, false, true, true, true, false] (Tryz.f32.body.getD .skip)) := ⟨_, rfl⟩
  have HYM : Hid (YM = (subC [true, true, true, true, true, false, true, false, false, true, false, false, true, true, true, true, true, false, true, false, true, true, true, false] (Tryz.f32.body.getD .skip))) := hYM
  have hlM : (subC [true, true, true, true, true, false, true, false, false, true, false, false, true, true, true, true, true, false, true, false, true, true, true, false] (Tryz.f32.body.getD .skip)) = YM := hYM.symm
  obtain ⟨YT, hYT⟩ : ∃ YT, YT = (subC [true, true, true, true, true, false, true, false, false, true, false, false, true, true, true, true, true, true] (Tryz.f32.body.getD .skip)) := ⟨_, rfl⟩
  have HYT : Hid (YT = (subC [true, true, true, true, true, false, true, false, false, true, false, false, true, true, true, true, true, true] (Tryz.f32.body.getD .skip))) := hYT
  have hlT : (subC [true, true, true, true, true, false, true, false, false, true, false, false, true, true, true, true, true, true] (Tryz.f32.body.getD .skip)) = YT := hYT.symm
  clear hexit hS hL hl hkt hD hT htx hA hn
  conv at hlF => lhs; whnf
  conv at hlM => lhs; whnf
  conv at hlT => lhs; whnf
  conv => arg 2; whnf
  rw [hlF, hlM, hlT]
  clear hlF hlM hlT hYF hYM hYT
  generalize (⟨(H[k]).toArray⟩ : ByteArray) = nm at *
  obtain ⟨Nb, hNb⟩ : ∃ Nb, Nb = w.heap.size := ⟨_, rfl⟩
  dsimp only
  go_wp2
  rw [← hW1, HYF.out]
  rw [← hNb] at HN HF1 HLn ⊢
  clear hW1 hNb hnm
  have hne : ∀ g o, ao = some ⟨g, o, none⟩ → L ≠ [] → g ≠ Nb := fun g o e h => (HLn.out g o e).resolve_right h
  refine findL2 _ _ _ _ _ _ _ _ _ _ _ _ _ _ _ _ _ _ _ _ _ _ _ _ _ _ _ _ _ _ _ _ _ _ _ _ _ _ _ _ _ _ _ _ _ _ _ _ _ _ _ _ _ _ _ _ _ _ _ _ _ _ _ _ _ _ _ _ _ _ _ _ _ _ _ _ _ _ _ _ _ _ _ _ _ _ _ _ _ _ _ _ _ _ _ _ _ _ _ _ _ _ _ _ _ _ _ _ _ _ _ _ _ _ _ _ _ _ _ _ _ _ _ ao cap L p nm Nb W1 HL1.out HZ.out.2.2.2.2.1 hne HF1.out _ ?_
  intro u15 u68 u69 u70 u71 u72 u73 u74 u75 u76 u77 u78 u79 u80 u81 u82 u83 u84 u85 u86 u87 u88 u89 u90 u91 u92 w2 HF2
  rw [HZ.out.2.2.2.2.2] at HF2 ⊢
  simp only at HF2 ⊢
  have HS2 : Hid (DrS w0 H nd A (.slice (some ⟨hg, 0, none⟩) H.length hc) nv tv w2) := HS1.out.fb HN.out HF2.out
  have HG2 : Hid (FB nm kd ⟨#[]⟩ Nb w2 w2) := ⟨HF2.out.blk, rfl, rfl, rfl, rfl, fun _ _ => rfl⟩
  have n1 := HF2.out.c1
  clear HF1 HS1 HL1 HLn HYF hne HF2
  by_cases hkd : kd = 3
  · subst hkd
    have HD2 : Hid (Calls Tryz.prog 32 #[.slice ao L.length cap, .string p] w2 (DjP T M w2)) := HD.out rfl w2 HS2.out.bel
    simp only [if_true] at HX
    go_wp2_with fail
    refine HD2.out.mono ?_
    rintro e w3 ⟨mo, mc, rfl, hm3, hb3⟩
    have HS3 : Hid (DrS w0 H nd A (.slice (some ⟨hg, 0, none⟩) H.length hc) nv tv w3) := HS2.out.up hb3
    have HM3 : Hid (w3.ownsRow w2.heap.size 9 1 (.slice mo M.length mc) M.length (M.map encStr)) := hm3
    have HG3 : Hid (FB nm 3 ⟨#[]⟩ Nb w3 w3) := ⟨(hb3.block Nb (Array.getElem?_eq_some_iff.1 HG2.out.blk).1).trans HG2.out.blk, rfl, rfl, rfl, rfl, fun _ _ => rfl⟩
    clear hm3 hb3 HD2 HD HS2 HG2 n1
    go_wp2
    rw [HYM.out]
    refine moreL _ _ _ _ _ _ _ _ _ _ _ _ _ _ _ _ _ _ _ _ _ _ _ _ _ _ _ _ _ _ _ _ _ _ _ _ _ _ _ _ _ _ _ _ _ _ _ _ _ _ _ _ _ _ _ _ _ _ _ _ _ _ _ _ _ _ _ _ _ _ _ _ _ _ _ _ _ _ _ _ _ _ _ _ _ _ _ _ _ _ _ _ _ _ _ _ _ _ _ _ _ _ _ _ _ _ _ _ _ _ _ _ _ _ _ _ _ _ _ _ _ _ _ _ _ w0.heap.size w2.heap.size A M tv mo mc w3 HS3.out.texts HM3.out (by have := HZ.out.2.2.1; omega) _ ?_
    intro u10 u18 u103 u104 u105 u106 u107 u108 u109 u110 u111 u112 u113 u114 w4 HM4
    obtain ⟨r4, b4, g4⟩ := HM4.out
    rw [List.take_length] at r4
    have HS4 : Hid (DrS w0 H nd (A ++ M) (.slice (some ⟨hg, 0, none⟩) H.length hc) nv u10 w4) := HS3.out.turn r4 b4 g4
    have hNb3 : Nb < w3.heap.size := (Array.getElem?_eq_some_iff.1 HG3.out.blk).1
    have HN4 : Hid (DrN w0 (.slice (some ⟨hg, 0, none⟩) H.length hc) nv u10 Nb) := HN.out.turn hNb3 g4
    have HG4 : Hid (FB nm 3 ⟨#[]⟩ Nb w4 w4) := ⟨(b4.block Nb hNb3).trans HG3.out.blk, rfl, rfl, rfl, rfl, fun _ _ => rfl⟩
    clear r4 b4 g4 HM4 HS3 HM3 HG3 hNb3
    go_wp2
    rw [HYT.out]
    refine tailL _ _ _ _ _ _ _ _ _ _ _ _ _ _ _ _ _ _ _ _ _ _ _ _ _ _ _ _ _ _ _ _ _ _ _ _ _ _ _ _ _ _ _ _ _ _ _ _ _ _ _ _ _ _ _ _ _ _ _ _ _ _ _ _ _ _ _ _ _ _ _ _ _ _ _ _ _ _ _ _ _ _ _ _ _ _ _ _ _ _ _ _ _ _ _ _ _ _ _ _ _ _ _ _ _ _ _ _ _ _ _ _ _ _ _ _ _ _ _ _ _ _ _ _ w0 w4 H (A ++ M) nd _ nv u10 Nb nm T 3 HS4.out HN4.out HG4.out HZ.out.1 (by rw [List.length_append]; have := HZ.out.2.2.1; omega) HZ.out.2.2.2.1 _ ?_
    intro u9 u10 u115 u116 u117 u118 u119 u120 u121 u122 u123 u124 w5 HS5
    rw [List.append_assoc] at HS5
    exact HX.out _ _ _ _ _ _ _ _ _ _ _ _ _ _ _ _ _ _ _ _ _ _ _ _ _ _ _ _ _ _ _ _ _ _ _ _ _ _ _ _ _ _ _ _ _ _ _ _ _ _ _ _ _ _ _ _ _ _ _ _ _ _ _ _ _ _ _ _ _ _ _ HS5
  · have hkd2 : (kd == 3) = false := beq_eq_false_iff_ne.2 hkd
    rw [if_neg hkd, if_neg hkd] at HX
    clear hkd HD
    go_wp2
    rw [HYT.out]
    refine tailL _ _ _ _ _ _ _ _ _ _ _ _ _ _ _ _ _ _ _ _ _ _ _ _ _ _ _ _ _ _ _ _ _ _ _ _ _ _ _ _ _ _ _ _ _ _ _ _ _ _ _ _ _ _ _ _ _ _ _ _ _ _ _ _ _ _ _ _ _ _ _ _ _ _ _ _ _ _ _ _ _ _ _ _ _ _ _ _ _ _ _ _ _ _ _ _ _ _ _ _ _ _ _ _ _ _ _ _ _ _ _ _ _ _ _ _ _ _ _ _ _ _ _ _ w0 w2 H A nd _ nv tv Nb nm tx kd HS2.out HN.out HG2.out HZ.out.2.1 (by have := HZ.out.2.2.1; omega) HZ.out.2.2.2.1 _ ?_
    intro u9 u10 u115 u116 u117 u118 u119 u120 u121 u122 u123 u124 w5 HS5
    exact HX.out _ _ _ _ _ _ _ _ _ _ _ _ _ _ _ _ _ _ _ _ _ _ _ _ _ _ _ _ _ _ _ _ _ _ _ _ _ _ _ _ _ _ _ _ _ _ _ _ _ _ _ _ _ _ _ _ _ _ _ _ _ _ _ _ _ _ _ _ _ _ _ HS5
end Go.Proofs.YtcdgdmhlbgbklaaGreatDoor
