/- LeaseBounds: the jobs, one by one. -/
import Derived.Test.YtocahjnibdgmoaaLeBh
namespace Go.Proofs.Ytocahjnibdgmoaa
open Go.RowKit Go.Shelf Go.Maps Go.WideMaps Go.Sort

def cntL (L : List (List UInt8 × Int × Int)) (nm : List UInt8) : Nat := (L.filter fun x => decide (x.1 = nm)).length
theorem cnt_next {L : List (List UInt8 × Int × Int)} {nm : List UInt8} {j : Nat} (h : j < L.length) : cntL (L.take (j + 1)) nm = if (L[j]).1 = nm then cntL (L.take j) nm + 1 else cntL (L.take j) nm := by
  unfold cntL
  rw [List.take_succ_eq_append_getElem h, List.filter_append, List.length_append]
  by_cases e : (L[j]).1 = nm
  · simp [e]
  · simp [e]
theorem cnt_none : ∀ (P : List Pj) (nm : List UInt8), (∀ p ∈ P, p.nm ≠ nm) → cntL (lsP P) nm = 0
  | [], _, _ => rfl
  | q :: r, nm, h => by
    have ih := cnt_none r nm fun p hp => h p (by simp [hp])
    unfold cntL lsP at ih ⊢
    rw [List.flatMap_cons, List.filter_append, List.length_append, ih]
    have : (q.ts.map fun z => (q.nm, z.1, z.2)).filter (fun x => decide (x.1 = nm)) = [] := by
      rw [List.filter_eq_nil_iff]
      intro x hx
      obtain ⟨z, _, rfl⟩ := List.mem_map.1 hx
      simpa using h q (by simp)
    rw [this]
    rfl
theorem cnt_eq : ∀ (P : List Pj) (nm : List UInt8) (p : Pj), P.Pairwise (fun x y => x.nm ≠ y.nm) → fndP P nm = some p → cntL (lsP P) nm = p.ts.length
  | [], _, _, _, h => by cases h
  | q :: r, nm, p, hpw, h => by
    rw [List.pairwise_cons] at hpw
    by_cases e : q.nm = nm
    · have hp : q = p := by
        unfold fndP at h
        rw [List.find?_cons, show (q.nm == nm) = true from beq_iff_eq.2 e] at h
        injection h
      subst hp
      have h0 := cnt_none r nm fun z hz => by rw [← e]; exact (hpw.1 z hz).symm
      unfold cntL lsP at h0 ⊢
      rw [List.flatMap_cons, List.filter_append, List.length_append, h0]
      have : (q.ts.map fun z => (q.nm, z.1, z.2)).filter (fun x => decide (x.1 = nm)) = q.ts.map fun z => (q.nm, z.1, z.2) := by
        rw [List.filter_eq_self]
        intro x hx
        obtain ⟨z, _, rfl⟩ := List.mem_map.1 hx
        simpa using e
      rw [this, List.length_map]
      rfl
    · have hf : fndP r nm = some p := by
        unfold fndP at h ⊢
        rw [List.find?_cons, show (q.nm == nm) = false from beq_eq_false_iff_ne.2 e] at h
        exact h
      have ih := cnt_eq r nm p hpw.2 hf
      unfold cntL lsP at ih ⊢
      rw [List.flatMap_cons, List.filter_append, List.length_append, ih]
      have : (q.ts.map fun z => (q.nm, z.1, z.2)).filter (fun x => decide (x.1 = nm)) = [] := by
        rw [List.filter_eq_nil_iff]
        intro x hx
        obtain ⟨z, _, rfl⟩ := List.mem_map.1 hx
        simpa using e
      rw [this]
      simp

set_option maxHeartbeats 8000000 in
set_option maxRecDepth 100000 in
theorem cntLoop (x0 x1 x2 x3 x4 x5 x6 x7 x9 x10 x11 x12 x14 x15 x16 x18 x19 x22 x23 x24 x25 x26 x27 x28 x29 x30 x31 x32 x33 x34 x35 x36 x37 x38 x39 x40 x41 x42 x43 x44 x45 x46 x47 x48 x49 x50 x51 x52 x53 x54 x55 x56 x57 x58 x59 x60 x61 x62 x63 x64 x65 x66 x67 x68 x69 x70 x71 x72 x73 x74 x75 x76 x77 x78 x79 x80 x81 x82 x83 x84 x85 x86 x87 x88 x89 x90 x91 x92 x93 x94 x95 x96 x97 x98 x99 x100 x101 x102 x103 x104 x105 x106 x107 x108 x109 x110 x111 x112 x113 x114 x115 x116 x117 x118 x119 x120 x121 x122 x123 x124 x125 x126 x127 x128 x129 x130 x131 x132 x133 x134 x135 x136 x137 x138 x139 x140 x141 x142 x143 x144 x145 x146 x147 x148 x149 x150 x151 x152 x153 x154 x155 x156 x157 x158 x159 x160 x161 x162 x163 x164 x165 x166 x167 x168 x169 x170 x171 x172 x173 x174 x175 x176 x177 x178 x179 x180 x181 x182 x183 x184 x185 x186 x187 x188 x189 x190 x191 x192 x193 x194 x195 x196 x197 x198 x199 x200 x201 x202 x203 x204 x205 x206 x207 x208 x209 x210 x211 x212 x213 x214 x215 x216 x217 x218 x219 x220 x221 x222 : Value) (w : World) {HB : Nat} (L : List (List UInt8 × Int × Int)) (ao : Option Addr) (cap n : Nat) (hn : n = L.length) (hrow : w.ownsRow HB 52 3 (.slice ao n cap) n (lcs L)) (hl : n ≤ 1000000) (gj nj cj kj : Nat) (s : ByteArray) (hj : w.cell? ⟨gj, kj, none⟩ = some (.string s)) (hkj : kj < nj) (Q0 : Exit → Act → World → Prop)
    (hexit : ∀ (u21 u176 u177 u178 u179 u180 u181 u182 u183 u184 u185 u186 u187 u188 u189 u190 u191 u192 u193 : Value) (m : Nat), Q0 (.exit 7) ⟨#[x0, x1, x2, x3, x4, x5, x6, x7, .slice (some ⟨gj, 0, none⟩) nj cj, x9, x10, x11, x12, .slice ao n cap, x14, x15, x16, .int .i64 (kj : Int), x18, x19, .int .i64 (cntL L s.data.toList : Int), u21, x22, x23, x24, x25, x26, x27, x28, x29, x30, x31, x32, x33, x34, x35, x36, x37, x38, x39, x40, x41, x42, x43, x44, x45, x46, x47, x48, x49, x50, x51, x52, x53, x54, x55, x56, x57, x58, x59, x60, x61, x62, x63, x64, x65, x66, x67, x68, x69, x70, x71, x72, x73, x74, x75, x76, x77, x78, x79, x80, x81, x82, x83, x84, x85, x86, x87, x88, x89, x90, x91, x92, x93, x94, x95, x96, x97, x98, x99, x100, x101, x102, x103, x104, x105, x106, x107, x108, x109, x110, x111, x112, x113, x114, x115, x116, x117, x118, x119, x120, x121, x122, x123, x124, x125, x126, x127, x128, x129, x130, x131, x132, x133, x134, x135, x136, x137, x138, x139, x140, x141, x142, x143, x144, x145, x146, x147, x148, x149, x150, x151, x152, x153, x154, x155, x156, x157, x158, x159, x160, x161, x162, x163, x164, x165, x166, x167, x168, x169, x170, x171, x172, x173, x174, x175, u176, u177, u178, u179, u180, u181, u182, u183, u184, u185, u186, u187, u188, u189, u190, u191, u192, u193, x194, x195, x196, x197, x198, x199, x200, x201, x202, x203, x204, x205, x206, x207, x208, x209, x210, x211, x212, x213, x214, x215, x216, x217, x218, x219, x220, x221, x222], []⟩ (w.drewN m)) :
    Code.wp Try.prog (sub [true, true, true, true, true, true, false, true, false, false, true, false, false, true, true, true, true, true, true, true, false, false, true, false, false, true, true, false, true, false] (Try.f4.body.getD .skip)) Q0 ⟨#[x0, x1, x2, x3, x4, x5, x6, x7, .slice (some ⟨gj, 0, none⟩) nj cj, x9, x10, x11, x12, .slice ao n cap, x14, x15, x16, .int .i64 (kj : Int), x18, x19, .int .i64 0, .int .i64 0, x22, x23, x24, x25, x26, x27, x28, x29, x30, x31, x32, x33, x34, x35, x36, x37, x38, x39, x40, x41, x42, x43, x44, x45, x46, x47, x48, x49, x50, x51, x52, x53, x54, x55, x56, x57, x58, x59, x60, x61, x62, x63, x64, x65, x66, x67, x68, x69, x70, x71, x72, x73, x74, x75, x76, x77, x78, x79, x80, x81, x82, x83, x84, x85, x86, x87, x88, x89, x90, x91, x92, x93, x94, x95, x96, x97, x98, x99, x100, x101, x102, x103, x104, x105, x106, x107, x108, x109, x110, x111, x112, x113, x114, x115, x116, x117, x118, x119, x120, x121, x122, x123, x124, x125, x126, x127, x128, x129, x130, x131, x132, x133, x134, x135, x136, x137, x138, x139, x140, x141, x142, x143, x144, x145, x146, x147, x148, x149, x150, x151, x152, x153, x154, x155, x156, x157, x158, x159, x160, x161, x162, x163, x164, x165, x166, x167, x168, x169, x170, x171, x172, x173, x174, x175, x176, x177, x178, x179, x180, x181, x182, x183, x184, x185, x186, x187, x188, x189, x190, x191, x192, x193, x194, x195, x196, x197, x198, x199, x200, x201, x202, x203, x204, x205, x206, x207, x208, x209, x210, x211, x212, x213, x214, x215, x216, x217, x218, x219, x220, x221, x222], []⟩ w := by
  have HX : Hid (∀ (u21 u176 u177 u178 u179 u180 u181 u182 u183 u184 u185 u186 u187 u188 u189 u190 u191 u192 u193 : Value) (m : Nat), Q0 (.exit 7) ⟨#[x0, x1, x2, x3, x4, x5, x6, x7, .slice (some ⟨gj, 0, none⟩) nj cj, x9, x10, x11, x12, .slice ao n cap, x14, x15, x16, .int .i64 (kj : Int), x18, x19, .int .i64 (cntL L s.data.toList : Int), u21, x22, x23, x24, x25, x26, x27, x28, x29, x30, x31, x32, x33, x34, x35, x36, x37, x38, x39, x40, x41, x42, x43, x44, x45, x46, x47, x48, x49, x50, x51, x52, x53, x54, x55, x56, x57, x58, x59, x60, x61, x62, x63, x64, x65, x66, x67, x68, x69, x70, x71, x72, x73, x74, x75, x76, x77, x78, x79, x80, x81, x82, x83, x84, x85, x86, x87, x88, x89, x90, x91, x92, x93, x94, x95, x96, x97, x98, x99, x100, x101, x102, x103, x104, x105, x106, x107, x108, x109, x110, x111, x112, x113, x114, x115, x116, x117, x118, x119, x120, x121, x122, x123, x124, x125, x126, x127, x128, x129, x130, x131, x132, x133, x134, x135, x136, x137, x138, x139, x140, x141, x142, x143, x144, x145, x146, x147, x148, x149, x150, x151, x152, x153, x154, x155, x156, x157, x158, x159, x160, x161, x162, x163, x164, x165, x166, x167, x168, x169, x170, x171, x172, x173, x174, x175, u176, u177, u178, u179, u180, u181, u182, u183, u184, u185, u186, u187, u188, u189, u190, u191, u192, u193, x194, x195, x196, x197, x198, x199, x200, x201, x202, x203, x204, x205, x206, x207, x208, x209, x210, x211, x212, x213, x214, x215, x216, x217, x218, x219, x220, x221, x222], []⟩ (w.drewN m)) := hexit
  have H : Hid (n = L.length ∧ w.ownsRow HB 52 3 (.slice ao n cap) n (lcs L) ∧ n ≤ 1000000) := ⟨hn, hrow, hl⟩
  have hkj2 : (kj : Int) < (nj : Int) := by omega
  clear hexit hn hrow hl
  conv => arg 2; whnf
  dsimp only
  go_loopw [20, 21] (fun v i wr => ∃ k m t : Nat, k ≤ n ∧ v = .int .i64 (t : Int) ∧ i = .int .i64 (k : Int) ∧ wr = w.drewN m ∧ Hid (t = cntL (L.take k) s.data.toList)) (fun _ i _ => n - (RowKit.intOf i).toNat)
  case atStart => exact ⟨0, 0, 0, Nat.zero_le _, rfl, rfl, rfl, rfl⟩
  case round =>
    obtain ⟨k, m, t, hk, rfl, rfl, rfl, HT⟩ := hrel
    by_cases hlt : k < n
    · have hki : (k : Int) < (n : Int) := by omega
      obtain ⟨hn, hrow, hl⟩ := H.out
      have hkl : k < L.length := by omega
      obtain ⟨g, cap', hv, hcap, hgl⟩ := hrow.form (by omega)
      cases hv
      obtain ⟨c1, c2, c3⟩ := lcs_at hrow hn k hkl
      have hnx := cnt_next (nm := s.data.toList) hkl
      have htl : t ≤ k := by
        have := HT.out
        rw [this]
        unfold cntL
        exact Nat.le_trans (List.length_filter_le _ _) (by rw [List.length_take]; omega)
      have hq := eqL (L[k]).1 s
      generalize L[k] = x at *
      obtain ⟨nm, wk, till⟩ := x
      simp only at c1 c2 c3 hnx hq
      obtain ⟨k1, hk1⟩ : ∃ k1, k1 = k + 1 := ⟨_, rfl⟩
      have ek1 : (k : Int) + 1 = (k1 : Int) := by omega
      have ek2 : IntKind.i64.wrap (k1 : Int) = (k1 : Int) := by rw [IntKind.wrap_i64]; omega
      obtain ⟨t1, ht1⟩ : ∃ t1, t1 = t + 1 := ⟨_, rfl⟩
      have et1 : (t : Int) + 1 = (t1 : Int) := by omega
      have et2 : IntKind.i64.wrap (t1 : Int) = (t1 : Int) := by rw [IntKind.wrap_i64]; omega
      have HK1 : Hid (k1 = k + 1 ∧ t1 = t + 1) := ⟨hk1, ht1⟩
      rw [← hk1, ← HT.out, ← ht1] at hnx
      have HNX : Hid (cntL (L.take k1) s.data.toList = if nm = s.data.toList then t1 else t) := hnx
      generalize (⟨nm.toArray⟩ : ByteArray) = z at c1 hq
      have d1 : ∀ m, (w.drewN m).cell? ⟨g, k * 3, none⟩ = some (.string z) := fun _ => c1
      have d2 : ∀ m, (w.drewN m).cell? ⟨gj, kj, none⟩ = some (.string s) := fun _ => hj
      have e1 := d1 m
      have e2 := d2 m
      by_cases he : nm = s.data.toList
      · rw [decide_eq_true he] at hq
        have HE : Hid (nm = s.data.toList) := he
        clear hn hrow hl hkl hcap hgl c1 c2 c3 hnx hk1 ht1 he htl
        go_wp2
        go_quiet (fail)
        go_wp2
        go_roundw
        case rel => exact ⟨k1, _, t1, by have := HK1.out; omega, rfl, rfl, rfl, by unfold Hid; rw [HNX.out, if_pos HE.out]⟩
        case measure => have := HK1.out; simp [RowKit.intOf]; omega
      · rw [decide_eq_false he] at hq
        have HE : Hid (¬ nm = s.data.toList) := he
        clear hn hrow hl hkl hcap hgl c1 c2 c3 hnx hk1 ht1 he htl
        go_wp2
        go_quiet (fail)
        go_wp2
        go_roundw
        case rel => exact ⟨k1, _, t, by have := HK1.out; omega, rfl, rfl, rfl, by unfold Hid; rw [HNX.out, if_neg HE.out]⟩
        case measure => have := HK1.out; simp [RowKit.intOf]; omega
    · have k2 : ¬ (k : Int) < (n : Int) := by omega
      have HTT : Hid (t = cntL L s.data.toList) := by
        have := HT.out
        rw [List.take_of_length_le (by have := H.out.1; omega)] at this
        exact this
      clear hk hlt
      go_wp2
      have := HX.out
      rw [← HTT.out] at this
      exact this _ _ _ _ _ _ _ _ _ _ _ _ _ _ _ _ _ _ _ _
end Go.Proofs.Ytocahjnibdgmoaa
