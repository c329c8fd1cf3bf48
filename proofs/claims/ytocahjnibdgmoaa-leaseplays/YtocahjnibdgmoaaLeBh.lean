/- LeaseBounds: what is held, one by one. -/
import Derived.Test.YtocahjnibdgmoaaLeZ
namespace Go.Proofs.Ytocahjnibdgmoaa
open Go.RowKit Go.Shelf Go.Maps Go.WideMaps Go.Sort

/-- A part of a text, by the way that leads to it. -/
def sub : List Bool → Code → Code
  | [], c => c
  | false :: p, .seq a _ => sub p a
  | true :: p, .seq _ b => sub p b
  | _ :: p, .block _ c => sub p c
  | _ :: p, .loop c => sub p c
  | false :: p, .cond _ a _ => sub p a
  | true :: p, .cond _ _ b => sub p b
  | _ :: _, c => c

theorem fnd_in {a b c nw : Int} {P : List Pj} (h : PI a b c nw P) {p : Pj} (hp : p ∈ P) : fndP P p.nm = some p := by
  cases e : fndP P p.nm with
  | none => exact absurd rfl (fnd_no e p hp)
  | some q =>
    obtain ⟨h1, h2⟩ := fnd_mem e
    by_cases hq : q = p
    · rw [hq]
    · obtain ⟨i, hi, ei⟩ := List.mem_iff_getElem.1 h1
      obtain ⟨j, hj, ej⟩ := List.mem_iff_getElem.1 hp
      have hne := h.ne
      rw [List.pairwise_iff_getElem] at hne
      rcases Nat.lt_trichotomy i j with hij | hij | hij
      · exact absurd (by rw [ei, ej]; exact h2) (hne i j hi hj hij)
      · subst hij; exact absurd (ei.symm.trans ej) hq
      · exact absurd (by rw [ei, ej]; exact h2.symm) (hne j i hj hi hij)
theorem held_ok {a b c nw : Int} {P : List Pj} (h : PI a b c nw P) {x : List UInt8 × Int × Int} (hx : x ∈ lsP P) : ∃ p, fndP P x.1 = some p ∧ lst p.dn p.ts.length p.tr b = 2 ∧ 1 ≤ p.tr ∧ nw ≤ x.2.2 := by
  unfold lsP at hx
  obtain ⟨p, hp, hx⟩ := List.mem_flatMap.1 hx
  obtain ⟨q, hq, rfl⟩ := List.mem_map.1 hx
  have he := h.each p hp
  have hne : p.ts ≠ [] := fun e => by rw [e] at hq; cases hq
  have hd : p.dn = false := by
    cases hd : p.dn with
    | false => rfl
    | true => exact absurd (he.dn hd) hne
  have hl : 0 < (p.ts.length : Int) := by have := List.length_pos_iff.2 hne; omega
  refine ⟨p, fnd_in h hp, ?_, he.one hne, (he.rg q hq).1⟩
  unfold lst
  rw [if_neg (by rw [hd]; decide), if_pos hl]
theorem Bok.nml {B Bk : Nat} {a b c nw : Int} {P : List Pj} {I : List Nat} {w : World} (h : Bok B Bk a b c nw P I w) {p : Pj} (hp : p ∈ P) : p.nm.length ≤ maxLen := by
  obtain ⟨M, E, h1, rfl, h2⟩ := h.ex
  obtain ⟨x, hx, rfl⟩ := List.mem_map.1 hp
  exact h1.nml hx
theorem lcs_at {W : World} {B g cap n : Nat} {L : List (List UInt8 × Int × Int)} (hr : W.ownsRow B 52 3 (.slice (some ⟨g, 0, none⟩) n cap) n (lcs L)) (hn : n = L.length) (k : Nat) (hk : k < L.length) : W.cell? ⟨g, k * 3, none⟩ = some (.string ⟨(L[k]).1.toArray⟩) ∧ W.cell? ⟨g, k * 3 + 1, none⟩ = some (.int .i64 (L[k]).2.1) ∧ W.cell? ⟨g, k * 3 + 2, none⟩ = some (.int .i64 (L[k]).2.2) := by
  have key : ∀ (l : List (List UInt8 × Int × Int)) (k : Nat) (hk : k < l.length), (lcs l)[k * 3]? = some (.string ⟨(l[k]).1.toArray⟩) ∧ (lcs l)[k * 3 + 1]? = some (.int .i64 (l[k]).2.1) ∧ (lcs l)[k * 3 + 2]? = some (.int .i64 (l[k]).2.2) := by
    intro l
    induction l with
    | nil => intro k hk; cases hk
    | cons x r ih =>
      intro k hk
      have e : lcs (x :: r) = [encStr x.1, .int .i64 x.2.1, .int .i64 x.2.2] ++ lcs r := by unfold lcs; rw [List.flatMap_cons]
      rw [e]
      cases k with
      | zero => exact ⟨rfl, rfl, rfl⟩
      | succ k =>
        obtain ⟨h1, h2, h3⟩ := ih k (by simpa using hk)
        refine ⟨?_, ?_, ?_⟩
        · rw [List.getElem?_append_right (by simp; omega), show (k + 1) * 3 - [encStr x.1, Value.int .i64 x.2.1, Value.int .i64 x.2.2].length = k * 3 from by simp; omega]; exact h1
        · rw [List.getElem?_append_right (by simp; omega), show (k + 1) * 3 + 1 - [encStr x.1, Value.int .i64 x.2.1, Value.int .i64 x.2.2].length = k * 3 + 1 from by simp; omega]; exact h2
        · rw [List.getElem?_append_right (by simp; omega), show (k + 1) * 3 + 2 - [encStr x.1, Value.int .i64 x.2.1, Value.int .i64 x.2.2].length = k * 3 + 2 from by simp; omega]; exact h3
  obtain ⟨h1, h2, h3⟩ := key L k hk
  exact ⟨(hr.cellAt _ (by omega)).trans h1, (hr.cellAt _ (by omega)).trans h2, (hr.cellAt _ (by omega)).trans h3⟩

set_option maxHeartbeats 8000000 in
set_option maxRecDepth 100000 in
theorem heldL (x0 x1 x2 x3 x4 x6 x8 x9 x10 x11 x15 x16 x17 x18 x19 x20 x21 x22 x23 x24 x25 x26 x27 x28 x29 x30 x31 x32 x33 x34 x35 x36 x37 x38 x39 x40 x41 x42 x43 x44 x45 x46 x47 x48 x49 x50 x51 x52 x53 x54 x55 x56 x57 x58 x59 x60 x61 x62 x63 x64 x65 x66 x67 x68 x69 x70 x71 x72 x73 x74 x75 x76 x77 x78 x79 x80 x81 x82 x83 x84 x85 x86 x87 x88 x89 x90 x91 x92 x93 x94 x95 x96 x97 x98 x99 x100 x101 x102 x103 x104 x105 x106 x107 x108 x109 x110 x111 x112 x113 x114 x115 x116 x117 x118 x119 x120 x121 x122 x123 x124 x125 x126 x127 x128 x129 x130 x131 x132 x133 x134 x135 x136 x137 x138 x139 x140 x141 x142 x143 x144 x145 x146 x147 x148 x149 x150 x151 x152 x153 x154 x155 x156 x157 x158 x159 x160 x161 x162 x163 x164 x165 x166 x167 x168 x169 x170 x171 x172 x173 x174 x175 x176 x177 x178 x179 x180 x181 x182 x183 x184 x185 x186 x187 x188 x189 x190 x191 x192 x193 x194 x195 x196 x197 x198 x199 x200 x201 x202 x203 x204 x205 x206 x207 x208 x209 x210 x211 x212 x213 x214 x215 x216 x217 x218 x219 x220 x221 x222 : Value) (w : World) {B Bk HB : Nat} {a b c nw : Int} {P : List Pj} {I : List Nat} (hB : Bok B Bk a b c nw P I w) (ao : Option Addr) (cap n : Nat) (hn : n = (lsP P).length) (hrow : w.ownsRow HB 52 3 (.slice ao n cap) n (lcs (lsP P))) (hl : n ≤ 1000000) (now er : Int) (he : er = 3 ∨ nw = now) (Q0 : Exit → Act → World → Prop)
    (hexit : ∀ (u4 u14 u15 u16 u126 u127 u128 u129 u130 u131 u132 u133 u134 u135 u136 u137 u138 u139 u140 u141 u142 u143 u144 u145 u146 u147 u148 u149 u150 u151 u152 u153 u154 u155 u156 u157 u158 u159 u160 : Value) (m : Nat), Q0 (.exit 3) ⟨#[x0, x1, x2, x3, u4, .pointer (some ⟨Bk, 0, none⟩), x6, .int .i64 now, x8, x9, x10, x11, .int .i64 er, .slice ao n cap, u14, u15, u16, x17, x18, x19, x20, x21, x22, x23, x24, x25, x26, x27, x28, x29, x30, x31, x32, x33, x34, x35, x36, x37, x38, x39, x40, x41, x42, x43, x44, x45, x46, x47, x48, x49, x50, x51, x52, x53, x54, x55, x56, x57, x58, x59, x60, x61, x62, x63, x64, x65, x66, x67, x68, x69, x70, x71, x72, x73, x74, x75, x76, x77, x78, x79, x80, x81, x82, x83, x84, x85, x86, x87, x88, x89, x90, x91, x92, x93, x94, x95, x96, x97, x98, x99, x100, x101, x102, x103, x104, x105, x106, x107, x108, x109, x110, x111, x112, x113, x114, x115, x116, x117, x118, x119, x120, x121, x122, x123, x124, x125, u126, u127, u128, u129, u130, u131, u132, u133, u134, u135, u136, u137, u138, u139, u140, u141, u142, u143, u144, u145, u146, u147, u148, u149, u150, u151, u152, u153, u154, u155, u156, u157, u158, u159, u160, x161, x162, x163, x164, x165, x166, x167, x168, x169, x170, x171, x172, x173, x174, x175, x176, x177, x178, x179, x180, x181, x182, x183, x184, x185, x186, x187, x188, x189, x190, x191, x192, x193, x194, x195, x196, x197, x198, x199, x200, x201, x202, x203, x204, x205, x206, x207, x208, x209, x210, x211, x212, x213, x214, x215, x216, x217, x218, x219, x220, x221, x222], []⟩ (w.drewN m)) :
    Code.wp Try.prog (sub [true, true, true, true, true, true, false, true, false, false, true, false, false, true, true, true, true, true, false, true, false] (Try.f4.body.getD .skip)) Q0 ⟨#[x0, x1, x2, x3, x4, .pointer (some ⟨Bk, 0, none⟩), x6, .int .i64 now, x8, x9, x10, x11, .int .i64 er, .slice ao n cap, .int .i64 0, x15, x16, x17, x18, x19, x20, x21, x22, x23, x24, x25, x26, x27, x28, x29, x30, x31, x32, x33, x34, x35, x36, x37, x38, x39, x40, x41, x42, x43, x44, x45, x46, x47, x48, x49, x50, x51, x52, x53, x54, x55, x56, x57, x58, x59, x60, x61, x62, x63, x64, x65, x66, x67, x68, x69, x70, x71, x72, x73, x74, x75, x76, x77, x78, x79, x80, x81, x82, x83, x84, x85, x86, x87, x88, x89, x90, x91, x92, x93, x94, x95, x96, x97, x98, x99, x100, x101, x102, x103, x104, x105, x106, x107, x108, x109, x110, x111, x112, x113, x114, x115, x116, x117, x118, x119, x120, x121, x122, x123, x124, x125, x126, x127, x128, x129, x130, x131, x132, x133, x134, x135, x136, x137, x138, x139, x140, x141, x142, x143, x144, x145, x146, x147, x148, x149, x150, x151, x152, x153, x154, x155, x156, x157, x158, x159, x160, x161, x162, x163, x164, x165, x166, x167, x168, x169, x170, x171, x172, x173, x174, x175, x176, x177, x178, x179, x180, x181, x182, x183, x184, x185, x186, x187, x188, x189, x190, x191, x192, x193, x194, x195, x196, x197, x198, x199, x200, x201, x202, x203, x204, x205, x206, x207, x208, x209, x210, x211, x212, x213, x214, x215, x216, x217, x218, x219, x220, x221, x222], []⟩ w := by
  have HX : Hid (∀ (u4 u14 u15 u16 u126 u127 u128 u129 u130 u131 u132 u133 u134 u135 u136 u137 u138 u139 u140 u141 u142 u143 u144 u145 u146 u147 u148 u149 u150 u151 u152 u153 u154 u155 u156 u157 u158 u159 u160 : Value) (m : Nat), Q0 (.exit 3) ⟨#[x0, x1, x2, x3, u4, .pointer (some ⟨Bk, 0, none⟩), x6, .int .i64 now, x8, x9, x10, x11, .int .i64 er, .slice ao n cap, u14, u15, u16, x17, x18, x19, x20, x21, x22, x23, x24, x25, x26, x27, x28, x29, x30, x31, x32, x33, x34, x35, x36, x37, x38, x39, x40, x41, x42, x43, x44, x45, x46, x47, x48, x49, x50, x51, x52, x53, x54, x55, x56, x57, x58, x59, x60, x61, x62, x63, x64, x65, x66, x67, x68, x69, x70, x71, x72, x73, x74, x75, x76, x77, x78, x79, x80, x81, x82, x83, x84, x85, x86, x87, x88, x89, x90, x91, x92, x93, x94, x95, x96, x97, x98, x99, x100, x101, x102, x103, x104, x105, x106, x107, x108, x109, x110, x111, x112, x113, x114, x115, x116, x117, x118, x119, x120, x121, x122, x123, x124, x125, u126, u127, u128, u129, u130, u131, u132, u133, u134, u135, u136, u137, u138, u139, u140, u141, u142, u143, u144, u145, u146, u147, u148, u149, u150, u151, u152, u153, u154, u155, u156, u157, u158, u159, u160, x161, x162, x163, x164, x165, x166, x167, x168, x169, x170, x171, x172, x173, x174, x175, x176, x177, x178, x179, x180, x181, x182, x183, x184, x185, x186, x187, x188, x189, x190, x191, x192, x193, x194, x195, x196, x197, x198, x199, x200, x201, x202, x203, x204, x205, x206, x207, x208, x209, x210, x211, x212, x213, x214, x215, x216, x217, x218, x219, x220, x221, x222], []⟩ (w.drewN m)) := hexit
  have H : Hid (Bok B Bk a b c nw P I w ∧ n = (lsP P).length ∧ w.ownsRow HB 52 3 (.slice ao n cap) n (lcs (lsP P)) ∧ n ≤ 1000000 ∧ (er = 3 ∨ nw = now)) := ⟨hB, hn, hrow, hl, he⟩
  clear hexit hB hn hrow hl he
  conv => arg 2; whnf
  dsimp only
  go_loopw [14] (fun i wr => ∃ k m : Nat, k ≤ n ∧ i = .int .i64 (k : Int) ∧ wr = w.drewN m) (fun i _ => n - (RowKit.intOf i).toNat)
  case atStart => exact ⟨0, 0, Nat.zero_le _, rfl, rfl⟩
  case round =>
    obtain ⟨k, m, hk, rfl, rfl⟩ := hrel
    by_cases hlt : k < n
    · have hki : (k : Int) < (n : Int) := by omega
      obtain ⟨hB, hn, hrow, hl, he⟩ := H.out
      have hkl : k < (lsP P).length := by omega
      obtain ⟨g, cap', hv, hcap, hgl⟩ := hrow.form (by omega)
      cases hv
      obtain ⟨c1, c2, c3⟩ := lcs_at hrow hn k hkl
      have hmem : (lsP P)[k] ∈ lsP P := List.getElem_mem hkl
      obtain ⟨p, hf, hst, htr, htl⟩ := held_ok hB.pi hmem
      have hps := fnd_mem hf
      have hS : ∀ m, Calls Try.prog 21 #[.pointer (some ⟨Bk, 0, none⟩), .string ⟨((lsP P)[k]).1.toArray⟩] (w.drewN m) fun e w' => e = .returned (.tuple #[.int .i64 2, .int .i64 (p.tr : Int)]) ∧ ∃ m', w' = w.drewN m' := fun m => by
        have := (hB.drewN m).state ⟨((lsP P)[k]).1.toArray⟩ (by show ((lsP P)[k]).1.toArray.size ≤ _; rw [List.size_toArray, ← hps.2]; exact hB.nml hps.1)
        rw [show (⟨((lsP P)[k]).1.toArray⟩ : ByteArray).data.toList = ((lsP P)[k]).1 from rfl, hf] at this
        simp only [hst] at this
        refine this.mono ?_
        rintro e w' ⟨rfl, m', rfl⟩
        exact ⟨rfl, m + m', drewNN w m m'⟩
      generalize (lsP P)[k] = x at *
      obtain ⟨nm, wk, till⟩ := x
      simp only at c1 c2 c3 htl hS
      generalize (⟨nm.toArray⟩ : ByteArray) = s at c1 hS
      have d1 : ∀ m, (w.drewN m).cell? ⟨g, k * 3, none⟩ = some (.string s) := fun _ => c1
      have d3 : ∀ m, (w.drewN m).cell? ⟨g, k * 3 + 2, none⟩ = some (.int .i64 till) := fun _ => c3
      have HS : Hid (∀ m, Calls Try.prog 21 #[.pointer (some ⟨Bk, 0, none⟩), .string s] (w.drewN m) fun e w' => e = .returned (.tuple #[.int .i64 2, .int .i64 (p.tr : Int)]) ∧ ∃ m', w' = w.drewN m') := hS
      have htr2 : ¬ (p.tr : Int) < 1 := by omega
      generalize p.tr = tr at *
      obtain ⟨k1, hk1⟩ : ∃ k1, k1 = k + 1 := ⟨_, rfl⟩
      have ek1 : (k : Int) + 1 = (k1 : Int) := by omega
      have ek2 : IntKind.i64.wrap (k1 : Int) = (k1 : Int) := by rw [IntKind.wrap_i64]; omega
      have HK1 : Hid (k1 = k + 1) := hk1
      have e1 := d1 m
      rcases he with rfl | he
      · clear hB hn hrow hl hkl hcap hgl c1 c2 c3 hmem hf hst htr htl hps hS hk1 d1 d3
        go_wp2_with (first
          | (go_at_call 21; refine (HS.out _).mono ?_; rintro e w' ⟨rfl, m', rfl⟩)
          | go_in)
        go_roundw
        case rel => exact ⟨k1, m', by have := HK1.out; omega, rfl, rfl⟩
        case measure => have := HK1.out; simp [RowKit.intOf]; omega
      · have hnt : ¬ till < now := by omega
        by_cases h3 : er = 3
        · subst h3
          clear hB hn hrow hl hkl hcap hgl c1 c2 c3 hmem hf hst htr htl hps hS hk1 d1 d3 he
          go_wp2_with (first
            | (go_at_call 21; refine (HS.out _).mono ?_; rintro e w' ⟨rfl, m', rfl⟩)
            | go_in)
          go_roundw
          case rel => exact ⟨k1, m', by have := HK1.out; omega, rfl, rfl⟩
          case measure => have := HK1.out; simp [RowKit.intOf]; omega
        · have h4 : (er == 3) = false := beq_eq_false_iff_ne.2 h3
          have h5 : (er != 3) = true := by simpa using h3
          clear hB hn hrow hl hkl hcap hgl c1 c2 c3 hmem hf hst htr htl hps hS hk1 d1 he
          go_wp2_with (first
            | (go_at_call 21; refine (HS.out _).mono ?_; rintro e w' ⟨rfl, m', rfl⟩; have e3 := d3 m')
            | go_in)
          go_roundw
          case rel => exact ⟨k1, m', by have := HK1.out; omega, rfl, rfl⟩
          case measure => have := HK1.out; simp [RowKit.intOf]; omega
    · have k2 : ¬ (k : Int) < (n : Int) := by omega
      clear hk hlt
      go_wp2
      exact HX.out _ _ _ _ _ _ _ _ _ _ _ _ _ _ _ _ _ _ _ _ _ _ _ _ _ _ _ _ _ _ _ _ _ _ _ _ _ _ _ _
end Go.Proofs.Ytocahjnibdgmoaa
