/- LeaseBounds: the jobs, one by one. -/
import Derived.Test.YtocahjnibdgmoaaLeBj
namespace Go.Proofs.Ytocahjnibdgmoaa
open Go.RowKit Go.Shelf Go.Maps Go.WideMaps Go.Sort

/-- What is known of jobs that were added, and of those that are done. -/
structure JD (P : List Pj) (J D : List (List UInt8)) : Prop where
  j : ∀ s ∈ J, ∃ p, fndP P s = some p
  d : ∀ s ∈ D, ∃ p, fndP P s = some p ∧ p.dn = true
  jl : J.length ≤ 1000
  dl : D.length ≤ 1000

set_option maxHeartbeats 8000000 in
set_option maxRecDepth 100000 in
theorem jobsL (x0 x1 x3 x4 x6 x7 x10 x11 x12 x14 x15 x16 x18 x19 x20 x21 x22 x23 x24 x25 x26 x27 x28 x29 x30 x31 x32 x33 x34 x35 x36 x37 x38 x39 x40 x41 x42 x43 x44 x45 x46 x47 x48 x49 x50 x51 x52 x53 x54 x55 x56 x57 x58 x59 x60 x61 x62 x63 x64 x65 x66 x67 x68 x69 x70 x71 x72 x73 x74 x75 x76 x77 x78 x79 x80 x81 x82 x83 x84 x85 x86 x87 x88 x89 x90 x91 x92 x93 x94 x95 x96 x97 x98 x99 x100 x101 x102 x103 x104 x105 x106 x107 x108 x109 x110 x111 x112 x113 x114 x115 x116 x117 x118 x119 x120 x121 x122 x123 x124 x125 x126 x127 x128 x129 x130 x131 x132 x133 x134 x135 x136 x137 x138 x139 x140 x141 x142 x143 x144 x145 x146 x147 x148 x149 x150 x151 x152 x153 x154 x155 x156 x157 x158 x159 x160 x161 x162 x163 x164 x165 x166 x167 x168 x169 x170 x171 x172 x173 x174 x175 x176 x177 x178 x179 x180 x181 x182 x183 x184 x185 x186 x187 x188 x189 x190 x191 x192 x193 x194 x195 x196 x197 x198 x199 x200 x201 x202 x203 x204 x205 x206 x207 x208 x209 x210 x211 x212 x213 x214 x215 x216 x217 x218 x219 x220 x221 x222 : Value) (w : World) {B Bk HB T JB : Nat} {a b c nw : Int} {P : List Pj} {I : List Nat} (hB : Bok B Bk a b c nw P I w) (ao : Option Addr) (cap n : Nat) (hn : n = (lsP P).length) (hrow : w.ownsRow HB 52 3 (.slice ao n cap) n (lcs (lsP P))) (hl : n ≤ 1000000) (hT1 : w.cell? ⟨T, 1, none⟩ = some (.int .i64 b)) (hT2 : w.cell? ⟨T, 2, none⟩ = some (.int .i64 c)) (aj : Option Addr) (nj cj : Nat) (J D : List (List UInt8)) (hnj : nj = J.length) (hjr : w.ownsRow JB 9 1 (.slice aj nj cj) nj (J.map encStr)) (dv : Value) (hdr : w.ownsRow JB 9 1 dv D.length (D.map encStr)) (hJD : JD P J D) (Q0 : Exit → Act → World → Prop)
    (hexit : ∀ (u4 u17 u18 u19 u20 u21 u161 u162 u163 u164 u165 u166 u167 u168 u169 u170 u171 u172 u173 u174 u175 u176 u177 u178 u179 u180 u181 u182 u183 u184 u185 u186 u187 u188 u189 u190 u191 u192 u193 u194 u195 u196 u197 u198 u199 u200 u201 u202 u203 u204 u205 u206 u207 u208 u209 u210 u211 u212 u213 u214 u215 u216 u217 u218 u219 u220 u221 u222 : Value) (m : Nat), Q0 (.exit 5) ⟨#[x0, x1, .pointer (some ⟨T, 0, none⟩), x3, u4, .pointer (some ⟨Bk, 0, none⟩), x6, x7, .slice aj nj cj, dv, x10, x11, x12, .slice ao n cap, x14, x15, x16, u17, u18, u19, u20, u21, x22, x23, x24, x25, x26, x27, x28, x29, x30, x31, x32, x33, x34, x35, x36, x37, x38, x39, x40, x41, x42, x43, x44, x45, x46, x47, x48, x49, x50, x51, x52, x53, x54, x55, x56, x57, x58, x59, x60, x61, x62, x63, x64, x65, x66, x67, x68, x69, x70, x71, x72, x73, x74, x75, x76, x77, x78, x79, x80, x81, x82, x83, x84, x85, x86, x87, x88, x89, x90, x91, x92, x93, x94, x95, x96, x97, x98, x99, x100, x101, x102, x103, x104, x105, x106, x107, x108, x109, x110, x111, x112, x113, x114, x115, x116, x117, x118, x119, x120, x121, x122, x123, x124, x125, x126, x127, x128, x129, x130, x131, x132, x133, x134, x135, x136, x137, x138, x139, x140, x141, x142, x143, x144, x145, x146, x147, x148, x149, x150, x151, x152, x153, x154, x155, x156, x157, x158, x159, x160, u161, u162, u163, u164, u165, u166, u167, u168, u169, u170, u171, u172, u173, u174, u175, u176, u177, u178, u179, u180, u181, u182, u183, u184, u185, u186, u187, u188, u189, u190, u191, u192, u193, u194, u195, u196, u197, u198, u199, u200, u201, u202, u203, u204, u205, u206, u207, u208, u209, u210, u211, u212, u213, u214, u215, u216, u217, u218, u219, u220, u221, u222], []⟩ (w.drewN m)) :
    Code.wp Try.prog (sub [true, true, true, true, true, true, false, true, false, false, true, false, false, true, true, true, true, true, true, true, false] (Try.f4.body.getD .skip)) Q0 ⟨#[x0, x1, .pointer (some ⟨T, 0, none⟩), x3, x4, .pointer (some ⟨Bk, 0, none⟩), x6, x7, .slice aj nj cj, dv, x10, x11, x12, .slice ao n cap, x14, x15, x16, .int .i64 0, x18, x19, x20, x21, x22, x23, x24, x25, x26, x27, x28, x29, x30, x31, x32, x33, x34, x35, x36, x37, x38, x39, x40, x41, x42, x43, x44, x45, x46, x47, x48, x49, x50, x51, x52, x53, x54, x55, x56, x57, x58, x59, x60, x61, x62, x63, x64, x65, x66, x67, x68, x69, x70, x71, x72, x73, x74, x75, x76, x77, x78, x79, x80, x81, x82, x83, x84, x85, x86, x87, x88, x89, x90, x91, x92, x93, x94, x95, x96, x97, x98, x99, x100, x101, x102, x103, x104, x105, x106, x107, x108, x109, x110, x111, x112, x113, x114, x115, x116, x117, x118, x119, x120, x121, x122, x123, x124, x125, x126, x127, x128, x129, x130, x131, x132, x133, x134, x135, x136, x137, x138, x139, x140, x141, x142, x143, x144, x145, x146, x147, x148, x149, x150, x151, x152, x153, x154, x155, x156, x157, x158, x159, x160, x161, x162, x163, x164, x165, x166, x167, x168, x169, x170, x171, x172, x173, x174, x175, x176, x177, x178, x179, x180, x181, x182, x183, x184, x185, x186, x187, x188, x189, x190, x191, x192, x193, x194, x195, x196, x197, x198, x199, x200, x201, x202, x203, x204, x205, x206, x207, x208, x209, x210, x211, x212, x213, x214, x215, x216, x217, x218, x219, x220, x221, x222], []⟩ w := by
  have HX : Hid (∀ (u4 u17 u18 u19 u20 u21 u161 u162 u163 u164 u165 u166 u167 u168 u169 u170 u171 u172 u173 u174 u175 u176 u177 u178 u179 u180 u181 u182 u183 u184 u185 u186 u187 u188 u189 u190 u191 u192 u193 u194 u195 u196 u197 u198 u199 u200 u201 u202 u203 u204 u205 u206 u207 u208 u209 u210 u211 u212 u213 u214 u215 u216 u217 u218 u219 u220 u221 u222 : Value) (m : Nat), Q0 (.exit 5) ⟨#[x0, x1, .pointer (some ⟨T, 0, none⟩), x3, u4, .pointer (some ⟨Bk, 0, none⟩), x6, x7, .slice aj nj cj, dv, x10, x11, x12, .slice ao n cap, x14, x15, x16, u17, u18, u19, u20, u21, x22, x23, x24, x25, x26, x27, x28, x29, x30, x31, x32, x33, x34, x35, x36, x37, x38, x39, x40, x41, x42, x43, x44, x45, x46, x47, x48, x49, x50, x51, x52, x53, x54, x55, x56, x57, x58, x59, x60, x61, x62, x63, x64, x65, x66, x67, x68, x69, x70, x71, x72, x73, x74, x75, x76, x77, x78, x79, x80, x81, x82, x83, x84, x85, x86, x87, x88, x89, x90, x91, x92, x93, x94, x95, x96, x97, x98, x99, x100, x101, x102, x103, x104, x105, x106, x107, x108, x109, x110, x111, x112, x113, x114, x115, x116, x117, x118, x119, x120, x121, x122, x123, x124, x125, x126, x127, x128, x129, x130, x131, x132, x133, x134, x135, x136, x137, x138, x139, x140, x141, x142, x143, x144, x145, x146, x147, x148, x149, x150, x151, x152, x153, x154, x155, x156, x157, x158, x159, x160, u161, u162, u163, u164, u165, u166, u167, u168, u169, u170, u171, u172, u173, u174, u175, u176, u177, u178, u179, u180, u181, u182, u183, u184, u185, u186, u187, u188, u189, u190, u191, u192, u193, u194, u195, u196, u197, u198, u199, u200, u201, u202, u203, u204, u205, u206, u207, u208, u209, u210, u211, u212, u213, u214, u215, u216, u217, u218, u219, u220, u221, u222], []⟩ (w.drewN m)) := hexit
  have H : Hid (Bok B Bk a b c nw P I w ∧ n = (lsP P).length ∧ w.ownsRow HB 52 3 (.slice ao n cap) n (lcs (lsP P)) ∧ n ≤ 1000000) := ⟨hB, hn, hrow, hl⟩
  have HJ : Hid (nj = J.length ∧ w.ownsRow JB 9 1 (.slice aj nj cj) nj (J.map encStr) ∧ w.ownsRow JB 9 1 dv D.length (D.map encStr) ∧ JD P J D) := ⟨hnj, hjr, hdr, hJD⟩
  have t1 : ∀ m, (w.drewN m).cell? ⟨T, 1, none⟩ = some (.int .i64 b) := fun _ => hT1
  have t2 : ∀ m, (w.drewN m).cell? ⟨T, 2, none⟩ = some (.int .i64 c) := fun _ => hT2
  clear hexit hB hn hrow hl hnj hjr hdr hJD hT1 hT2
  conv => arg 2; whnf
  dsimp only
  go_loopw [17] (fun i wr => ∃ k m : Nat, k ≤ nj ∧ i = .int .i64 (k : Int) ∧ wr = w.drewN m) (fun i _ => nj - (RowKit.intOf i).toNat)
  case atStart => exact ⟨0, 0, Nat.zero_le _, rfl, rfl⟩
  case round =>
    obtain ⟨k, m, hk, rfl, rfl⟩ := hrel
    by_cases hlt : k < nj
    · have hki : (k : Int) < (nj : Int) := by omega
      obtain ⟨hB, hn, hrow, hl⟩ := H.out
      obtain ⟨hnj, hjr, hdr, hJD⟩ := HJ.out
      have hkl : k < J.length := by omega
      obtain ⟨g, cap', hv, hcap, hgl⟩ := hjr.form (by omega)
      cases hv
      have c1 : w.cell? ⟨g, k, none⟩ = some (.string ⟨(J[k]).toArray⟩) := by
        refine (hjr.cellAt k (by omega)).trans ?_
        rw [List.getElem?_map, List.getElem?_eq_getElem hkl]
        rfl
      have hmem : J[k] ∈ J := List.getElem_mem hkl
      obtain ⟨p, hf⟩ := hJD.j _ hmem
      have hps := fnd_mem hf
      have hok := hB.pi.each p hps.1
      have hcnt := cnt_eq P _ p hB.pi.ne hf
      have hdn : J[k] ∈ D → p.dn = true := fun hd => by
        obtain ⟨q, hq1, hq2⟩ := hJD.d _ hd
        rw [hf] at hq1
        injection hq1 with hq1
        rw [hq1]; exact hq2
      have hS : ∀ m, Calls Try.prog 21 #[.pointer (some ⟨Bk, 0, none⟩), .string ⟨(J[k]).toArray⟩] (w.drewN m) fun e w' => e = .returned (.tuple #[.int .i64 (lst p.dn p.ts.length p.tr b), .int .i64 (p.tr : Int)]) ∧ ∃ m', w' = w.drewN m' := fun m => by
        have := (hB.drewN m).state ⟨(J[k]).toArray⟩ (by show (J[k]).toArray.size ≤ _; rw [List.size_toArray, ← hps.2]; exact hB.nml hps.1)
        rw [show (⟨(J[k]).toArray⟩ : ByteArray).data.toList = J[k] from rfl, hf] at this
        refine this.mono ?_
        rintro e w' ⟨rfl, m', rfl⟩
        exact ⟨rfl, m + m', drewNN w m m'⟩
      have hH : ∀ m, Calls Try.prog 25 #[dv, .string ⟨(J[k]).toArray⟩] (w.drewN m) fun e w' => e = .returned (.bool (decide (J[k] ∈ D))) ∧ w' = w.drewN m := fun m => HasText_L (l := D) ⟨(J[k]).toArray⟩ (own_heapL hdr fun _ _ => rfl) (by have := hJD.dl; omega)
      have hcnt2 : cntL (lsP P) (⟨(J[k]).toArray⟩ : ByteArray).data.toList = p.ts.length := hcnt
      generalize J[k] = nm at *
      obtain ⟨s, es⟩ : ∃ s : ByteArray, s = ⟨nm.toArray⟩ := ⟨_, rfl⟩
      rw [← es] at c1 hS hH hcnt2
      clear es
      have HS : Hid (∀ m, Calls Try.prog 21 #[.pointer (some ⟨Bk, 0, none⟩), .string s] (w.drewN m) fun e w' => e = .returned (.tuple #[.int .i64 (lst p.dn p.ts.length p.tr b), .int .i64 (p.tr : Int)]) ∧ ∃ m', w' = w.drewN m') := hS
      have HH : Hid (∀ m, Calls Try.prog 25 #[dv, .string s] (w.drewN m) fun e w' => e = .returned (.bool (decide (nm ∈ D))) ∧ w' = w.drewN m) := hH
      have hst : (p.ts.length = 0 ∧ (lst p.dn p.ts.length p.tr b == 2) = false ∧ (nm ∈ D → lst p.dn p.ts.length p.tr b = 3)) ∨ (0 < p.ts.length ∧ (lst p.dn p.ts.length p.tr b == 2) = true ∧ nm ∉ D) := by
        by_cases h0 : p.ts.length = 0
        · left
          refine ⟨h0, ?_, fun hd => by unfold lst; rw [if_pos (hdn hd)]⟩
          unfold lst
          rw [h0]
          cases p.dn with
          | true => rfl
          | false =>
            rw [if_neg (by decide), if_neg (by decide)]
            split <;> rfl
        · right
          have hne : p.ts ≠ [] := fun e => h0 (by rw [e]; rfl)
          have hd : p.dn = false := by
            cases hd : p.dn with
            | false => rfl
            | true => exact absurd (hok.dn hd) hne
          refine ⟨by omega, ?_, fun hD => by rw [hdn hD] at hd; cases hd⟩
          unfold lst
          rw [if_neg (by rw [hd]; decide), if_pos (by omega)]
          rfl
      have htr : ¬ b < (p.tr : Int) := by have := hok.tr; omega
      have htw : ¬ c < (p.ts.length : Int) := by have := hok.sz; omega
      generalize lst p.dn (p.ts.length : Int) (p.tr : Int) b = st at *
      generalize p.tr = tr at *
      generalize p.ts.length = tn at *
      have d1 : ∀ m, (w.drewN m).cell? ⟨g, k, none⟩ = some (.string s) := fun _ => c1
      have e1 := d1 m
      obtain ⟨k1, hk1⟩ : ∃ k1, k1 = k + 1 := ⟨_, rfl⟩
      have ek1 : (k : Int) + 1 = (k1 : Int) := by omega
      have ek2 : IntKind.i64.wrap (k1 : Int) = (k1 : Int) := by rw [IntKind.wrap_i64]; have := hJD.jl; omega
      have HK1 : Hid (k1 = k + 1) := hk1
      have HR : Hid (∀ m, (w.drewN m).ownsRow HB 52 3 (.slice ao n cap) n (lcs (lsP P))) := fun m => own_heapL hrow fun _ _ => rfl
      have HN : Hid (n = (lsP P).length ∧ n ≤ 1000000 ∧ k < nj ∧ cntL (lsP P) s.data.toList = tn) := ⟨hn, hl, hlt, hcnt2⟩
      clear hB hn hrow hl hnj hjr hdr hJD hkl hcap hgl c1 hmem hf hps hok hcnt hdn hS hH hcnt2 hk1 hlt
      go_wp2_with (first
        | (go_at_call 21; refine (HS.out _).mono ?_; rintro e w' ⟨rfl, m', rfl⟩; have e2 := d1 m')
        | go_in)
      refine cntLoop _ _ _ _ _ _ _ _ _ _ _ _ _ _ _ _ _ _ _ _ _ _ _ _ _ _ _ _ _ _ _ _ _ _ _ _ _ _ _ _ _ _ _ _ _ _ _ _ _ _ _ _ _ _ _ _ _ _ _ _ _ _ _ _ _ _ _ _ _ _ _ _ _ _ _ _ _ _ _ _ _ _ _ _ _ _ _ _ _ _ _ _ _ _ _ _ _ _ _ _ _ _ _ _ _ _ _ _ _ _ _ _ _ _ _ _ _ _ _ _ _ _ _ _ _ _ _ _ _ _ _ _ _ _ _ _ _ _ _ _ _ _ _ _ _ _ _ _ _ _ _ _ _ _ _ _ _ _ _ _ _ _ _ _ _ _ _ _ _ _ _ _ _ _ _ _ _ _ _ _ _ _ _ _ _ _ _ _ _ _ _ _ _ _ _ _ _ _ _ _ _ _ _ _ _ _ _ _ _ _ _ _ _ _ _ _ _ _ (w.drewN m') (HB := HB) (lsP P) ao cap n HN.out.1 (HR.out m') HN.out.2.1 g nj cj k s e2 HN.out.2.2.1 _ ?_
      intro u21 u176 u177 u178 u179 u180 u181 u182 u183 u184 u185 u186 u187 u188 u189 u190 u191 u192 u193 m2
      rw [HN.out.2.2.2, drewNN]
      obtain ⟨m3, hm3⟩ : ∃ m3, m3 = m' + m2 := ⟨_, rfl⟩
      rw [← hm3]
      clear hm3
      have e3 := d1 m3
      have t3 := t1 m3
      have t4 := t2 m3
      rcases hst with ⟨h0, h1, h2⟩ | ⟨h0, h1, h2⟩
      · subst h0
        by_cases hD : nm ∈ D
        · have h3 := h2 hD
          rw [decide_eq_true hD] at HH
          subst h3
          clear h1 h2 hD
          go_wp2_with (first
            | (go_at_call 25; refine (HH.out _).mono ?_; rintro e w' ⟨rfl, rfl⟩)
            | go_in)
          go_roundw
          case rel => exact ⟨k1, m3, by have := HK1.out; have := HN.out.2.2.1; omega, rfl, rfl⟩
          case measure => have := HK1.out; have := HN.out.2.2.1; simp [RowKit.intOf]; omega
        · rw [decide_eq_false hD] at HH
          clear h2 hD
          have h4 : ¬ st = 2 := by simpa using h1
          go_wp2_with (first
            | (go_at_call 25; refine (HH.out _).mono ?_; rintro e w' ⟨rfl, rfl⟩)
            | go_in)
          go_roundw
          case rel => exact ⟨k1, m3, by have := HK1.out; have := HN.out.2.2.1; omega, rfl, rfl⟩
          case measure => have := HK1.out; have := HN.out.2.2.1; simp [RowKit.intOf]; omega
      · have h3 : st = 2 := by simpa using h1
        subst h3
        have h5 : 0 < (tn : Int) := by omega
        rw [decide_eq_false h2] at HH
        clear h0 h1 h2
        go_wp2_with (first
          | (go_at_call 25; refine (HH.out _).mono ?_; rintro e w' ⟨rfl, rfl⟩)
          | go_in)
        go_roundw
        case rel => exact ⟨k1, m3, by have := HK1.out; have := HN.out.2.2.1; omega, rfl, rfl⟩
        case measure => have := HK1.out; have := HN.out.2.2.1; simp [RowKit.intOf]; omega
    · have k2 : ¬ (k : Int) < (nj : Int) := by omega
      clear hk hlt
      go_wp2
      exact HX.out _ _ _ _ _ _ _ _ _ _ _ _ _ _ _ _ _ _ _ _ _ _ _ _ _ _ _ _ _ _ _ _ _ _ _ _ _ _ _ _ _ _ _ _ _ _ _ _ _ _ _ _ _ _ _ _ _ _ _ _ _ _ _ _ _ _ _ _ _
end Go.Proofs.Ytocahjnibdgmoaa
