/- The document's own Firsts and Constants: the numbers that the digest's variables are laid with. -/
import Derived.BigQuiet
import Derived.Deep.AppendLies
import Derived.Test.YtefdfcjohkndgaaGreatDoorTc7
namespace Go.Proofs.YtefdfcjohkndgaaGreatDoor
open Go.RowKit

def sqN : List Nat := sqL.map Int.toNat
def cuN : List Nat := cuL.map Int.toNat
theorem sqN_i : toI sqN = sqL := by kernel_rfl
theorem cuN_i : toI cuN = cuL := by kernel_rfl
def q0 : N8 := ⟨sqN.getD 0 0, sqN.getD 1 0, sqN.getD 2 0, sqN.getD 3 0, sqN.getD 4 0, sqN.getD 5 0, sqN.getD 6 0, sqN.getD 7 0⟩
theorem q0_i : q0.i = sq8 := by kernel_rfl
theorem q0_ok : q0.ok := by
  have h : (decide (q0.a < 2 ^ 32) && decide (q0.b < 2 ^ 32) && decide (q0.c < 2 ^ 32) && decide (q0.d < 2 ^ 32) && decide (q0.e < 2 ^ 32) && decide (q0.f < 2 ^ 32) && decide (q0.g < 2 ^ 32) && decide (q0.h < 2 ^ 32)) = true := by kernel_rfl
  simp only [Bool.and_eq_true, decide_eq_true_eq] at h
  exact ⟨h.1.1.1.1.1.1.1, h.1.1.1.1.1.1.2, h.1.1.1.1.1.2, h.1.1.1.1.2, h.1.1.1.2, h.1.1.2, h.1.2, h.2⟩
theorem sum_plain (s : ByteArray) : sumB s sq8 cuL = ⟨(digsN (stF (padL s) cuN 0 q0 ((padL s).length / 64))).toArray⟩ := by
  rw [← q0_i, ← cuN_i]
  exact sumB_nat s cuN q0 q0_ok
/-- These numbers, as cells. -/
def intCells (l : List Nat) : Array Value := (l.map fun (n : Nat) => Value.int .i64 (n : Int)).toArray

set_option maxHeartbeats 2000000 in
set_option maxRecDepth 100000 in
theorem Firsts_any (w : World) :
    Calls Tryz.prog 66 #[] w fun e w' => e = .returned (.slice (some ⟨w.heap.size, 0, none⟩) 8 8) ∧ w' = w.alloc (.cells (intCells sqN) 3) := by
  have HC : Hid (intCells sqN = #[.int .i64 1779033703, .int .i64 3144134277, .int .i64 1013904242, .int .i64 2773480762, .int .i64 1359893119, .int .i64 2600822924, .int .i64 528734635, .int .i64 1541459225]) := by show _ = _; kernel_rfl
  rw [HC.out]
  go_enter Tryz.func66, Tryz.ntmps66
  go_wp2
  go_ret
  exact ⟨rfl, rfl⟩

set_option maxHeartbeats 4000000 in
set_option maxRecDepth 100000 in
theorem Constants_any (w : World) :
    Calls Tryz.prog 65 #[] w fun e w' => e = .returned (.slice (some ⟨w.heap.size, 0, none⟩) 64 64) ∧ w' = w.alloc (.cells (intCells cuN) 3) := by
  obtain ⟨C, hC⟩ : ∃ C, C = intCells cuN := ⟨_, rfl⟩
  rw [← hC]
  have HC : Hid (C = intCells cuN) := hC
  clear hC
  go_enter Tryz.func65, Tryz.ntmps65
  go_wp2
  go_ret
  refine ⟨rfl, ?_⟩
  rw [HC.out]
  exact congrArg (fun c => w.alloc (.cells c 3)) (by kernel_rfl)
end Go.Proofs.YtefdfcjohkndgaaGreatDoor

/- The document's own Sum, in parts: its loops, taken out of its text; what lies where. -/
namespace Go.Proofs.YtefdfcjohkndgaaGreatDoor
open Go.RowKit

/-- A part of a text, by the way that leads to it. -/
def subC : List Bool → Code → Code
  | [], c => c
  | false :: p, .seq a _ => subC p a
  | true :: p, .seq _ b => subC p b
  | _ :: p, .block _ c => subC p c
  | _ :: p, .loop c => subC p c
  | false :: p, .cond _ a _ => subC p a
  | true :: p, .cond _ _ b => subC p b
  | _ :: _, c => c
end Go.Proofs.YtefdfcjohkndgaaGreatDoor

/- The document's Directory: its names, one by one. -/
namespace Go.Proofs.YtefdfcjohkndgaaGreatDoor
open Go.RowKit Go.Shelf Go.Maps Go.WideMaps Go.Sort
attribute [local go_sem ↓] appS_eq

theorem insN_some (s : List UInt8) (l : List (List UInt8)) : insN s l ≠ [] := fun e => by
  have := (insN_mem s s l).2 (.inl rfl)
  rw [e] at this
  cases this
theorem parts_hd (f : Fl) : ∃ r, parts [] (pth f) = hdF f :: r := by
  unfold hdF
  rw [parts_sl]
  cases sl (pth f) with
  | none => exact ⟨[], rfl⟩
  | some x => exact ⟨_, rfl⟩
/-- Texts that rise, in memory: a row of one's own since B, nil where there is none. -/
structure RowT (B : Nat) (T : List (List UInt8)) (v : Value) (w : World) : Prop where
  own : w.ownsRow B 9 1 v T.length (T.map encStr)
  nil : T = [] → v = .slice none 0 0
  lo : B ≤ w.heap.size
theorem RowT.start {B : Nat} {w : World} (h : B ≤ w.heap.size) : RowT B [] (.slice none 0 0) w := ⟨World.ownsRow_nil _ _ _ _, fun _ => rfl, h⟩
theorem RowT.up {B : Nat} {T : List (List UInt8)} {v : Value} {w w' : World} (h : RowT B T v w) (hb : Below w.heap.size w w') : RowT B T v w' := ⟨row_heap h.own fun b hb2 => hb.block b (h.own.lt b hb2).2, h.nil, Nat.le_trans h.lo hb.size⟩
theorem RowT.keep {B : Nat} {T : List (List UInt8)} {v : Value} {w w' : World} (h : RowT B T v w) (hb : ∀ b, v.ownBlock = some b → w'.heap[b]? = w.heap[b]?) (hs : w.heap.size ≤ w'.heap.size) : RowT B T v w' := ⟨row_heap h.own hb, h.nil, Nat.le_trans h.lo hs⟩
/-- One text more. -/
def AtP (B : Nat) (v : Value) (T : List (List UInt8)) (s : ByteArray) (w : World) (e : Ending) (w' : World) : Prop := ∃ v', e = .returned v' ∧ RowT B (insN s.data.toList T) v' w' ∧ Below w.heap.size w w' ∧ ∀ g, v'.ownBlock = some g → v.ownBlock = some g ∨ w.heap.size ≤ g
theorem RowT.add {B : Nat} {T : List (List UInt8)} {v : Value} {w : World} (h : RowT B T v w) (s : ByteArray) (hn : T.length ≤ 1000000) :
    Calls Tryz.prog 37 #[v, .string s] w (AtP B v T s w) := by
  refine (AddText_any B v T s w h.own h.nil h.lo hn).mono ?_
  rintro e w' ⟨v', rfl, h1, h2, h3⟩
  exact ⟨v', rfl, ⟨h1, fun e => absurd e (insN_some _ _), Nat.le_trans h.lo h2.size⟩, h2, h3⟩
theorem dirName (f : Fl) (w : World) (hs : f.pa.size ≤ 100) :
    Calls Tryz.prog 72 #[.string f.pa] w fun e w' => ∃ g n c, e = .returned (.slice (some ⟨g, 0, none⟩) n c) ∧ 0 < n ∧ w'.cell? ⟨g, 0, none⟩ = some (.string ⟨(hdF f).toArray⟩) ∧ Below w.heap.size w w' := by
  refine (Parts_any f.pa w hs).mono ?_
  rintro e w' ⟨v, rfl, h1, h2⟩
  obtain ⟨r, hr⟩ := parts_hd f
  have hr2 : parts [] f.pa.data.toList = hdF f :: r := hr
  rw [hr2] at h1
  obtain ⟨g, c, rfl, _, _⟩ := h1.form (by simp)
  exact ⟨g, _, c, rfl, by simp, (h1.cellAt 0 (by simp)).trans rfl, h2⟩
theorem fl_le {L : List Fl} (h : okT L) {f : Fl} (hf : f ∈ L) : f.pa.size ≤ 100 := pathOk_size (flE_pa (h.2.1 f hf)).1
theorem cut_le (d : ByteArray) (f : Fl) : (cutP d f).pa.size ≤ f.pa.size := by
  show (f.pa.extract _ _).size ≤ _
  rw [ByteArray.size_extract]
  omega

/-- How it stands behind so many files. -/
def NmI (d : ByteArray) (L : List Fl) (w : World) (k : Nat) (v : Value) (wr : World) : Prop := RowT w.heap.size (hs (dv d (L.take k))) v wr ∧ Below w.heap.size w wr

set_option maxHeartbeats 8000000 in
set_option maxRecDepth 100000 in
theorem namesL (x2 x3 x4 x5 x8 x9 x10 x11 x12 x13 x14 x15 x16 x17 x18 x19 x20 x21 x22 x23 x24 x25 x26 x27 x28 x29 x30 x31 x32 x33 x34 x35 x36 x37 x38 x39 x40 x41 x42 x43 x44 x45 x46 x47 x48 x49 x50 x51 x52 x53 x54 x55 x56 x57 x58 x59 x60 x61 x62 x63 x64 x65 x66 x67 x68 x69 x70 x71 x72 x73 x74 x75 x76 x77 x78 x79 x80 x81 x82 x83 x84 x85 x86 x87 x88 x89 x90 x91 x92 x93 x94 x95 x96 x97 x98 x99 x100 x101 x102 x103 x104 x105 x106 x107 x108 x109 x110 x111 x112 x113 x114 x115 x116 x117 x118 x119 x120 x121 x122 x123 x124 x125 x126 x127 : Value) (ao : Option Addr) (cap : Nat) (L : List Fl) (d : ByteArray) (w : World) (hL : IsFl w ao L) (hok : okT L) (hd : d.size ≤ 1000) (Q0 : Exit → Act → World → Prop)
    (hexit : ∀ (u6 u7 u8 u19 u20 u21 u22 u23 u24 u25 u26 u27 u28 u29 u30 u31 u32 u33 u34 u35 u36 u37 u38 u39 u40 u41 u42 u43 u44 u45 u46 : Value) (w' : World), Hid (NmI d L w L.length u6 w') → Q0 (.exit 0) ⟨#[.slice ao L.length cap, .string d, x2, x3, x4, x5, u6, u7, u8, x9, x10, x11, x12, x13, x14, x15, x16, x17, x18, u19, u20, u21, u22, u23, u24, u25, u26, u27, u28, u29, u30, u31, u32, u33, u34, u35, u36, u37, u38, u39, u40, u41, u42, u43, u44, u45, u46, x47, x48, x49, x50, x51, x52, x53, x54, x55, x56, x57, x58, x59, x60, x61, x62, x63, x64, x65, x66, x67, x68, x69, x70, x71, x72, x73, x74, x75, x76, x77, x78, x79, x80, x81, x82, x83, x84, x85, x86, x87, x88, x89, x90, x91, x92, x93, x94, x95, x96, x97, x98, x99, x100, x101, x102, x103, x104, x105, x106, x107, x108, x109, x110, x111, x112, x113, x114, x115, x116, x117, x118, x119, x120, x121, x122, x123, x124, x125, x126, x127], []⟩ w') :
    Code.wp Tryz.prog (subC [true, true, false, true, false] (Tryz.f36.body.getD .skip)) Q0 ⟨#[.slice ao L.length cap, .string d, x2, x3, x4, x5, .slice none 0 0, .int .i64 0, x8, x9, x10, x11, x12, x13, x14, x15, x16, x17, x18, x19, x20, x21, x22, x23, x24, x25, x26, x27, x28, x29, x30, x31, x32, x33, x34, x35, x36, x37, x38, x39, x40, x41, x42, x43, x44, x45, x46, x47, x48, x49, x50, x51, x52, x53, x54, x55, x56, x57, x58, x59, x60, x61, x62, x63, x64, x65, x66, x67, x68, x69, x70, x71, x72, x73, x74, x75, x76, x77, x78, x79, x80, x81, x82, x83, x84, x85, x86, x87, x88, x89, x90, x91, x92, x93, x94, x95, x96, x97, x98, x99, x100, x101, x102, x103, x104, x105, x106, x107, x108, x109, x110, x111, x112, x113, x114, x115, x116, x117, x118, x119, x120, x121, x122, x123, x124, x125, x126, x127], []⟩ w := by
  have HX : Hid (∀ (u6 u7 u8 u19 u20 u21 u22 u23 u24 u25 u26 u27 u28 u29 u30 u31 u32 u33 u34 u35 u36 u37 u38 u39 u40 u41 u42 u43 u44 u45 u46 : Value) (w' : World), Hid (NmI d L w L.length u6 w') → Q0 (.exit 0) ⟨#[.slice ao L.length cap, .string d, x2, x3, x4, x5, u6, u7, u8, x9, x10, x11, x12, x13, x14, x15, x16, x17, x18, u19, u20, u21, u22, u23, u24, u25, u26, u27, u28, u29, u30, u31, u32, u33, u34, u35, u36, u37, u38, u39, u40, u41, u42, u43, u44, u45, u46, x47, x48, x49, x50, x51, x52, x53, x54, x55, x56, x57, x58, x59, x60, x61, x62, x63, x64, x65, x66, x67, x68, x69, x70, x71, x72, x73, x74, x75, x76, x77, x78, x79, x80, x81, x82, x83, x84, x85, x86, x87, x88, x89, x90, x91, x92, x93, x94, x95, x96, x97, x98, x99, x100, x101, x102, x103, x104, x105, x106, x107, x108, x109, x110, x111, x112, x113, x114, x115, x116, x117, x118, x119, x120, x121, x122, x123, x124, x125, x126, x127], []⟩ w') := hexit
  have HL : Hid (IsFl w ao L) := hL
  have HO : Hid (okT L) := hok
  have hn1 : (L.length : Int) ≤ 60 := by have := hok.1; omega
  have hd2 : (d.size : Int) ≤ 1000 := by omega
  have HIn : Hid (∀ (p : ByteArray) (W : World), Calls Tryz.prog 35 #[.string d, .string p] W fun e w' => e = .returned (.bool (inB p d)) ∧ w' = W) := fun p W => RIsInside_any p d W
  clear hexit hL hok
  conv => arg 2; whnf
  dsimp only
  go_loopw [6, 7] (fun v i wr => ∃ k : Nat, k ≤ L.length ∧ i = .int .i64 (k : Int) ∧ Hid (NmI d L w k v wr)) (fun _ i _ => L.length - (RowKit.intOf i).toNat)
  case atStart =>
    refine ⟨0, Nat.zero_le _, rfl, ⟨?_, Below.refl _ _⟩⟩
    have : hs (dv d (L.take 0)) = [] := by
      have e : dv d [] = [] := by unfold dv undF; split <;> rfl
      rw [List.take_zero, e]
      rfl
    rw [this]
    exact RowT.start (Nat.le_refl _)
  case round =>
    obtain ⟨k, hk, rfl, HI⟩ := hrel
    by_cases hlt : k < L.length
    · have hki : (k : Int) < (L.length : Int) := by omega
      rcases HL.out.below HI.out.2 (Nat.le_refl _) with h | ⟨g, o, rfl, hg, hc⟩
      · exfalso; rw [h] at hlt; exact absurd hlt (by simp)
      obtain ⟨c0, _, _⟩ := hc k hlt
      have hsz : (L[k]).pa.size ≤ 100 := fl_le HO.out (List.getElem_mem hlt)
      have HDv : Hid (dv d (L.take (k + 1)) = if d.data.toList = [] then L.take k ++ [L[k]] else if inB (L[k]).pa d = true then dv d (L.take k) ++ [cutP d L[k]] else dv d (L.take k)) := by
        show _ = _
        rw [List.take_succ_eq_append_getElem hlt, dv_snoc]
      have hhl : (hs (dv d (L.take k))).length ≤ 1000000 := by
        have h1 := hs_len (dv d (L.take k))
        have h2 : (dv d (L.take k)).length ≤ (L.take k).length := by
          unfold dv
          split
          · exact Nat.le_refl _
          · exact undF_len _ _
        rw [List.length_take] at h2
        omega
      obtain ⟨k1, hk1⟩ : ∃ k1, k1 = k + 1 := ⟨_, rfl⟩
      have ek1 : (k : Int) + 1 = (k1 : Int) := by omega
      have ek2 : IntKind.i64.wrap (k1 : Int) = (k1 : Int) := by rw [IntKind.wrap_i64]; omega
      have HK1 : Hid (k1 = k + 1 ∧ k < L.length) := ⟨hk1, hlt⟩
      -- a name more, of this file
      have tail : ∀ f : Fl, f.pa.size ≤ 100 → dv d (L.take (k + 1)) = dv d (L.take k) ++ [f] → ∀ W, W = wr →
          Calls Tryz.prog 72 #[.string f.pa] W fun e w1 => ∃ g n c, e = .returned (.slice (some ⟨g, 0, none⟩) n c) ∧ 0 < n ∧ w1.cell? ⟨g, 0, none⟩ = some (.string ⟨(hdF f).toArray⟩) ∧
            Hid (Calls Tryz.prog 37 #[u6, .string ⟨(hdF f).toArray⟩] w1 fun e w2 => ∃ v', e = .returned v' ∧ Hid (NmI d L w (k + 1) v' w2)) := by
        intro f hf he W hW
        subst hW
        refine (dirName f W hf).mono ?_
        rintro e w1 ⟨g, n, c, rfl, hn, hc1, hb1⟩
        refine ⟨g, n, c, rfl, hn, hc1, ?_⟩
        refine ((HI.out.1.up hb1).add ⟨(hdF f).toArray⟩ hhl).mono ?_
        rintro e w2 ⟨v', rfl, hr2, hb2, _⟩
        refine ⟨v', rfl, ?_, HI.out.2.trans ((hb1.trans (hb2.mono hb1.size)).mono HI.out.2.size)⟩
        rw [he, hs_snoc]
        exact hr2
      have HT : Hid (∀ f : Fl, f.pa.size ≤ 100 → dv d (L.take (k + 1)) = dv d (L.take k) ++ [f] → ∀ W, W = wr →
          Calls Tryz.prog 72 #[.string f.pa] W fun e w1 => ∃ g n c, e = .returned (.slice (some ⟨g, 0, none⟩) n c) ∧ 0 < n ∧ w1.cell? ⟨g, 0, none⟩ = some (.string ⟨(hdF f).toArray⟩) ∧
            Hid (Calls Tryz.prog 37 #[u6, .string ⟨(hdF f).toArray⟩] w1 fun e w2 => ∃ v', e = .returned v' ∧ Hid (NmI d L w (k + 1) v' w2))) := tail
      clear hc tail hhl hk1
      generalize L[k] = f at *
      by_cases hd0 : d.data.toList = []
      · obtain rfl : d = ⟨#[]⟩ := bytes_ext hd0
        have HP : Hid (Calls Tryz.prog 72 #[.string f.pa] wr fun e w1 => ∃ g n c, e = .returned (.slice (some ⟨g, 0, none⟩) n c) ∧ 0 < n ∧ w1.cell? ⟨g, 0, none⟩ = some (.string ⟨(hdF f).toArray⟩) ∧
            Hid (Calls Tryz.prog 37 #[u6, .string ⟨(hdF f).toArray⟩] w1 fun e w2 => ∃ v', e = .returned v' ∧ Hid (NmI ⟨#[]⟩ L w (k + 1) v' w2))) := HT.out f hsz (by rw [HDv.out, if_pos rfl, dv_none]) wr rfl
        generalize (⟨(hdF f).toArray⟩ : ByteArray) = nm at HP
        clear hd0 HDv HT hsz hk hlt
        go_wp2_with fail
        refine HP.out.mono ?_
        rintro e w1 ⟨g1, n1, b1, rfl, hn1', hc1, HA⟩
        have hni : (0 : Int) < (n1 : Int) := by omega
        clear hn1'
        go_wp2_with fail
        refine HA.out.mono ?_
        rintro e w2 ⟨v', rfl, HN⟩
        clear HA HP hc1
        go_wp2
        refine ⟨⟨k1, by have := HK1.out; omega, rfl, by rw [HK1.out.1]; exact HN⟩, ?_⟩
        have := HK1.out
        simp [RowKit.intOf]; omega
      · have HI2 : Hid (Calls Tryz.prog 35 #[.string d, .string f.pa] wr fun e w' => e = .returned (.bool (inB f.pa d)) ∧ w' = wr) := HIn.out f.pa wr
        have hdn : (d.toList == []) = false := by rw [Lib.toList_data]; simpa using hd0
        have hde : ¬ d.toList = [] := by rw [Lib.toList_data]; exact hd0
        cases hin : inB f.pa d with
        | false =>
          rw [hin] at HI2
          have HN : Hid (NmI d L w (k + 1) u6 wr) := by
            refine ⟨?_, HI.out.2⟩
            rw [HDv.out, if_neg hd0, hin, if_neg (by decide)]
            exact HI.out.1
          clear hd0 HDv HT hsz hk hlt hin
          go_wp2_with fail
          refine HI2.out.mono ?_
          rintro e w1 ⟨rfl, rfl⟩
          go_wp2
          refine ⟨⟨k1, by have := HK1.out; omega, rfl, by rw [HK1.out.1]; exact HN⟩, ?_⟩
          have := HK1.out
          simp [RowKit.intOf]; omega
        | true =>
          rw [hin] at HI2
          have hdl := inB_lt hin
          have hdl2 : (d.size : Int) + 1 ≤ (f.pa.size : Int) := by omega
          have hsi : (f.pa.size : Int) ≤ 100 := by omega
          have HP : Hid (Calls Tryz.prog 72 #[.string (f.pa.extract (d.size + 1) f.pa.size)] wr fun e w1 => ∃ g n c, e = .returned (.slice (some ⟨g, 0, none⟩) n c) ∧ 0 < n ∧ w1.cell? ⟨g, 0, none⟩ = some (.string ⟨(hdF (cutP d f)).toArray⟩) ∧
            Hid (Calls Tryz.prog 37 #[u6, .string ⟨(hdF (cutP d f)).toArray⟩] w1 fun e w2 => ∃ v', e = .returned v' ∧ Hid (NmI d L w (k + 1) v' w2))) := HT.out (cutP d f) (Nat.le_trans (cut_le d f) hsz) (by rw [HDv.out, if_neg hd0, hin, if_pos rfl]) wr rfl
          generalize (⟨(hdF (cutP d f)).toArray⟩ : ByteArray) = nm at HP
          clear hd0 HDv HT hsz hk hlt hin
          go_wp2_with fail
          refine HI2.out.mono ?_
          rintro e w1 ⟨rfl, rfl⟩
          go_wp2_with fail
          refine HP.out.mono ?_
          rintro e w1 ⟨g1, n1, b1, rfl, hn1', hc1, HA⟩
          have hni : (0 : Int) < (n1 : Int) := by omega
          clear hn1'
          go_wp2_with fail
          refine HA.out.mono ?_
          rintro e w2 ⟨v', rfl, HN⟩
          clear HA HP hc1
          go_wp2
          refine ⟨⟨k1, by have := HK1.out; omega, rfl, by rw [HK1.out.1]; exact HN⟩, ?_⟩
          have := HK1.out
          simp [RowKit.intOf]; omega
    · obtain rfl : k = L.length := by omega
      have k2 : ¬ (L.length : Int) < (L.length : Int) := by omega
      clear hk hlt
      go_wp2
      exact HX.out _ _ _ _ _ _ _ _ _ _ _ _ _ _ _ _ _ _ _ _ _ _ _ _ _ _ _ _ _ _ _ _ HI
end Go.Proofs.YtefdfcjohkndgaaGreatDoor

/- The document's Directory: the file with a path; texts of a directory further in. -/
namespace Go.Proofs.YtefdfcjohkndgaaGreatDoor
open Go.RowKit Go.Shelf Go.Maps Go.WideMaps Go.Sort
attribute [local go_sem ↓] appS_eq

/-- A node in a block of its own; nothing else has changed. -/
structure FB (nm : ByteArray) (kd : Int) (dg : ByteArray) (Nb : Nat) (w wr : World) : Prop where
  blk : wr.heap[Nb]? = some (.cells #[.string nm, .int .i64 kd, .string dg] 79 (0, 0))
  os : wr.os = w.os
  tape : wr.tape = w.tape
  output : wr.output = w.output
  size : wr.heap.size = w.heap.size
  oth : ∀ b, b ≠ Nb → wr.heap[b]? = w.heap[b]?
section
variable {nm dg : ByteArray} {kd : Int} {Nb : Nat} {w wr : World}
theorem FB.c0 (h : FB nm kd dg Nb w wr) : wr.cell? ⟨Nb, 0, none⟩ = some (.string nm) := by rw [Lib.cell_of_heap h.blk]; rfl
theorem FB.c1 (h : FB nm kd dg Nb w wr) : wr.cell? ⟨Nb, 1, none⟩ = some (.int .i64 kd) := by rw [Lib.cell_of_heap h.blk]; rfl
theorem FB.c2 (h : FB nm kd dg Nb w wr) : wr.cell? ⟨Nb, 2, none⟩ = some (.string dg) := by rw [Lib.cell_of_heap h.blk]; rfl
theorem FB.fz (h : FB nm kd dg Nb w wr) (j : Nat) : wr.frozen? ⟨Nb, j, none⟩ = false := by simp only [World.frozen?]; rw [h.blk]; simp
theorem FB.drew (h : FB nm kd dg Nb w wr) : FB nm kd dg Nb w wr.drew := ⟨h.blk, h.os, h.tape, h.output, h.size, h.oth⟩
theorem FB.set1 (h : FB nm kd dg Nb w wr) (k2 : Int) : FB nm k2 dg Nb w (wr.setCell ⟨Nb, 1, none⟩ (.int .i64 k2)) := by
  refine ⟨?_, h.os, h.tape, h.output, ?_, fun b hb => (Below.heap_setCell _ _ _ _ hb).trans (h.oth b hb)⟩
  · simp only [World.setCell, Array.getElem?_modify, h.blk]
    rfl
  · rw [← h.size]
    simp [World.setCell]
theorem FB.set2 (h : FB nm kd dg Nb w wr) (d2 : ByteArray) : FB nm kd d2 Nb w (wr.setCell ⟨Nb, 2, none⟩ (.string d2)) := by
  refine ⟨?_, h.os, h.tape, h.output, ?_, fun b hb => (Below.heap_setCell _ _ _ _ hb).trans (h.oth b hb)⟩
  · simp only [World.setCell, Array.getElem?_modify, h.blk]
    rfl
  · rw [← h.size]
    simp [World.setCell]
theorem FB.fl {ao : Option Addr} {L : List Fl} (h : FB nm kd dg Nb w wr) (hl : IsFl w ao L) (hn : ∀ g o, ao = some ⟨g, o, none⟩ → L ≠ [] → g ≠ Nb) : IsFl wr ao L := by
  by_cases h0 : L = []
  · exact .inl h0
  rcases hl with h1 | ⟨g, o, h1, h2, h3⟩
  · exact .inl h1
  · refine .inr ⟨g, o, h1, by rw [h.size]; exact h2, fun k hk => ?_⟩
    have e := h.oth g (hn g o h1 h0)
    obtain ⟨x0, x1, x2⟩ := h3 k hk
    exact ⟨(World.cell?_of_block (w := w) e).trans x0, (World.cell?_of_block (w := w) e).trans x1, (World.cell?_of_block (w := w) e).trans x2⟩
end

set_option maxHeartbeats 8000000 in
set_option maxRecDepth 100000 in
theorem findL2 (x1 x2 x3 x4 x5 x6 x7 x8 x9 x10 x11 x16 x17 x18 x19 x20 x21 x22 x23 x24 x25 x26 x27 x28 x29 x30 x31 x32 x33 x34 x35 x36 x37 x38 x39 x40 x41 x42 x43 x44 x45 x46 x47 x48 x49 x50 x51 x52 x53 x54 x55 x56 x57 x58 x59 x60 x61 x62 x63 x64 x65 x66 x67 x68 x69 x70 x71 x72 x73 x74 x75 x76 x77 x78 x79 x80 x81 x82 x83 x84 x85 x86 x87 x88 x89 x90 x91 x92 x93 x94 x95 x96 x97 x98 x99 x100 x101 x102 x103 x104 x105 x106 x107 x108 x109 x110 x111 x112 x113 x114 x115 x116 x117 x118 x119 x120 x121 x122 x123 x124 x125 x126 x127 : Value) (ao : Option Addr) (cap : Nat) (L : List Fl) (p nm : ByteArray) (Nb : Nat) (w : World) (hL : IsFl w ao L) (hl : L.length ≤ 60) (hne : ∀ g o, ao = some ⟨g, o, none⟩ → L ≠ [] → g ≠ Nb) (hB : FB nm 3 ⟨#[]⟩ Nb w w) (Q0 : Exit → Act → World → Prop)
    (hexit : ∀ (u15 u68 u69 u70 u71 u72 u73 u74 u75 u76 u77 u78 u79 u80 u81 u82 u83 u84 u85 u86 u87 u88 u89 u90 u91 u92 : Value) (w' : World), Hid (FB nm (ktF L p.data.toList).1 ⟨#[]⟩ Nb w w') → Q0 (.exit 4) ⟨#[.slice ao L.length cap, x1, x2, x3, x4, x5, x6, x7, x8, x9, x10, x11, .string p, .pointer (some ⟨Nb, 0, none⟩), .string (ktF L p.data.toList).2, u15, x16, x17, x18, x19, x20, x21, x22, x23, x24, x25, x26, x27, x28, x29, x30, x31, x32, x33, x34, x35, x36, x37, x38, x39, x40, x41, x42, x43, x44, x45, x46, x47, x48, x49, x50, x51, x52, x53, x54, x55, x56, x57, x58, x59, x60, x61, x62, x63, x64, x65, x66, x67, u68, u69, u70, u71, u72, u73, u74, u75, u76, u77, u78, u79, u80, u81, u82, u83, u84, u85, u86, u87, u88, u89, u90, u91, u92, x93, x94, x95, x96, x97, x98, x99, x100, x101, x102, x103, x104, x105, x106, x107, x108, x109, x110, x111, x112, x113, x114, x115, x116, x117, x118, x119, x120, x121, x122, x123, x124, x125, x126, x127], []⟩ w') :
    Code.wp Tryz.prog (subC [true, true, true, true, true, false, true, false, false, true, false, false, true, true, true, true, false, true, false] (Tryz.f36.body.getD .skip)) Q0 ⟨#[.slice ao L.length cap, x1, x2, x3, x4, x5, x6, x7, x8, x9, x10, x11, .string p, .pointer (some ⟨Nb, 0, none⟩), .string ⟨#[]⟩, .int .i64 0, x16, x17, x18, x19, x20, x21, x22, x23, x24, x25, x26, x27, x28, x29, x30, x31, x32, x33, x34, x35, x36, x37, x38, x39, x40, x41, x42, x43, x44, x45, x46, x47, x48, x49, x50, x51, x52, x53, x54, x55, x56, x57, x58, x59, x60, x61, x62, x63, x64, x65, x66, x67, x68, x69, x70, x71, x72, x73, x74, x75, x76, x77, x78, x79, x80, x81, x82, x83, x84, x85, x86, x87, x88, x89, x90, x91, x92, x93, x94, x95, x96, x97, x98, x99, x100, x101, x102, x103, x104, x105, x106, x107, x108, x109, x110, x111, x112, x113, x114, x115, x116, x117, x118, x119, x120, x121, x122, x123, x124, x125, x126, x127], []⟩ w := by
  have HX : Hid (∀ (u15 u68 u69 u70 u71 u72 u73 u74 u75 u76 u77 u78 u79 u80 u81 u82 u83 u84 u85 u86 u87 u88 u89 u90 u91 u92 : Value) (w' : World), Hid (FB nm (ktF L p.data.toList).1 ⟨#[]⟩ Nb w w') → Q0 (.exit 4) ⟨#[.slice ao L.length cap, x1, x2, x3, x4, x5, x6, x7, x8, x9, x10, x11, .string p, .pointer (some ⟨Nb, 0, none⟩), .string (ktF L p.data.toList).2, u15, x16, x17, x18, x19, x20, x21, x22, x23, x24, x25, x26, x27, x28, x29, x30, x31, x32, x33, x34, x35, x36, x37, x38, x39, x40, x41, x42, x43, x44, x45, x46, x47, x48, x49, x50, x51, x52, x53, x54, x55, x56, x57, x58, x59, x60, x61, x62, x63, x64, x65, x66, x67, u68, u69, u70, u71, u72, u73, u74, u75, u76, u77, u78, u79, u80, u81, u82, u83, u84, u85, u86, u87, u88, u89, u90, u91, u92, x93, x94, x95, x96, x97, x98, x99, x100, x101, x102, x103, x104, x105, x106, x107, x108, x109, x110, x111, x112, x113, x114, x115, x116, x117, x118, x119, x120, x121, x122, x123, x124, x125, x126, x127], []⟩ w') := hexit
  have HL : Hid (∀ kd W, FB nm kd ⟨#[]⟩ Nb w W → IsFl W ao L) := fun kd W h => h.fl hL hne
  have HB0 : Hid (FB nm 3 ⟨#[]⟩ Nb w w) := hB
  have hn1 : (L.length : Int) ≤ 60 := by omega
  clear hexit hL hne hB
  conv => arg 2; whnf
  dsimp only
  go_loopw [14, 15] (fun v i wr => ∃ k : Nat, k ≤ L.length ∧ i = .int .i64 (k : Int) ∧ v = .string (ktF (L.take k) p.data.toList).2 ∧ Hid (FB nm (ktF (L.take k) p.data.toList).1 ⟨#[]⟩ Nb w wr)) (fun _ i _ => L.length - (RowKit.intOf i).toNat)
  case atStart => exact ⟨0, Nat.zero_le _, rfl, rfl, HB0⟩
  case round =>
    obtain ⟨k, hk, rfl, rfl, HI⟩ := hrel
    by_cases hlt : k < L.length
    · have hki : (k : Int) < (L.length : Int) := by omega
      obtain ⟨k1, hk1⟩ : ∃ k1, k1 = k + 1 := ⟨_, rfl⟩
      have ek1 : (k : Int) + 1 = (k1 : Int) := by omega
      have ek2 : IntKind.i64.wrap (k1 : Int) = (k1 : Int) := by rw [IntKind.wrap_i64]; omega
      have HK1 : Hid (k1 = k + 1 ∧ k < L.length) := ⟨hk1, hlt⟩
      have HKt : Hid (ktF (L.take (k + 1)) p.data.toList = if pth L[k] = p.data.toList then (kdF (L[k]).rn, (L[k]).tx) else ktF (L.take k) p.data.toList) := by
        show _ = _
        rw [List.take_succ_eq_append_getElem hlt, ktF_snoc]
      have hF := HI.out
      obtain ⟨kt, hkt⟩ : ∃ kt, kt = ktF (L.take k) p.data.toList := ⟨_, rfl⟩
      rw [← hkt] at hF HI HKt ⊢
      clear hkt
      obtain ⟨kd0, tx0⟩ := kt
      simp only at hF HI ⊢
      have hI0 := HL.out _ _ hF
      have hF1 := hF.set1 1
      have hI1 := HL.out _ _ hF1
      have hF2 := hF1.drew
      have hI2 := HL.out _ _ hF2
      have hF3 := hF2.set1 2
      rcases hI0 with h | ⟨g, o, rfl, hg, hc⟩
      · exfalso; rw [h] at hlt; exact absurd hlt (by simp)
      obtain ⟨c0, c1, c2⟩ := hc k hlt
      rcases hI1 with h | ⟨g', o', e', _, hc'⟩
      · exfalso; rw [h] at hlt; exact absurd hlt (by simp)
      cases e'
      obtain ⟨d0, d1, d2⟩ := hc' k hlt
      rcases hI2 with h | ⟨g', o', e', _, hc2⟩
      · exfalso; rw [h] at hlt; exact absurd hlt (by simp)
      cases e'
      obtain ⟨b0, b1, b2⟩ := hc2 k hlt
      have n1 := hF.c1
      have z1 := hF.fz 1
      have m1 := hF2.c1
      have y1 := hF2.fz 1
      have heq : (L[k].pa.toList == p.toList) = decide (pth L[k] = p.data.toList) := eqL _ _
      have H1 : Hid (FB nm 1 ⟨#[]⟩ Nb w ((wr.setCell ⟨Nb, 1, none⟩ (.int .i64 1)).drew)) := hF2
      have H2 : Hid (FB nm 2 ⟨#[]⟩ Nb w (((wr.setCell ⟨Nb, 1, none⟩ (.int .i64 1)).drew).setCell ⟨Nb, 1, none⟩ (.int .i64 2))) := hF3
      clear hc hc' hc2 hF hF1 hF2 hF3 hk1
      generalize L[k] = f at *
      obtain ⟨fp, ft, fr⟩ := f
      simp only at c0 c1 c2 d0 d1 d2 b0 b1 b2 heq HKt
      by_cases hp : pth ⟨fp, ft, fr⟩ = p.data.toList
      · rw [decide_eq_true hp] at heq
        rw [if_pos hp] at HKt
        clear hp
        cases fr with
        | true =>
          go_wp2
          go_region
          all_goals
            go_wp2
            refine ⟨⟨k1, by have := HK1.out; omega, rfl, ?_, ?_⟩, ?_⟩
            · rw [HK1.out.1, HKt.out]
            · rw [HK1.out.1, HKt.out]; exact H2
            · have := HK1.out
              simp [RowKit.intOf]; omega
        | false =>
          go_wp2
          go_region
          all_goals
            go_wp2
            refine ⟨⟨k1, by have := HK1.out; omega, rfl, ?_, ?_⟩, ?_⟩
            · rw [HK1.out.1, HKt.out]
            · rw [HK1.out.1, HKt.out]; exact H1
            · have := HK1.out
              simp [RowKit.intOf]; omega
      · rw [decide_eq_false hp] at heq
        rw [if_neg hp] at HKt
        clear hp
        go_wp2
        refine ⟨⟨k1, by have := HK1.out; omega, rfl, ?_, ?_⟩, ?_⟩
        · rw [HK1.out.1, HKt.out]
        · rw [HK1.out.1, HKt.out]; exact HI
        · have := HK1.out
          simp [RowKit.intOf]; omega
    · obtain rfl : k = L.length := by omega
      have k2 : ¬ (L.length : Int) < (L.length : Int) := by omega
      rw [List.take_length] at HI ⊢
      clear hk hlt
      go_wp2
      exact HX.out _ _ _ _ _ _ _ _ _ _ _ _ _ _ _ _ _ _ _ _ _ _ _ _ _ _ _ HI

/-- How it stands behind so many texts of a directory further in. -/
def MrI (B : Nat) (A M : List (List UInt8)) (w : World) (k : Nat) (v0 v : Value) (wr : World) : Prop := RowT B (addAll (A ++ M.take k)) v wr ∧ Below w.heap.size w wr ∧ ∀ g, v.ownBlock = some g → v0.ownBlock = some g ∨ w.heap.size ≤ g

set_option maxHeartbeats 8000000 in
set_option maxRecDepth 100000 in
theorem moreL (x0 x1 x2 x3 x4 x5 x6 x7 x8 x9 x11 x12 x13 x14 x15 x16 x19 x20 x21 x22 x23 x24 x25 x26 x27 x28 x29 x30 x31 x32 x33 x34 x35 x36 x37 x38 x39 x40 x41 x42 x43 x44 x45 x46 x47 x48 x49 x50 x51 x52 x53 x54 x55 x56 x57 x58 x59 x60 x61 x62 x63 x64 x65 x66 x67 x68 x69 x70 x71 x72 x73 x74 x75 x76 x77 x78 x79 x80 x81 x82 x83 x84 x85 x86 x87 x88 x89 x90 x91 x92 x93 x94 x95 x96 x97 x98 x99 x100 x101 x102 x103 x104 x105 x106 x107 x108 x109 x110 x111 x112 x113 x114 x115 x116 x117 x118 x119 x120 x121 x122 x123 x124 x125 x126 x127 : Value) (B B2 : Nat) (A M : List (List UInt8)) (v0 : Value) (mo : Option Addr) (mc : Nat) (w : World) (hA : RowT B (addAll A) v0 w) (hM : w.ownsRow B2 9 1 (.slice mo M.length mc) M.length (M.map encStr)) (hl : A.length + M.length ≤ 1000000) (Q0 : Exit → Act → World → Prop)
    (hexit : ∀ (u10 u18 u103 u104 u105 u106 u107 u108 u109 u110 u111 u112 u113 u114 : Value) (w' : World), Hid (MrI B A M w M.length v0 u10 w') → Q0 (.exit 6) ⟨#[x0, x1, x2, x3, x4, x5, x6, x7, x8, x9, u10, x11, x12, x13, x14, x15, x16, .slice mo M.length mc, u18, x19, x20, x21, x22, x23, x24, x25, x26, x27, x28, x29, x30, x31, x32, x33, x34, x35, x36, x37, x38, x39, x40, x41, x42, x43, x44, x45, x46, x47, x48, x49, x50, x51, x52, x53, x54, x55, x56, x57, x58, x59, x60, x61, x62, x63, x64, x65, x66, x67, x68, x69, x70, x71, x72, x73, x74, x75, x76, x77, x78, x79, x80, x81, x82, x83, x84, x85, x86, x87, x88, x89, x90, x91, x92, x93, x94, x95, x96, x97, x98, x99, x100, x101, x102, u103, u104, u105, u106, u107, u108, u109, u110, u111, u112, u113, u114, x115, x116, x117, x118, x119, x120, x121, x122, x123, x124, x125, x126, x127], []⟩ w') :
    Code.wp Tryz.prog (subC [true, true, true, true, true, false, true, false, false, true, false, false, true, true, true, true, true, false, true, false, true, true, true, false] (Tryz.f36.body.getD .skip)) Q0 ⟨#[x0, x1, x2, x3, x4, x5, x6, x7, x8, x9, v0, x11, x12, x13, x14, x15, x16, .slice mo M.length mc, .int .i64 0, x19, x20, x21, x22, x23, x24, x25, x26, x27, x28, x29, x30, x31, x32, x33, x34, x35, x36, x37, x38, x39, x40, x41, x42, x43, x44, x45, x46, x47, x48, x49, x50, x51, x52, x53, x54, x55, x56, x57, x58, x59, x60, x61, x62, x63, x64, x65, x66, x67, x68, x69, x70, x71, x72, x73, x74, x75, x76, x77, x78, x79, x80, x81, x82, x83, x84, x85, x86, x87, x88, x89, x90, x91, x92, x93, x94, x95, x96, x97, x98, x99, x100, x101, x102, x103, x104, x105, x106, x107, x108, x109, x110, x111, x112, x113, x114, x115, x116, x117, x118, x119, x120, x121, x122, x123, x124, x125, x126, x127], []⟩ w := by
  have HX : Hid (∀ (u10 u18 u103 u104 u105 u106 u107 u108 u109 u110 u111 u112 u113 u114 : Value) (w' : World), Hid (MrI B A M w M.length v0 u10 w') → Q0 (.exit 6) ⟨#[x0, x1, x2, x3, x4, x5, x6, x7, x8, x9, u10, x11, x12, x13, x14, x15, x16, .slice mo M.length mc, u18, x19, x20, x21, x22, x23, x24, x25, x26, x27, x28, x29, x30, x31, x32, x33, x34, x35, x36, x37, x38, x39, x40, x41, x42, x43, x44, x45, x46, x47, x48, x49, x50, x51, x52, x53, x54, x55, x56, x57, x58, x59, x60, x61, x62, x63, x64, x65, x66, x67, x68, x69, x70, x71, x72, x73, x74, x75, x76, x77, x78, x79, x80, x81, x82, x83, x84, x85, x86, x87, x88, x89, x90, x91, x92, x93, x94, x95, x96, x97, x98, x99, x100, x101, x102, u103, u104, u105, u106, u107, u108, u109, u110, u111, u112, u113, u114, x115, x116, x117, x118, x119, x120, x121, x122, x123, x124, x125, x126, x127], []⟩ w') := hexit
  have HS : Hid (MrI B A M w 0 v0 v0 w) := ⟨by rw [List.take_zero, List.append_nil]; exact hA, Below.refl _ _, fun g hg => .inl hg⟩
  have HM : Hid (∀ W, Below w.heap.size w W → W.ownsRow B2 9 1 (.slice mo M.length mc) M.length (M.map encStr)) := fun W hW => row_heap hM fun b hb => hW.block b (hM.lt b hb).2
  have hn1 : (M.length : Int) ≤ 1000000 := by omega
  clear hexit hA hM
  conv => arg 2; whnf
  dsimp only
  go_loopw [10, 18] (fun v i wr => ∃ k : Nat, k ≤ M.length ∧ i = .int .i64 (k : Int) ∧ Hid (MrI B A M w k v0 v wr)) (fun _ i _ => M.length - (RowKit.intOf i).toNat)
  case atStart => exact ⟨0, Nat.zero_le _, rfl, HS⟩
  case round =>
    obtain ⟨k, hk, rfl, HI⟩ := hrel
    by_cases hlt : k < M.length
    · have hki : (k : Int) < (M.length : Int) := by omega
      obtain ⟨k1, hk1⟩ : ∃ k1, k1 = k + 1 := ⟨_, rfl⟩
      have ek1 : (k : Int) + 1 = (k1 : Int) := by omega
      have ek2 : IntKind.i64.wrap (k1 : Int) = (k1 : Int) := by rw [IntKind.wrap_i64]; omega
      have HK1 : Hid (k1 = k + 1 ∧ k < M.length) := ⟨hk1, hlt⟩
      have hrow := HM.out _ HI.out.2.1
      obtain ⟨g, c', hv, _, _⟩ := hrow.form (by omega)
      cases hv
      have c0 : wr.cell? ⟨g, k, none⟩ = some (.string ⟨(M[k]).toArray⟩) := by
        refine (hrow.cellAt k (by omega)).trans ?_
        rw [List.getElem?_map, List.getElem?_eq_getElem hlt]
        rfl
      have hal : (addAll (A ++ M.take k)).length ≤ 1000000 := by
        have h1 := addAll_len (A ++ M.take k)
        rw [List.length_append, List.length_take] at h1
        omega
      have HAd : Hid (Calls Tryz.prog 37 #[u10, .string ⟨(M[k]).toArray⟩] wr fun e w2 => ∃ v', e = .returned v' ∧ Hid (MrI B A M w (k + 1) v0 v' w2)) := by
        refine (HI.out.1.add ⟨(M[k]).toArray⟩ hal).mono ?_
        rintro e w2 ⟨v', rfl, hr2, hb2, hg2⟩
        refine ⟨v', rfl, ?_, HI.out.2.1.trans (hb2.mono HI.out.2.1.size), fun g hg => ?_⟩
        · rw [List.take_succ_eq_append_getElem hlt, ← List.append_assoc, addAll_snoc]
          exact hr2
        · rcases hg2 g hg with h1 | h1
          · exact HI.out.2.2 g h1
          · exact .inr (Nat.le_trans HI.out.2.1.size h1)
      generalize (⟨(M[k]).toArray⟩ : ByteArray) = s at c0 HAd
      clear hrow hal hk1 hk hlt
      go_wp2_with fail
      refine HAd.out.mono ?_
      rintro e w2 ⟨v', rfl, HN⟩
      clear HAd c0
      go_wp2
      refine ⟨⟨k1, by have := HK1.out; omega, rfl, by rw [HK1.out.1]; exact HN⟩, ?_⟩
      have := HK1.out
      simp [RowKit.intOf]; omega
    · obtain rfl : k = M.length := by omega
      have k2 : ¬ (M.length : Int) < (M.length : Int) := by omega
      clear hk hlt
      go_wp2
      exact HX.out _ _ _ _ _ _ _ _ _ _ _ _ _ _ _ HI
end Go.Proofs.YtefdfcjohkndgaaGreatDoor

/- The document's own Sum: one round's parts. -/
namespace Go.Proofs.YtefdfcjohkndgaaGreatDoor
open Go.RowKit

theorem Xor_2 (W : World) (b a1 a2 : Nat) (h1 : a1 < 2 ^ 32) (h2 : a2 < 2 ^ 32) (r : Nat) (hr : r = a1 ^^^ a2) (c0 : W.cell? ⟨b, 0, none⟩ = some (.int .i64 a1)) (c1 : W.cell? ⟨b, 1, none⟩ = some (.int .i64 a2)) :
    Calls Tryz.prog 67 #[.slice (some ⟨b, 0, none⟩) 2 2] W fun e w' => e = .returned (.int .i64 (r : Int)) ∧ w' = W := by
  have := Xor_any b 2 [a1, a2] W (by simp) (by simp [h1, h2]) (fun j hj => by match j, hj with | 0, _ => exact c0 | 1, _ => exact c1)
  rw [hr]
  simpa [xors] using this
theorem Xor_3 (W : World) (b a1 a2 a3 : Nat) (h1 : a1 < 2 ^ 32) (h2 : a2 < 2 ^ 32) (h3 : a3 < 2 ^ 32) (r : Nat) (hr : r = a1 ^^^ a2 ^^^ a3) (c0 : W.cell? ⟨b, 0, none⟩ = some (.int .i64 a1)) (c1 : W.cell? ⟨b, 1, none⟩ = some (.int .i64 a2)) (c2 : W.cell? ⟨b, 2, none⟩ = some (.int .i64 a3)) :
    Calls Tryz.prog 67 #[.slice (some ⟨b, 0, none⟩) 3 3] W fun e w' => e = .returned (.int .i64 (r : Int)) ∧ w' = W := by
  have := Xor_any b 3 [a1, a2, a3] W (by simp) (by simp [h1, h2, h3]) (fun j hj => by match j, hj with | 0, _ => exact c0 | 1, _ => exact c1 | 2, _ => exact c2)
  rw [hr]
  simpa [xors] using this

set_option maxHeartbeats 4000000 in
set_option maxRecDepth 100000 in
theorem r33 (x0 x1 x2 x3 x4 x5 x6 x7 x8 x9 x10 x11 x12 x13 x14 x15 x16 x18 x19 x21 x22 x23 x24 x25 x26 x27 x28 x29 x30 x31 x32 x33 x34 x35 x36 x37 x38 x39 x40 x41 x42 x43 x44 x45 x46 x47 x48 x49 x50 x51 x52 x53 x54 x55 x56 x57 x58 x59 x60 x61 x62 x63 x64 x65 x66 x67 x68 x69 x70 x71 x72 x73 x74 x75 x76 x77 x78 x79 x80 x81 x82 x83 x84 x85 x86 x87 x88 x89 x90 x91 x92 x93 x94 x95 x96 x97 x98 x99 x100 x101 x102 x103 x104 x105 x106 x107 x108 x109 x110 x111 x112 x113 x114 x115 x116 x117 x118 x119 x120 x121 x122 x123 x124 x125 x126 x127 x128 x129 x130 x131 x132 x133 x134 x135 x136 x137 x138 x139 x140 x141 x142 x143 x144 x145 x146 x147 x148 x149 x150 x151 x152 x153 x154 x155 x156 x157 x158 x159 x160 x161 x162 x163 x164 x165 x166 x167 x168 x169 x170 x171 x172 x173 x174 x175 x176 x177 x178 x179 x180 x181 x182 x183 x184 x185 x186 x187 x188 x189 x190 x191 x192 x193 x194 x195 x196 x197 x198 x199 x200 x201 x202 x203 x204 x205 x206 x207 x208 x209 x210 x211 x212 x213 x214 x215 x216 x217 x218 x219 x220 x221 x222 x223 x224 x225 x226 x227 x228 x229 x230 x231 x232 x233 x234 x235 x236 x237 x238 x239 x240 x241 x242 x243 x244 x245 x246 x247 x248 x249 x250 x251 x252 x253 x254 x255 x256 x257 x258 x259 x260 x261 x262 x263 x264 x265 x266 x267 x268 x269 x270 x271 x272 x273 x274 x275 x276 x277 x278 x279 x280 x281 x282 x283 : Value) (w : World) (e f h g c : Nat) (he : e < 2 ^ 32) (hf : f < 2 ^ 32) (hh : h < 2 ^ 32)
    (c5 : w.cell? ⟨g, 5, none⟩ = some (.int .i64 f)) (c6 : w.cell? ⟨g, 6, none⟩ = some (.int .i64 h)) (hg : g < w.heap.size) (Q0 : Exit → Act → World → Prop)
    (hexit : ∀ (u150 u151 u152 u153 u154 u155 u156 u157 u158 u159 u160 u161 u162 : Value) (w' : World), Below w.heap.size w w' → Q0 .normal ⟨#[x0, x1, x2, x3, x4, x5, x6, x7, x8, x9, x10, x11, x12, x13, x14, x15, x16, .slice (some ⟨g, 0, none⟩) 8 c, x18, x19, .int .i64 e, .int .i64 (chN e f h : Nat), x22, x23, x24, x25, x26, x27, x28, x29, x30, x31, x32, x33, x34, x35, x36, x37, x38, x39, x40, x41, x42, x43, x44, x45, x46, x47, x48, x49, x50, x51, x52, x53, x54, x55, x56, x57, x58, x59, x60, x61, x62, x63, x64, x65, x66, x67, x68, x69, x70, x71, x72, x73, x74, x75, x76, x77, x78, x79, x80, x81, x82, x83, x84, x85, x86, x87, x88, x89, x90, x91, x92, x93, x94, x95, x96, x97, x98, x99, x100, x101, x102, x103, x104, x105, x106, x107, x108, x109, x110, x111, x112, x113, x114, x115, x116, x117, x118, x119, x120, x121, x122, x123, x124, x125, x126, x127, x128, x129, x130, x131, x132, x133, x134, x135, x136, x137, x138, x139, x140, x141, x142, x143, x144, x145, x146, x147, x148, x149, u150, u151, u152, u153, u154, u155, u156, u157, u158, u159, u160, u161, u162, x163, x164, x165, x166, x167, x168, x169, x170, x171, x172, x173, x174, x175, x176, x177, x178, x179, x180, x181, x182, x183, x184, x185, x186, x187, x188, x189, x190, x191, x192, x193, x194, x195, x196, x197, x198, x199, x200, x201, x202, x203, x204, x205, x206, x207, x208, x209, x210, x211, x212, x213, x214, x215, x216, x217, x218, x219, x220, x221, x222, x223, x224, x225, x226, x227, x228, x229, x230, x231, x232, x233, x234, x235, x236, x237, x238, x239, x240, x241, x242, x243, x244, x245, x246, x247, x248, x249, x250, x251, x252, x253, x254, x255, x256, x257, x258, x259, x260, x261, x262, x263, x264, x265, x266, x267, x268, x269, x270, x271, x272, x273, x274, x275, x276, x277, x278, x279, x280, x281, x282, x283], []⟩ w') :
    Code.wp Tryz.prog (subC [true, true, true, true, true, true, false, true, false, false, true, false, false, true, true, true, false, true, false, false, true, false, false, true, false] (Tryz.f33.body.getD .skip)) Q0 ⟨#[x0, x1, x2, x3, x4, x5, x6, x7, x8, x9, x10, x11, x12, x13, x14, x15, x16, .slice (some ⟨g, 0, none⟩) 8 c, x18, x19, .int .i64 e, x21, x22, x23, x24, x25, x26, x27, x28, x29, x30, x31, x32, x33, x34, x35, x36, x37, x38, x39, x40, x41, x42, x43, x44, x45, x46, x47, x48, x49, x50, x51, x52, x53, x54, x55, x56, x57, x58, x59, x60, x61, x62, x63, x64, x65, x66, x67, x68, x69, x70, x71, x72, x73, x74, x75, x76, x77, x78, x79, x80, x81, x82, x83, x84, x85, x86, x87, x88, x89, x90, x91, x92, x93, x94, x95, x96, x97, x98, x99, x100, x101, x102, x103, x104, x105, x106, x107, x108, x109, x110, x111, x112, x113, x114, x115, x116, x117, x118, x119, x120, x121, x122, x123, x124, x125, x126, x127, x128, x129, x130, x131, x132, x133, x134, x135, x136, x137, x138, x139, x140, x141, x142, x143, x144, x145, x146, x147, x148, x149, x150, x151, x152, x153, x154, x155, x156, x157, x158, x159, x160, x161, x162, x163, x164, x165, x166, x167, x168, x169, x170, x171, x172, x173, x174, x175, x176, x177, x178, x179, x180, x181, x182, x183, x184, x185, x186, x187, x188, x189, x190, x191, x192, x193, x194, x195, x196, x197, x198, x199, x200, x201, x202, x203, x204, x205, x206, x207, x208, x209, x210, x211, x212, x213, x214, x215, x216, x217, x218, x219, x220, x221, x222, x223, x224, x225, x226, x227, x228, x229, x230, x231, x232, x233, x234, x235, x236, x237, x238, x239, x240, x241, x242, x243, x244, x245, x246, x247, x248, x249, x250, x251, x252, x253, x254, x255, x256, x257, x258, x259, x260, x261, x262, x263, x264, x265, x266, x267, x268, x269, x270, x271, x272, x273, x274, x275, x276, x277, x278, x279, x280, x281, x282, x283], []⟩ w := by
  have HX : Hid (∀ (u150 u151 u152 u153 u154 u155 u156 u157 u158 u159 u160 u161 u162 : Value) (w' : World), Below w.heap.size w w' → Q0 .normal ⟨#[x0, x1, x2, x3, x4, x5, x6, x7, x8, x9, x10, x11, x12, x13, x14, x15, x16, .slice (some ⟨g, 0, none⟩) 8 c, x18, x19, .int .i64 e, .int .i64 (chN e f h : Nat), x22, x23, x24, x25, x26, x27, x28, x29, x30, x31, x32, x33, x34, x35, x36, x37, x38, x39, x40, x41, x42, x43, x44, x45, x46, x47, x48, x49, x50, x51, x52, x53, x54, x55, x56, x57, x58, x59, x60, x61, x62, x63, x64, x65, x66, x67, x68, x69, x70, x71, x72, x73, x74, x75, x76, x77, x78, x79, x80, x81, x82, x83, x84, x85, x86, x87, x88, x89, x90, x91, x92, x93, x94, x95, x96, x97, x98, x99, x100, x101, x102, x103, x104, x105, x106, x107, x108, x109, x110, x111, x112, x113, x114, x115, x116, x117, x118, x119, x120, x121, x122, x123, x124, x125, x126, x127, x128, x129, x130, x131, x132, x133, x134, x135, x136, x137, x138, x139, x140, x141, x142, x143, x144, x145, x146, x147, x148, x149, u150, u151, u152, u153, u154, u155, u156, u157, u158, u159, u160, u161, u162, x163, x164, x165, x166, x167, x168, x169, x170, x171, x172, x173, x174, x175, x176, x177, x178, x179, x180, x181, x182, x183, x184, x185, x186, x187, x188, x189, x190, x191, x192, x193, x194, x195, x196, x197, x198, x199, x200, x201, x202, x203, x204, x205, x206, x207, x208, x209, x210, x211, x212, x213, x214, x215, x216, x217, x218, x219, x220, x221, x222, x223, x224, x225, x226, x227, x228, x229, x230, x231, x232, x233, x234, x235, x236, x237, x238, x239, x240, x241, x242, x243, x244, x245, x246, x247, x248, x249, x250, x251, x252, x253, x254, x255, x256, x257, x258, x259, x260, x261, x262, x263, x264, x265, x266, x267, x268, x269, x270, x271, x272, x273, x274, x275, x276, x277, x278, x279, x280, x281, x282, x283], []⟩ w') := hexit
  clear hexit
  have HB : Hid (Below w.heap.size w w) := Below.refl _ _
  obtain ⟨ne, hne⟩ : ∃ ne, ne = 4294967295 - e := ⟨_, rfl⟩
  have hsub : (4294967295 : Int) - (e : Int) = (ne : Int) := by omega
  obtain ⟨a1, ha1⟩ : ∃ a1, a1 = e &&& f := ⟨_, rfl⟩
  obtain ⟨a2, ha2⟩ : ∃ a2, a2 = ne &&& h := ⟨_, rfl⟩
  obtain ⟨r, hr⟩ : ∃ r, r = a1 ^^^ a2 := ⟨_, rfl⟩
  have HR : Hid (chN e f h = r) := by show _ = _; unfold chN; rw [hr, ha1, ha2, hne]
  have HA1 : Hid (∀ W : World, Calls Tryz.prog 70 #[.int .i64 e, .int .i64 f] W fun e w' => e = .returned (.int .i64 (a1 : Int)) ∧ w' = W) := fun W => by rw [ha1]; exact And_any e f W he hf
  have HA2 : Hid (∀ W : World, Calls Tryz.prog 70 #[.int .i64 ne, .int .i64 h] W fun e w' => e = .returned (.int .i64 (a2 : Int)) ∧ w' = W) := fun W => by rw [ha2]; exact And_any ne h W (by omega) hh
  have HXO : Hid (∀ (W : World) (b : Nat), W.cell? ⟨b, 0, none⟩ = some (.int .i64 a1) → W.cell? ⟨b, 1, none⟩ = some (.int .i64 a2) → Calls Tryz.prog 67 #[.slice (some ⟨b, 0, none⟩) 2 2] W fun e w' => e = .returned (.int .i64 (r : Int)) ∧ w' = W) := fun W b =>
    Xor_2 W b a1 a2 (by rw [ha1]; exact Nat.and_lt_two_pow _ hf) (by rw [ha2]; exact Nat.and_lt_two_pow _ hh) r hr
  rw [HR.out] at HX
  have wn : IntKind.i64.wrap (ne : Int) = (ne : Int) := wr62 ne (by omega)
  clear hr ha1 ha2 he hf hh HR hne
  conv => arg 2; whnf
  go_region_held3 (fun w' => w'.cell? ⟨g, 5, none⟩ = some (.int .i64 f) ∧ w'.cell? ⟨g, 6, none⟩ = some (.int .i64 h) ∧ g < w'.heap.size)
    (first | (simp [go_sem, *]; done) | (simp [go_sem, c5, c6, hg]; omega))
    (first
      | (go_at_call_of 70 (Value.int IntKind.i64 (e : Int)); refine (HA1.out _).mono ?_; rintro e w' ⟨rfl, rfl⟩)
      | (go_at_call_of 70 (Value.int IntKind.i64 (ne : Int)); refine (HA2.out _).mono ?_; rintro e w' ⟨rfl, rfl⟩)
      | (go_at_call 67; refine (HXO.out _ _ (by simp [go_sem]) (by simp [go_sem])).mono ?_; rintro e w' ⟨rfl, rfl⟩)
      | fail)
  all_goals exact HX.out _ _ _ _ _ _ _ _ _ _ _ _ _ _ (HB.out.alloc (Nat.le_refl _) _).drew

theorem al_atC (W : World) (b : Nat) (cs : Array Value) (ty : TypeId) (k : Nat) (v : Value) (hb : b = W.heap.size) (hv : cs[k]? = some v) : (W.alloc (.cells cs ty)).cell? ⟨b, k, none⟩ = some v := by
  subst hb
  rw [Lib.cell_of_heap (heap_alloc_new W _)]
  exact hv
theorem bl_al {a w : World} (h : Below a.heap.size a w) (o : Obj) : Below a.heap.size a (w.alloc o) := h.alloc h.size o
theorem bl_dn {a w : World} (h : Below a.heap.size a w) (n : Nat) : Below a.heap.size a (w.drewN n) := below_drewN h n
theorem bl_dr {a w : World} (h : Below a.heap.size a w) : Below a.heap.size a w.drew := h.drew
theorem wr60 (n : Nat) (h : n < 2 ^ 40) : IntKind.i64.wrap (n : Int) = (n : Int) := by rw [IntKind.wrap_i64]; omega
theorem big_lt (x : Nat) (hx : x < 2 ^ 32) : big1N x < 2 ^ 32 ∧ big0N x < 2 ^ 32 ∧ sig0N x < 2 ^ 32 ∧ sig1N x < 2 ^ 32 := ⟨(big1_nat x hx).2, (big0_nat x hx).2, (sig0_nat x hx).2, (sig1_nat x hx).2⟩

set_option maxHeartbeats 4000000 in
set_option maxRecDepth 100000 in
theorem r34 (x0 x1 x2 x3 x4 x5 x7 x8 x10 x11 x12 x13 x14 x15 x16 x19 x22 x23 x24 x25 x26 x27 x28 x29 x30 x31 x32 x33 x34 x35 x36 x37 x38 x39 x40 x41 x42 x43 x44 x45 x46 x47 x48 x49 x50 x51 x52 x53 x54 x55 x56 x57 x58 x59 x60 x61 x62 x63 x64 x65 x66 x67 x68 x69 x70 x71 x72 x73 x74 x75 x76 x77 x78 x79 x80 x81 x82 x83 x84 x85 x86 x87 x88 x89 x90 x91 x92 x93 x94 x95 x96 x97 x98 x99 x100 x101 x102 x103 x104 x105 x106 x107 x108 x109 x110 x111 x112 x113 x114 x115 x116 x117 x118 x119 x120 x121 x122 x123 x124 x125 x126 x127 x128 x129 x130 x131 x132 x133 x134 x135 x136 x137 x138 x139 x140 x141 x142 x143 x144 x145 x146 x147 x148 x149 x150 x151 x152 x153 x154 x155 x156 x157 x158 x159 x160 x161 x162 x163 x164 x165 x166 x167 x168 x169 x170 x171 x172 x173 x174 x175 x176 x177 x178 x179 x180 x181 x182 x183 x184 x185 x186 x187 x188 x189 x190 x191 x192 x193 x194 x195 x196 x197 x198 x199 x200 x201 x202 x203 x204 x205 x206 x207 x208 x209 x210 x211 x212 x213 x214 x215 x216 x217 x218 x219 x220 x221 x222 x223 x224 x225 x226 x227 x228 x229 x230 x231 x232 x233 x234 x235 x236 x237 x238 x239 x240 x241 x242 x243 x244 x245 x246 x247 x248 x249 x250 x251 x252 x253 x254 x255 x256 x257 x258 x259 x260 x261 x262 x263 x264 x265 x266 x267 x268 x269 x270 x271 x272 x273 x274 x275 x276 x277 x278 x279 x280 x281 x282 x283 : Value) (w : World) (e h ch kv wv g c kb kc wb wc t : Nat) (he : e < 2 ^ 32) (hh : h < 2 ^ 32) (hch : ch < 2 ^ 32) (hkv : kv < 2 ^ 32) (hwv : wv < 2 ^ 32) (ht : t < 64)
    (c7 : w.cell? ⟨g, 7, none⟩ = some (.int .i64 h)) (ck : w.cell? ⟨kb, t, none⟩ = some (.int .i64 kv)) (cw : w.cell? ⟨wb, t, none⟩ = some (.int .i64 wv)) (hg : g < w.heap.size) (hkb : kb < w.heap.size) (hwb : wb < w.heap.size) (Q0 : Exit → Act → World → Prop)
    (hexit : ∀ (u163 u164 u165 u166 u167 u168 u169 u170 u171 u172 u173 u174 u175 u176 u177 u178 u179 u180 u181 u182 u183 u184 u185 u186 u187 : Value) (w' : World), Below w.heap.size w w' → Q0 .normal ⟨#[x0, x1, x2, x3, x4, x5, .slice (some ⟨kb, 0, none⟩) 64 kc, x7, x8, .slice (some ⟨wb, 0, none⟩) 64 wc, x10, x11, x12, x13, x14, x15, x16, .slice (some ⟨g, 0, none⟩) 8 c, .int .i64 t, x19, .int .i64 e, .int .i64 ch, .int .i64 ((h + big1N e + ch + kv + wv) % 4294967296 : Nat), x23, x24, x25, x26, x27, x28, x29, x30, x31, x32, x33, x34, x35, x36, x37, x38, x39, x40, x41, x42, x43, x44, x45, x46, x47, x48, x49, x50, x51, x52, x53, x54, x55, x56, x57, x58, x59, x60, x61, x62, x63, x64, x65, x66, x67, x68, x69, x70, x71, x72, x73, x74, x75, x76, x77, x78, x79, x80, x81, x82, x83, x84, x85, x86, x87, x88, x89, x90, x91, x92, x93, x94, x95, x96, x97, x98, x99, x100, x101, x102, x103, x104, x105, x106, x107, x108, x109, x110, x111, x112, x113, x114, x115, x116, x117, x118, x119, x120, x121, x122, x123, x124, x125, x126, x127, x128, x129, x130, x131, x132, x133, x134, x135, x136, x137, x138, x139, x140, x141, x142, x143, x144, x145, x146, x147, x148, x149, x150, x151, x152, x153, x154, x155, x156, x157, x158, x159, x160, x161, x162, u163, u164, u165, u166, u167, u168, u169, u170, u171, u172, u173, u174, u175, u176, u177, u178, u179, u180, u181, u182, u183, u184, u185, u186, u187, x188, x189, x190, x191, x192, x193, x194, x195, x196, x197, x198, x199, x200, x201, x202, x203, x204, x205, x206, x207, x208, x209, x210, x211, x212, x213, x214, x215, x216, x217, x218, x219, x220, x221, x222, x223, x224, x225, x226, x227, x228, x229, x230, x231, x232, x233, x234, x235, x236, x237, x238, x239, x240, x241, x242, x243, x244, x245, x246, x247, x248, x249, x250, x251, x252, x253, x254, x255, x256, x257, x258, x259, x260, x261, x262, x263, x264, x265, x266, x267, x268, x269, x270, x271, x272, x273, x274, x275, x276, x277, x278, x279, x280, x281, x282, x283], []⟩ w') :
    Code.wp Tryz.prog (subC [true, true, true, true, true, true, false, true, false, false, true, false, false, true, true, true, false, true, false, false, true, false, false, true, true, false] (Tryz.f33.body.getD .skip)) Q0 ⟨#[x0, x1, x2, x3, x4, x5, .slice (some ⟨kb, 0, none⟩) 64 kc, x7, x8, .slice (some ⟨wb, 0, none⟩) 64 wc, x10, x11, x12, x13, x14, x15, x16, .slice (some ⟨g, 0, none⟩) 8 c, .int .i64 t, x19, .int .i64 e, .int .i64 ch, x22, x23, x24, x25, x26, x27, x28, x29, x30, x31, x32, x33, x34, x35, x36, x37, x38, x39, x40, x41, x42, x43, x44, x45, x46, x47, x48, x49, x50, x51, x52, x53, x54, x55, x56, x57, x58, x59, x60, x61, x62, x63, x64, x65, x66, x67, x68, x69, x70, x71, x72, x73, x74, x75, x76, x77, x78, x79, x80, x81, x82, x83, x84, x85, x86, x87, x88, x89, x90, x91, x92, x93, x94, x95, x96, x97, x98, x99, x100, x101, x102, x103, x104, x105, x106, x107, x108, x109, x110, x111, x112, x113, x114, x115, x116, x117, x118, x119, x120, x121, x122, x123, x124, x125, x126, x127, x128, x129, x130, x131, x132, x133, x134, x135, x136, x137, x138, x139, x140, x141, x142, x143, x144, x145, x146, x147, x148, x149, x150, x151, x152, x153, x154, x155, x156, x157, x158, x159, x160, x161, x162, x163, x164, x165, x166, x167, x168, x169, x170, x171, x172, x173, x174, x175, x176, x177, x178, x179, x180, x181, x182, x183, x184, x185, x186, x187, x188, x189, x190, x191, x192, x193, x194, x195, x196, x197, x198, x199, x200, x201, x202, x203, x204, x205, x206, x207, x208, x209, x210, x211, x212, x213, x214, x215, x216, x217, x218, x219, x220, x221, x222, x223, x224, x225, x226, x227, x228, x229, x230, x231, x232, x233, x234, x235, x236, x237, x238, x239, x240, x241, x242, x243, x244, x245, x246, x247, x248, x249, x250, x251, x252, x253, x254, x255, x256, x257, x258, x259, x260, x261, x262, x263, x264, x265, x266, x267, x268, x269, x270, x271, x272, x273, x274, x275, x276, x277, x278, x279, x280, x281, x282, x283], []⟩ w := by
  have HX : Hid _ := hexit
  clear hexit
  have HB : Hid (Below w.heap.size w w) := Below.refl _ _
  have hti : (t : Int) < 64 := by omega
  have bl := (big_lt e he).1
  have l1 := (right_lt e 6 he (by decide)).2
  have l2 := (right_lt e 11 he (by decide)).2
  have l3 := (right_lt e 25 he (by decide)).2
  have HA1 : Hid (∀ W : World, Calls Tryz.prog 68 #[.int .i64 e, .int .i64 6] W fun e' w' => e' = .returned (.int .i64 (rightN e 6 : Nat)) ∧ ∃ m, w' = W.drewN m) := fun W => Right_any e 6 W he (by decide) (by decide)
  have HA2 : Hid (∀ W : World, Calls Tryz.prog 68 #[.int .i64 e, .int .i64 11] W fun e' w' => e' = .returned (.int .i64 (rightN e 11 : Nat)) ∧ ∃ m, w' = W.drewN m) := fun W => Right_any e 11 W he (by decide) (by decide)
  have HA3 : Hid (∀ W : World, Calls Tryz.prog 68 #[.int .i64 e, .int .i64 25] W fun e' w' => e' = .returned (.int .i64 (rightN e 25 : Nat)) ∧ ∃ m, w' = W.drewN m) := fun W => Right_any e 25 W he (by decide) (by decide)
  have HXO : Hid (∀ (W : World) (b : Nat), W.cell? ⟨b, 0, none⟩ = some (.int .i64 (rightN e 6 : Nat)) → W.cell? ⟨b, 1, none⟩ = some (.int .i64 (rightN e 11 : Nat)) → W.cell? ⟨b, 2, none⟩ = some (.int .i64 (rightN e 25 : Nat)) → Calls Tryz.prog 67 #[.slice (some ⟨b, 0, none⟩) 3 3] W fun e' w' => e' = .returned (.int .i64 (big1N e : Nat)) ∧ w' = W) := fun W b => Xor_3 W b _ _ _ l1 l2 l3 _ rfl
  generalize rightN e 6 = p1 at HA1 HXO
  generalize rightN e 11 = p2 at HA2 HXO
  generalize rightN e 25 = p3 at HA3 HXO
  generalize big1N e = bg at HX HXO bl
  obtain ⟨s1, hs1⟩ : ∃ s1, s1 = h + bg := ⟨_, rfl⟩
  obtain ⟨s2, hs2⟩ : ∃ s2, s2 = s1 + ch := ⟨_, rfl⟩
  obtain ⟨s3, hs3⟩ : ∃ s3, s3 = s2 + kv := ⟨_, rfl⟩
  obtain ⟨s4, hs4⟩ : ∃ s4, s4 = s3 + wv := ⟨_, rfl⟩
  obtain ⟨u, hu⟩ : ∃ u, u = s4 % 4294967296 := ⟨_, rfl⟩
  have e1 : (h : Int) + (bg : Int) = (s1 : Int) := by omega
  have e2 : (s1 : Int) + (ch : Int) = (s2 : Int) := by omega
  have e3 : (s2 : Int) + (kv : Int) = (s3 : Int) := by omega
  have e4 : (s3 : Int) + (wv : Int) = (s4 : Int) := by omega
  have HWR : Hid (∀ W : World, Calls Tryz.prog 69 #[.int .i64 s4] W fun e w' => e = .returned (.int .i64 (u : Int)) ∧ w' = W) := fun W => by rw [hu]; exact Wrap_any s4 W
  rw [← hs1, ← hs2, ← hs3, ← hs4, ← hu] at HX
  have f1 := wr60 s1 (by omega)
  have f2 := wr60 s2 (by omega)
  have f3 := wr60 s3 (by omega)
  have f4 := wr60 s4 (by omega)
  clear hs1 hs2 hs3 hs4 hu he hh hch hkv hwv bl l1 l2 l3
  conv => arg 2; whnf
  have HS : Hid (∀ W : World, Below w.heap.size w W → W.cell? ⟨g, 7, none⟩ = some (.int .i64 h) ∧ W.cell? ⟨kb, t, none⟩ = some (.int .i64 kv) ∧ W.cell? ⟨wb, t, none⟩ = some (.int .i64 wv)) := fun W hW => ⟨(hW.cell (p := ⟨g, 7, none⟩) hg).trans c7, (hW.cell (p := ⟨kb, t, none⟩) hkb).trans ck, (hW.cell (p := ⟨wb, t, none⟩) hwb).trans cw⟩
  clear c7 ck cw hg hkb hwb
  go_region_held3 (fun w' => w'.cell? ⟨g, 7, none⟩ = some (.int .i64 h) ∧ w'.cell? ⟨kb, t, none⟩ = some (.int .i64 kv) ∧ w'.cell? ⟨wb, t, none⟩ = some (.int .i64 wv))
    (first | (refine HS.out _ ?_; repeat' (with_reducible (first | exact HB.out | refine bl_al ?_ _ | refine bl_dn ?_ _ | refine bl_dr ?_))) | fail)
    (first
      | (go_at_call_of 68 (Value.int IntKind.i64 (6 : Int)); refine (HA1.out _).mono ?_; rintro e w' ⟨rfl, m1, rfl⟩)
      | (go_at_call_of 68 (Value.int IntKind.i64 (11 : Int)); refine (HA2.out _).mono ?_; rintro e w' ⟨rfl, m2, rfl⟩)
      | (go_at_call_of 68 (Value.int IntKind.i64 (25 : Int)); refine (HA3.out _).mono ?_; rintro e w' ⟨rfl, m3, rfl⟩)
      | (go_at_call 67; refine (HXO.out _ _ (al_atC _ _ _ _ 0 _ rfl rfl) (al_atC _ _ _ _ 1 _ rfl rfl) (al_atC _ _ _ _ 2 _ rfl rfl)).mono ?_; rintro e w' ⟨rfl, rfl⟩)
      | (go_at_call 69; refine (HWR.out _).mono ?_; rintro e w' ⟨rfl, rfl⟩)
      | fail)
  all_goals exact HX.out _ _ _ _ _ _ _ _ _ _ _ _ _ _ _ _ _ _ _ _ _ _ _ _ _ _ (by repeat' (with_reducible (first | exact HB.out | refine bl_al ?_ _ | refine bl_dn ?_ _ | refine bl_dr ?_)))
end Go.Proofs.YtefdfcjohkndgaaGreatDoor

/- The document's own Sum: one round's parts (2). -/
namespace Go.Proofs.YtefdfcjohkndgaaGreatDoor
open Go.RowKit

def andN (x y : Nat) : Nat := x &&& y
theorem andN_lt (x y : Nat) (hy : y < 2 ^ 32) : andN x y < 2 ^ 32 := Nat.and_lt_two_pow _ hy
set_option maxHeartbeats 4000000 in
set_option maxRecDepth 100000 in
theorem r35 (x0 x1 x2 x3 x4 x5 x6 x7 x8 x9 x10 x11 x12 x13 x14 x15 x16 x18 x20 x21 x22 x23 x24 x25 x26 x27 x28 x29 x30 x31 x32 x33 x34 x35 x36 x37 x38 x39 x40 x41 x42 x43 x44 x45 x46 x47 x48 x49 x50 x51 x52 x53 x54 x55 x56 x57 x58 x59 x60 x61 x62 x63 x64 x65 x66 x67 x68 x69 x70 x71 x72 x73 x74 x75 x76 x77 x78 x79 x80 x81 x82 x83 x84 x85 x86 x87 x88 x89 x90 x91 x92 x93 x94 x95 x96 x97 x98 x99 x100 x101 x102 x103 x104 x105 x106 x107 x108 x109 x110 x111 x112 x113 x114 x115 x116 x117 x118 x119 x120 x121 x122 x123 x124 x125 x126 x127 x128 x129 x130 x131 x132 x133 x134 x135 x136 x137 x138 x139 x140 x141 x142 x143 x144 x145 x146 x147 x148 x149 x150 x151 x152 x153 x154 x155 x156 x157 x158 x159 x160 x161 x162 x163 x164 x165 x166 x167 x168 x169 x170 x171 x172 x173 x174 x175 x176 x177 x178 x179 x180 x181 x182 x183 x184 x185 x186 x187 x188 x189 x190 x191 x192 x193 x194 x195 x196 x197 x198 x199 x200 x201 x202 x203 x204 x205 x206 x207 x208 x209 x210 x211 x212 x213 x214 x215 x216 x217 x218 x219 x220 x221 x222 x223 x224 x225 x226 x227 x228 x229 x230 x231 x232 x233 x234 x235 x236 x237 x238 x239 x240 x241 x242 x243 x244 x245 x246 x247 x248 x249 x250 x251 x252 x253 x254 x255 x256 x257 x258 x259 x260 x261 x262 x263 x264 x265 x266 x267 x268 x269 x270 x271 x272 x273 x274 x275 x276 x277 x278 x279 x280 x281 x282 x283 : Value) (w : World) (a b d g c : Nat) (ha : a < 2 ^ 32) (hb : b < 2 ^ 32) (hd : d < 2 ^ 32)
    (c1 : w.cell? ⟨g, 1, none⟩ = some (.int .i64 b)) (c2 : w.cell? ⟨g, 2, none⟩ = some (.int .i64 d)) (hg : g < w.heap.size) (Q0 : Exit → Act → World → Prop)
    (hexit : ∀ (u188 u189 u190 u191 u192 u193 u194 u195 u196 u197 u198 u199 u200 u201 u202 u203 u204 u205 u206 : Value) (w' : World), Below w.heap.size w w' → Q0 .normal ⟨#[x0, x1, x2, x3, x4, x5, x6, x7, x8, x9, x10, x11, x12, x13, x14, x15, x16, .slice (some ⟨g, 0, none⟩) 8 c, x18, .int .i64 a, x20, x21, x22, .int .i64 (majN a b d : Nat), x24, x25, x26, x27, x28, x29, x30, x31, x32, x33, x34, x35, x36, x37, x38, x39, x40, x41, x42, x43, x44, x45, x46, x47, x48, x49, x50, x51, x52, x53, x54, x55, x56, x57, x58, x59, x60, x61, x62, x63, x64, x65, x66, x67, x68, x69, x70, x71, x72, x73, x74, x75, x76, x77, x78, x79, x80, x81, x82, x83, x84, x85, x86, x87, x88, x89, x90, x91, x92, x93, x94, x95, x96, x97, x98, x99, x100, x101, x102, x103, x104, x105, x106, x107, x108, x109, x110, x111, x112, x113, x114, x115, x116, x117, x118, x119, x120, x121, x122, x123, x124, x125, x126, x127, x128, x129, x130, x131, x132, x133, x134, x135, x136, x137, x138, x139, x140, x141, x142, x143, x144, x145, x146, x147, x148, x149, x150, x151, x152, x153, x154, x155, x156, x157, x158, x159, x160, x161, x162, x163, x164, x165, x166, x167, x168, x169, x170, x171, x172, x173, x174, x175, x176, x177, x178, x179, x180, x181, x182, x183, x184, x185, x186, x187, u188, u189, u190, u191, u192, u193, u194, u195, u196, u197, u198, u199, u200, u201, u202, u203, u204, u205, u206, x207, x208, x209, x210, x211, x212, x213, x214, x215, x216, x217, x218, x219, x220, x221, x222, x223, x224, x225, x226, x227, x228, x229, x230, x231, x232, x233, x234, x235, x236, x237, x238, x239, x240, x241, x242, x243, x244, x245, x246, x247, x248, x249, x250, x251, x252, x253, x254, x255, x256, x257, x258, x259, x260, x261, x262, x263, x264, x265, x266, x267, x268, x269, x270, x271, x272, x273, x274, x275, x276, x277, x278, x279, x280, x281, x282, x283], []⟩ w') :
    Code.wp Tryz.prog (subC [true, true, true, true, true, true, false, true, false, false, true, false, false, true, true, true, false, true, false, false, true, false, false, true, true, true, false] (Tryz.f33.body.getD .skip)) Q0 ⟨#[x0, x1, x2, x3, x4, x5, x6, x7, x8, x9, x10, x11, x12, x13, x14, x15, x16, .slice (some ⟨g, 0, none⟩) 8 c, x18, .int .i64 a, x20, x21, x22, x23, x24, x25, x26, x27, x28, x29, x30, x31, x32, x33, x34, x35, x36, x37, x38, x39, x40, x41, x42, x43, x44, x45, x46, x47, x48, x49, x50, x51, x52, x53, x54, x55, x56, x57, x58, x59, x60, x61, x62, x63, x64, x65, x66, x67, x68, x69, x70, x71, x72, x73, x74, x75, x76, x77, x78, x79, x80, x81, x82, x83, x84, x85, x86, x87, x88, x89, x90, x91, x92, x93, x94, x95, x96, x97, x98, x99, x100, x101, x102, x103, x104, x105, x106, x107, x108, x109, x110, x111, x112, x113, x114, x115, x116, x117, x118, x119, x120, x121, x122, x123, x124, x125, x126, x127, x128, x129, x130, x131, x132, x133, x134, x135, x136, x137, x138, x139, x140, x141, x142, x143, x144, x145, x146, x147, x148, x149, x150, x151, x152, x153, x154, x155, x156, x157, x158, x159, x160, x161, x162, x163, x164, x165, x166, x167, x168, x169, x170, x171, x172, x173, x174, x175, x176, x177, x178, x179, x180, x181, x182, x183, x184, x185, x186, x187, x188, x189, x190, x191, x192, x193, x194, x195, x196, x197, x198, x199, x200, x201, x202, x203, x204, x205, x206, x207, x208, x209, x210, x211, x212, x213, x214, x215, x216, x217, x218, x219, x220, x221, x222, x223, x224, x225, x226, x227, x228, x229, x230, x231, x232, x233, x234, x235, x236, x237, x238, x239, x240, x241, x242, x243, x244, x245, x246, x247, x248, x249, x250, x251, x252, x253, x254, x255, x256, x257, x258, x259, x260, x261, x262, x263, x264, x265, x266, x267, x268, x269, x270, x271, x272, x273, x274, x275, x276, x277, x278, x279, x280, x281, x282, x283], []⟩ w := by
  have HX : Hid _ := hexit
  clear hexit
  have HB : Hid (Below w.heap.size w w) := Below.refl _ _
  have HA : Hid (∀ (W : World) (x y : Nat), x < 2 ^ 32 → y < 2 ^ 32 → Calls Tryz.prog 70 #[.int .i64 x, .int .i64 y] W fun e' w' => e' = .returned (.int .i64 (andN x y : Nat)) ∧ w' = W) := fun W x y hx hy => And_any x y W hx hy
  have HXO : Hid (∀ (W : World) (b' : Nat), W.cell? ⟨b', 0, none⟩ = some (.int .i64 (andN a b : Nat)) → W.cell? ⟨b', 1, none⟩ = some (.int .i64 (andN a d : Nat)) → W.cell? ⟨b', 2, none⟩ = some (.int .i64 (andN b d : Nat)) → Calls Tryz.prog 67 #[.slice (some ⟨b', 0, none⟩) 3 3] W fun e' w' => e' = .returned (.int .i64 (majN a b d : Nat)) ∧ w' = W) := fun W b' => Xor_3 W b' _ _ _ (andN_lt _ _ hb) (andN_lt _ _ hd) (andN_lt _ _ hd) _ rfl
  generalize majN a b d = r at HX HXO
  have HLT : Hid (a < 2 ^ 32 ∧ b < 2 ^ 32 ∧ d < 2 ^ 32) := ⟨ha, hb, hd⟩
  have HS : Hid (∀ W : World, Below w.heap.size w W → W.cell? ⟨g, 1, none⟩ = some (.int .i64 b) ∧ W.cell? ⟨g, 2, none⟩ = some (.int .i64 d)) := fun W hW => ⟨(hW.cell (p := ⟨g, 1, none⟩) hg).trans c1, (hW.cell (p := ⟨g, 2, none⟩) hg).trans c2⟩
  clear c1 c2 hg ha hb hd
  conv => arg 2; whnf
  go_region_held3 (fun w' => w'.cell? ⟨g, 1, none⟩ = some (.int .i64 b) ∧ w'.cell? ⟨g, 2, none⟩ = some (.int .i64 d))
    (first | (refine HS.out _ ?_; repeat' (with_reducible (first | exact HB.out | refine bl_al ?_ _ | refine bl_dn ?_ _ | refine bl_dr ?_))) | fail)
    (first
      | (go_at_call 70; refine (HA.out _ _ _ (by first | exact HLT.out.1 | exact HLT.out.2.1) (by first | exact HLT.out.2.1 | exact HLT.out.2.2)).mono ?_; rintro e w' ⟨rfl, rfl⟩)
      | (go_at_call 67; refine (HXO.out _ _ (by first | exact al_atC _ _ _ _ 0 _ rfl rfl | simp [go_sem]) (by first | exact al_atC _ _ _ _ 1 _ rfl rfl | simp [go_sem]) (by first | exact al_atC _ _ _ _ 2 _ rfl rfl | simp [go_sem])).mono ?_; rintro e w' ⟨rfl, rfl⟩)
      | fail)
  all_goals exact HX.out _ _ _ _ _ _ _ _ _ _ _ _ _ _ _ _ _ _ _ _ (by repeat' (with_reducible (first | exact HB.out | refine bl_al ?_ _ | refine bl_dn ?_ _ | refine bl_dr ?_)))

set_option maxHeartbeats 4000000 in
set_option maxRecDepth 100000 in
theorem r36 (x0 x1 x2 x3 x4 x5 x6 x7 x8 x9 x10 x11 x12 x13 x14 x15 x16 x17 x18 x20 x21 x22 x24 x25 x26 x27 x28 x29 x30 x31 x32 x33 x34 x35 x36 x37 x38 x39 x40 x41 x42 x43 x44 x45 x46 x47 x48 x49 x50 x51 x52 x53 x54 x55 x56 x57 x58 x59 x60 x61 x62 x63 x64 x65 x66 x67 x68 x69 x70 x71 x72 x73 x74 x75 x76 x77 x78 x79 x80 x81 x82 x83 x84 x85 x86 x87 x88 x89 x90 x91 x92 x93 x94 x95 x96 x97 x98 x99 x100 x101 x102 x103 x104 x105 x106 x107 x108 x109 x110 x111 x112 x113 x114 x115 x116 x117 x118 x119 x120 x121 x122 x123 x124 x125 x126 x127 x128 x129 x130 x131 x132 x133 x134 x135 x136 x137 x138 x139 x140 x141 x142 x143 x144 x145 x146 x147 x148 x149 x150 x151 x152 x153 x154 x155 x156 x157 x158 x159 x160 x161 x162 x163 x164 x165 x166 x167 x168 x169 x170 x171 x172 x173 x174 x175 x176 x177 x178 x179 x180 x181 x182 x183 x184 x185 x186 x187 x188 x189 x190 x191 x192 x193 x194 x195 x196 x197 x198 x199 x200 x201 x202 x203 x204 x205 x206 x207 x208 x209 x210 x211 x212 x213 x214 x215 x216 x217 x218 x219 x220 x221 x222 x223 x224 x225 x226 x227 x228 x229 x230 x231 x232 x233 x234 x235 x236 x237 x238 x239 x240 x241 x242 x243 x244 x245 x246 x247 x248 x249 x250 x251 x252 x253 x254 x255 x256 x257 x258 x259 x260 x261 x262 x263 x264 x265 x266 x267 x268 x269 x270 x271 x272 x273 x274 x275 x276 x277 x278 x279 x280 x281 x282 x283 : Value) (w : World) (a m : Nat) (ha : a < 2 ^ 32) (hm : m < 2 ^ 32) (Q0 : Exit → Act → World → Prop)
    (hexit : ∀ (u207 u208 u209 u210 u211 u212 u213 u214 u215 u216 : Value) (w' : World), Below w.heap.size w w' → Q0 .normal ⟨#[x0, x1, x2, x3, x4, x5, x6, x7, x8, x9, x10, x11, x12, x13, x14, x15, x16, x17, x18, .int .i64 a, x20, x21, x22, .int .i64 m, .int .i64 (big0N a + m : Nat), x25, x26, x27, x28, x29, x30, x31, x32, x33, x34, x35, x36, x37, x38, x39, x40, x41, x42, x43, x44, x45, x46, x47, x48, x49, x50, x51, x52, x53, x54, x55, x56, x57, x58, x59, x60, x61, x62, x63, x64, x65, x66, x67, x68, x69, x70, x71, x72, x73, x74, x75, x76, x77, x78, x79, x80, x81, x82, x83, x84, x85, x86, x87, x88, x89, x90, x91, x92, x93, x94, x95, x96, x97, x98, x99, x100, x101, x102, x103, x104, x105, x106, x107, x108, x109, x110, x111, x112, x113, x114, x115, x116, x117, x118, x119, x120, x121, x122, x123, x124, x125, x126, x127, x128, x129, x130, x131, x132, x133, x134, x135, x136, x137, x138, x139, x140, x141, x142, x143, x144, x145, x146, x147, x148, x149, x150, x151, x152, x153, x154, x155, x156, x157, x158, x159, x160, x161, x162, x163, x164, x165, x166, x167, x168, x169, x170, x171, x172, x173, x174, x175, x176, x177, x178, x179, x180, x181, x182, x183, x184, x185, x186, x187, x188, x189, x190, x191, x192, x193, x194, x195, x196, x197, x198, x199, x200, x201, x202, x203, x204, x205, x206, u207, u208, u209, u210, u211, u212, u213, u214, u215, u216, x217, x218, x219, x220, x221, x222, x223, x224, x225, x226, x227, x228, x229, x230, x231, x232, x233, x234, x235, x236, x237, x238, x239, x240, x241, x242, x243, x244, x245, x246, x247, x248, x249, x250, x251, x252, x253, x254, x255, x256, x257, x258, x259, x260, x261, x262, x263, x264, x265, x266, x267, x268, x269, x270, x271, x272, x273, x274, x275, x276, x277, x278, x279, x280, x281, x282, x283], []⟩ w') :
    Code.wp Tryz.prog (subC [true, true, true, true, true, true, false, true, false, false, true, false, false, true, true, true, false, true, false, false, true, false, false, true, true, true, true, false] (Tryz.f33.body.getD .skip)) Q0 ⟨#[x0, x1, x2, x3, x4, x5, x6, x7, x8, x9, x10, x11, x12, x13, x14, x15, x16, x17, x18, .int .i64 a, x20, x21, x22, .int .i64 m, x24, x25, x26, x27, x28, x29, x30, x31, x32, x33, x34, x35, x36, x37, x38, x39, x40, x41, x42, x43, x44, x45, x46, x47, x48, x49, x50, x51, x52, x53, x54, x55, x56, x57, x58, x59, x60, x61, x62, x63, x64, x65, x66, x67, x68, x69, x70, x71, x72, x73, x74, x75, x76, x77, x78, x79, x80, x81, x82, x83, x84, x85, x86, x87, x88, x89, x90, x91, x92, x93, x94, x95, x96, x97, x98, x99, x100, x101, x102, x103, x104, x105, x106, x107, x108, x109, x110, x111, x112, x113, x114, x115, x116, x117, x118, x119, x120, x121, x122, x123, x124, x125, x126, x127, x128, x129, x130, x131, x132, x133, x134, x135, x136, x137, x138, x139, x140, x141, x142, x143, x144, x145, x146, x147, x148, x149, x150, x151, x152, x153, x154, x155, x156, x157, x158, x159, x160, x161, x162, x163, x164, x165, x166, x167, x168, x169, x170, x171, x172, x173, x174, x175, x176, x177, x178, x179, x180, x181, x182, x183, x184, x185, x186, x187, x188, x189, x190, x191, x192, x193, x194, x195, x196, x197, x198, x199, x200, x201, x202, x203, x204, x205, x206, x207, x208, x209, x210, x211, x212, x213, x214, x215, x216, x217, x218, x219, x220, x221, x222, x223, x224, x225, x226, x227, x228, x229, x230, x231, x232, x233, x234, x235, x236, x237, x238, x239, x240, x241, x242, x243, x244, x245, x246, x247, x248, x249, x250, x251, x252, x253, x254, x255, x256, x257, x258, x259, x260, x261, x262, x263, x264, x265, x266, x267, x268, x269, x270, x271, x272, x273, x274, x275, x276, x277, x278, x279, x280, x281, x282, x283], []⟩ w := by
  have HX : Hid _ := hexit
  clear hexit
  have HB : Hid (Below w.heap.size w w) := Below.refl _ _
  have bl := (big_lt a ha).2.1
  have l1 := (right_lt a 2 ha (by decide)).2
  have l2 := (right_lt a 13 ha (by decide)).2
  have l3 := (right_lt a 22 ha (by decide)).2
  have HA1 : Hid (∀ W : World, Calls Tryz.prog 68 #[.int .i64 a, .int .i64 2] W fun e' w' => e' = .returned (.int .i64 (rightN a 2 : Nat)) ∧ ∃ m, w' = W.drewN m) := fun W => Right_any a 2 W ha (by decide) (by decide)
  have HA2 : Hid (∀ W : World, Calls Tryz.prog 68 #[.int .i64 a, .int .i64 13] W fun e' w' => e' = .returned (.int .i64 (rightN a 13 : Nat)) ∧ ∃ m, w' = W.drewN m) := fun W => Right_any a 13 W ha (by decide) (by decide)
  have HA3 : Hid (∀ W : World, Calls Tryz.prog 68 #[.int .i64 a, .int .i64 22] W fun e' w' => e' = .returned (.int .i64 (rightN a 22 : Nat)) ∧ ∃ m, w' = W.drewN m) := fun W => Right_any a 22 W ha (by decide) (by decide)
  have HXO : Hid (∀ (W : World) (b : Nat), W.cell? ⟨b, 0, none⟩ = some (.int .i64 (rightN a 2 : Nat)) → W.cell? ⟨b, 1, none⟩ = some (.int .i64 (rightN a 13 : Nat)) → W.cell? ⟨b, 2, none⟩ = some (.int .i64 (rightN a 22 : Nat)) → Calls Tryz.prog 67 #[.slice (some ⟨b, 0, none⟩) 3 3] W fun e' w' => e' = .returned (.int .i64 (big0N a : Nat)) ∧ w' = W) := fun W b => Xor_3 W b _ _ _ l1 l2 l3 _ rfl
  generalize rightN a 2 = p1 at HA1 HXO
  generalize rightN a 13 = p2 at HA2 HXO
  generalize rightN a 22 = p3 at HA3 HXO
  generalize big0N a = bg at HX HXO bl
  obtain ⟨s1, hs1⟩ : ∃ s1, s1 = bg + m := ⟨_, rfl⟩
  have e1 : (bg : Int) + (m : Int) = (s1 : Int) := by omega
  rw [← hs1] at HX
  have f1 := wr60 s1 (by omega)
  have f2 : wrap64 (s1 : Int) = (s1 : Int) := by unfold wrap64; clear f1; omega
  clear hs1 ha hm bl l1 l2 l3
  conv => arg 2; whnf
  go_wp2_with fail
  refine (HA1.out _).mono ?_
  rintro e w' ⟨rfl, m1, rfl⟩
  go_wp2_with fail
  refine (HA2.out _).mono ?_
  rintro e w' ⟨rfl, m2, rfl⟩
  go_wp2_with fail
  refine (HA3.out _).mono ?_
  rintro e w' ⟨rfl, m3, rfl⟩
  go_wp2_with fail
  refine (HXO.out _ _ (al_atC _ _ _ _ 0 _ rfl rfl) (al_atC _ _ _ _ 1 _ rfl rfl) (al_atC _ _ _ _ 2 _ rfl rfl)).mono ?_
  rintro e w' ⟨rfl, rfl⟩
  go_wp2
  exact HX.out _ _ _ _ _ _ _ _ _ _ _ (by repeat' (with_reducible (first | exact HB.out | refine bl_al ?_ _ | refine bl_dn ?_ _ | refine bl_dr ?_)))

set_option maxHeartbeats 4000000 in
set_option maxRecDepth 100000 in
theorem r32 (x0 x1 x2 x3 x4 x5 x6 x7 x8 x9 x10 x11 x12 x13 x14 x15 x16 x18 x19 x20 x21 x22 x23 x24 x25 x26 x27 x28 x29 x30 x31 x32 x33 x34 x35 x36 x37 x38 x39 x40 x41 x42 x43 x44 x45 x46 x47 x48 x49 x50 x51 x52 x53 x54 x55 x56 x57 x58 x59 x60 x61 x62 x63 x64 x65 x66 x67 x68 x69 x70 x71 x72 x73 x74 x75 x76 x77 x78 x79 x80 x81 x82 x83 x84 x85 x86 x87 x88 x89 x90 x91 x92 x93 x94 x95 x96 x97 x98 x99 x100 x101 x102 x103 x104 x105 x106 x107 x108 x109 x110 x111 x112 x113 x114 x115 x116 x117 x118 x119 x120 x121 x122 x123 x124 x125 x126 x127 x128 x129 x130 x131 x132 x133 x134 x135 x136 x137 x138 x139 x140 x141 x142 x143 x144 x145 x146 x147 x148 x149 x150 x151 x152 x153 x154 x155 x156 x157 x158 x159 x160 x161 x162 x163 x164 x165 x166 x167 x168 x169 x170 x171 x172 x173 x174 x175 x176 x177 x178 x179 x180 x181 x182 x183 x184 x185 x186 x187 x188 x189 x190 x191 x192 x193 x194 x195 x196 x197 x198 x199 x200 x201 x202 x203 x204 x205 x206 x207 x208 x209 x210 x211 x212 x213 x214 x215 x216 x217 x218 x219 x220 x221 x222 x223 x224 x225 x226 x227 x228 x229 x230 x231 x232 x233 x234 x235 x236 x237 x238 x239 x240 x241 x242 x243 x244 x245 x246 x247 x248 x249 x250 x251 x252 x253 x254 x255 x256 x257 x258 x259 x260 x261 x262 x263 x264 x265 x266 x267 x268 x269 x270 x271 x272 x273 x274 x275 x276 x277 x278 x279 x280 x281 x282 x283 : Value) (w : World) (a e g c : Nat)
    (c0 : w.cell? ⟨g, 0, none⟩ = some (.int .i64 a)) (c4 : w.cell? ⟨g, 4, none⟩ = some (.int .i64 e)) (Q0 : Exit → Act → World → Prop)
    (hexit : ∀ (u144 u145 u146 u147 u148 u149 : Value) (w' : World), Below w.heap.size w w' → Q0 .normal ⟨#[x0, x1, x2, x3, x4, x5, x6, x7, x8, x9, x10, x11, x12, x13, x14, x15, x16, .slice (some ⟨g, 0, none⟩) 8 c, x18, .int .i64 a, .int .i64 e, x21, x22, x23, x24, x25, x26, x27, x28, x29, x30, x31, x32, x33, x34, x35, x36, x37, x38, x39, x40, x41, x42, x43, x44, x45, x46, x47, x48, x49, x50, x51, x52, x53, x54, x55, x56, x57, x58, x59, x60, x61, x62, x63, x64, x65, x66, x67, x68, x69, x70, x71, x72, x73, x74, x75, x76, x77, x78, x79, x80, x81, x82, x83, x84, x85, x86, x87, x88, x89, x90, x91, x92, x93, x94, x95, x96, x97, x98, x99, x100, x101, x102, x103, x104, x105, x106, x107, x108, x109, x110, x111, x112, x113, x114, x115, x116, x117, x118, x119, x120, x121, x122, x123, x124, x125, x126, x127, x128, x129, x130, x131, x132, x133, x134, x135, x136, x137, x138, x139, x140, x141, x142, x143, u144, u145, u146, u147, u148, u149, x150, x151, x152, x153, x154, x155, x156, x157, x158, x159, x160, x161, x162, x163, x164, x165, x166, x167, x168, x169, x170, x171, x172, x173, x174, x175, x176, x177, x178, x179, x180, x181, x182, x183, x184, x185, x186, x187, x188, x189, x190, x191, x192, x193, x194, x195, x196, x197, x198, x199, x200, x201, x202, x203, x204, x205, x206, x207, x208, x209, x210, x211, x212, x213, x214, x215, x216, x217, x218, x219, x220, x221, x222, x223, x224, x225, x226, x227, x228, x229, x230, x231, x232, x233, x234, x235, x236, x237, x238, x239, x240, x241, x242, x243, x244, x245, x246, x247, x248, x249, x250, x251, x252, x253, x254, x255, x256, x257, x258, x259, x260, x261, x262, x263, x264, x265, x266, x267, x268, x269, x270, x271, x272, x273, x274, x275, x276, x277, x278, x279, x280, x281, x282, x283], []⟩ w') :
    Code.wp Tryz.prog (subC [true, true, true, true, true, true, false, true, false, false, true, false, false, true, true, true, false, true, false, false, true, false, false, false] (Tryz.f33.body.getD .skip)) Q0 ⟨#[x0, x1, x2, x3, x4, x5, x6, x7, x8, x9, x10, x11, x12, x13, x14, x15, x16, .slice (some ⟨g, 0, none⟩) 8 c, x18, x19, x20, x21, x22, x23, x24, x25, x26, x27, x28, x29, x30, x31, x32, x33, x34, x35, x36, x37, x38, x39, x40, x41, x42, x43, x44, x45, x46, x47, x48, x49, x50, x51, x52, x53, x54, x55, x56, x57, x58, x59, x60, x61, x62, x63, x64, x65, x66, x67, x68, x69, x70, x71, x72, x73, x74, x75, x76, x77, x78, x79, x80, x81, x82, x83, x84, x85, x86, x87, x88, x89, x90, x91, x92, x93, x94, x95, x96, x97, x98, x99, x100, x101, x102, x103, x104, x105, x106, x107, x108, x109, x110, x111, x112, x113, x114, x115, x116, x117, x118, x119, x120, x121, x122, x123, x124, x125, x126, x127, x128, x129, x130, x131, x132, x133, x134, x135, x136, x137, x138, x139, x140, x141, x142, x143, x144, x145, x146, x147, x148, x149, x150, x151, x152, x153, x154, x155, x156, x157, x158, x159, x160, x161, x162, x163, x164, x165, x166, x167, x168, x169, x170, x171, x172, x173, x174, x175, x176, x177, x178, x179, x180, x181, x182, x183, x184, x185, x186, x187, x188, x189, x190, x191, x192, x193, x194, x195, x196, x197, x198, x199, x200, x201, x202, x203, x204, x205, x206, x207, x208, x209, x210, x211, x212, x213, x214, x215, x216, x217, x218, x219, x220, x221, x222, x223, x224, x225, x226, x227, x228, x229, x230, x231, x232, x233, x234, x235, x236, x237, x238, x239, x240, x241, x242, x243, x244, x245, x246, x247, x248, x249, x250, x251, x252, x253, x254, x255, x256, x257, x258, x259, x260, x261, x262, x263, x264, x265, x266, x267, x268, x269, x270, x271, x272, x273, x274, x275, x276, x277, x278, x279, x280, x281, x282, x283], []⟩ w := by
  have HX : Hid _ := hexit
  clear hexit
  have HB : Hid (Below w.heap.size w w) := Below.refl _ _
  conv => arg 2; whnf
  go_quiet (fail)
  exact HX.out _ _ _ _ _ _ _ (by repeat' (with_reducible (first | exact HB.out | refine bl_al ?_ _ | refine bl_dn ?_ _ | refine bl_dr ?_)))

/-- Eight numbers in a block. -/
def VAt (w : World) (g : Nat) (q : N8) : Prop := w.cell? ⟨g, 0, none⟩ = some (.int .i64 q.a) ∧ w.cell? ⟨g, 1, none⟩ = some (.int .i64 q.b) ∧ w.cell? ⟨g, 2, none⟩ = some (.int .i64 q.c) ∧ w.cell? ⟨g, 3, none⟩ = some (.int .i64 q.d) ∧ w.cell? ⟨g, 4, none⟩ = some (.int .i64 q.e) ∧ w.cell? ⟨g, 5, none⟩ = some (.int .i64 q.f) ∧ w.cell? ⟨g, 6, none⟩ = some (.int .i64 q.g) ∧ w.cell? ⟨g, 7, none⟩ = some (.int .i64 q.h)
theorem VAt.up {w w' : World} {g : Nat} {q : N8} (h : VAt w g q) (hb : Below w.heap.size w w') (hg : g < w.heap.size) : VAt w' g q := by
  obtain ⟨h0, h1, h2, h3, h4, h5, h6, h7⟩ := h
  exact ⟨(hb.cell (p := ⟨g, 0, none⟩) hg).trans h0, (hb.cell (p := ⟨g, 1, none⟩) hg).trans h1, (hb.cell (p := ⟨g, 2, none⟩) hg).trans h2, (hb.cell (p := ⟨g, 3, none⟩) hg).trans h3, (hb.cell (p := ⟨g, 4, none⟩) hg).trans h4, (hb.cell (p := ⟨g, 5, none⟩) hg).trans h5, (hb.cell (p := ⟨g, 6, none⟩) hg).trans h6, (hb.cell (p := ⟨g, 7, none⟩) hg).trans h7⟩
theorem VAt.new (W : World) (q : N8) (b : Nat) (hb : b = W.heap.size) : VAt (W.alloc (.cells #[.int .i64 q.a, .int .i64 q.b, .int .i64 q.c, .int .i64 q.d, .int .i64 q.e, .int .i64 q.f, .int .i64 q.g, .int .i64 q.h] 3)) b q :=
  ⟨al_atC _ _ _ _ 0 _ hb rfl, al_atC _ _ _ _ 1 _ hb rfl, al_atC _ _ _ _ 2 _ hb rfl, al_atC _ _ _ _ 3 _ hb rfl, al_atC _ _ _ _ 4 _ hb rfl, al_atC _ _ _ _ 5 _ hb rfl, al_atC _ _ _ _ 6 _ hb rfl, al_atC _ _ _ _ 7 _ hb rfl⟩
theorem VAt.dr {w : World} {g : Nat} {q : N8} (h : VAt w g q) : VAt w.drew g q := h

set_option maxHeartbeats 4000000 in
set_option maxRecDepth 100000 in
theorem r37 (x0 x1 x2 x3 x4 x5 x6 x7 x8 x9 x10 x11 x12 x13 x14 x15 x16 x18 x19 x20 x21 x23 x25 x26 x27 x28 x29 x30 x31 x32 x33 x34 x35 x36 x37 x38 x39 x40 x41 x42 x43 x44 x45 x46 x47 x48 x49 x50 x51 x52 x53 x54 x55 x56 x57 x58 x59 x60 x61 x62 x63 x64 x65 x66 x67 x68 x69 x70 x71 x72 x73 x74 x75 x76 x77 x78 x79 x80 x81 x82 x83 x84 x85 x86 x87 x88 x89 x90 x91 x92 x93 x94 x95 x96 x97 x98 x99 x100 x101 x102 x103 x104 x105 x106 x107 x108 x109 x110 x111 x112 x113 x114 x115 x116 x117 x118 x119 x120 x121 x122 x123 x124 x125 x126 x127 x128 x129 x130 x131 x132 x133 x134 x135 x136 x137 x138 x139 x140 x141 x142 x143 x144 x145 x146 x147 x148 x149 x150 x151 x152 x153 x154 x155 x156 x157 x158 x159 x160 x161 x162 x163 x164 x165 x166 x167 x168 x169 x170 x171 x172 x173 x174 x175 x176 x177 x178 x179 x180 x181 x182 x183 x184 x185 x186 x187 x188 x189 x190 x191 x192 x193 x194 x195 x196 x197 x198 x199 x200 x201 x202 x203 x204 x205 x206 x207 x208 x209 x210 x211 x212 x213 x214 x215 x216 x217 x218 x219 x220 x221 x222 x223 x224 x225 x226 x227 x228 x229 x230 x231 x232 x233 x234 x235 x236 x237 x238 x239 x240 x241 x242 x243 x244 x245 x246 x247 x248 x249 x250 x251 x252 x253 x254 x255 x256 x257 x258 x259 x260 x261 x262 x263 x264 x265 x266 x267 x268 x269 x270 x271 x272 x273 x274 x275 x276 x277 x278 x279 x280 x281 x282 x283 : Value) (w : World) (q : N8) (hq : q.ok) (u x g c : Nat) (hu : u < 2 ^ 32) (hx : x < 2 ^ 33) (hv : VAt w g q) (hg : g < w.heap.size) (Q0 : Exit → Act → World → Prop)
    (hexit : ∀ (u217 u218 u219 u220 u221 u222 u223 u224 u225 u226 u227 u228 u229 u230 u231 u232 u233 u234 u235 u236 u237 u238 u239 u240 u241 u242 u243 u244 u245 : Value) (g' : Nat) (w' : World), VAt w' g' ⟨(u + x) % 4294967296, q.a, q.b, q.c, (q.d + u) % 4294967296, q.e, q.f, q.g⟩ → g' < w'.heap.size → w.heap.size ≤ g' → Below w.heap.size w w' → Q0 .normal ⟨#[x0, x1, x2, x3, x4, x5, x6, x7, x8, x9, x10, x11, x12, x13, x14, x15, x16, .slice (some ⟨g', 0, none⟩) 8 8, x18, x19, x20, x21, .int .i64 u, x23, .int .i64 x, x25, x26, x27, x28, x29, x30, x31, x32, x33, x34, x35, x36, x37, x38, x39, x40, x41, x42, x43, x44, x45, x46, x47, x48, x49, x50, x51, x52, x53, x54, x55, x56, x57, x58, x59, x60, x61, x62, x63, x64, x65, x66, x67, x68, x69, x70, x71, x72, x73, x74, x75, x76, x77, x78, x79, x80, x81, x82, x83, x84, x85, x86, x87, x88, x89, x90, x91, x92, x93, x94, x95, x96, x97, x98, x99, x100, x101, x102, x103, x104, x105, x106, x107, x108, x109, x110, x111, x112, x113, x114, x115, x116, x117, x118, x119, x120, x121, x122, x123, x124, x125, x126, x127, x128, x129, x130, x131, x132, x133, x134, x135, x136, x137, x138, x139, x140, x141, x142, x143, x144, x145, x146, x147, x148, x149, x150, x151, x152, x153, x154, x155, x156, x157, x158, x159, x160, x161, x162, x163, x164, x165, x166, x167, x168, x169, x170, x171, x172, x173, x174, x175, x176, x177, x178, x179, x180, x181, x182, x183, x184, x185, x186, x187, x188, x189, x190, x191, x192, x193, x194, x195, x196, x197, x198, x199, x200, x201, x202, x203, x204, x205, x206, x207, x208, x209, x210, x211, x212, x213, x214, x215, x216, u217, u218, u219, u220, u221, u222, u223, u224, u225, u226, u227, u228, u229, u230, u231, u232, u233, u234, u235, u236, u237, u238, u239, u240, u241, u242, u243, u244, u245, x246, x247, x248, x249, x250, x251, x252, x253, x254, x255, x256, x257, x258, x259, x260, x261, x262, x263, x264, x265, x266, x267, x268, x269, x270, x271, x272, x273, x274, x275, x276, x277, x278, x279, x280, x281, x282, x283], []⟩ w') :
    Code.wp Tryz.prog (subC [true, true, true, true, true, true, false, true, false, false, true, false, false, true, true, true, false, true, false, false, true, false, false, true, true, true, true, true] (Tryz.f33.body.getD .skip)) Q0 ⟨#[x0, x1, x2, x3, x4, x5, x6, x7, x8, x9, x10, x11, x12, x13, x14, x15, x16, .slice (some ⟨g, 0, none⟩) 8 c, x18, x19, x20, x21, .int .i64 u, x23, .int .i64 x, x25, x26, x27, x28, x29, x30, x31, x32, x33, x34, x35, x36, x37, x38, x39, x40, x41, x42, x43, x44, x45, x46, x47, x48, x49, x50, x51, x52, x53, x54, x55, x56, x57, x58, x59, x60, x61, x62, x63, x64, x65, x66, x67, x68, x69, x70, x71, x72, x73, x74, x75, x76, x77, x78, x79, x80, x81, x82, x83, x84, x85, x86, x87, x88, x89, x90, x91, x92, x93, x94, x95, x96, x97, x98, x99, x100, x101, x102, x103, x104, x105, x106, x107, x108, x109, x110, x111, x112, x113, x114, x115, x116, x117, x118, x119, x120, x121, x122, x123, x124, x125, x126, x127, x128, x129, x130, x131, x132, x133, x134, x135, x136, x137, x138, x139, x140, x141, x142, x143, x144, x145, x146, x147, x148, x149, x150, x151, x152, x153, x154, x155, x156, x157, x158, x159, x160, x161, x162, x163, x164, x165, x166, x167, x168, x169, x170, x171, x172, x173, x174, x175, x176, x177, x178, x179, x180, x181, x182, x183, x184, x185, x186, x187, x188, x189, x190, x191, x192, x193, x194, x195, x196, x197, x198, x199, x200, x201, x202, x203, x204, x205, x206, x207, x208, x209, x210, x211, x212, x213, x214, x215, x216, x217, x218, x219, x220, x221, x222, x223, x224, x225, x226, x227, x228, x229, x230, x231, x232, x233, x234, x235, x236, x237, x238, x239, x240, x241, x242, x243, x244, x245, x246, x247, x248, x249, x250, x251, x252, x253, x254, x255, x256, x257, x258, x259, x260, x261, x262, x263, x264, x265, x266, x267, x268, x269, x270, x271, x272, x273, x274, x275, x276, x277, x278, x279, x280, x281, x282, x283], []⟩ w := by
  obtain ⟨va, vb, vc, vd, ve, vf, vg, vh⟩ := q
  obtain ⟨ha, hb, hc, hd, he, hf, hgg, hh⟩ := hq
  simp only at ha hb hc hd he hf hgg hh
  simp only [VAt] at hv
  have HX : Hid _ := hexit
  clear hexit
  have HB : Hid (Below w.heap.size w w) := Below.refl _ _
  obtain ⟨s1, hs1⟩ : ∃ s1, s1 = u + x := ⟨_, rfl⟩
  obtain ⟨s2, hs2⟩ : ∃ s2, s2 = vd + u := ⟨_, rfl⟩
  obtain ⟨m1, hm1⟩ : ∃ m1, m1 = s1 % 4294967296 := ⟨_, rfl⟩
  obtain ⟨m2, hm2⟩ : ∃ m2, m2 = s2 % 4294967296 := ⟨_, rfl⟩
  have e1 : (u : Int) + (x : Int) = (s1 : Int) := by omega
  have e2 : (vd : Int) + (u : Int) = (s2 : Int) := by omega
  have HW1 : Hid (∀ W : World, Calls Tryz.prog 69 #[.int .i64 s1] W fun e w' => e = .returned (.int .i64 (m1 : Int)) ∧ w' = W) := fun W => by rw [hm1]; exact Wrap_any s1 W
  have HW2 : Hid (∀ W : World, Calls Tryz.prog 69 #[.int .i64 s2] W fun e w' => e = .returned (.int .i64 (m2 : Int)) ∧ w' = W) := fun W => by rw [hm2]; exact Wrap_any s2 W
  rw [← hs1, ← hs2, ← hm1, ← hm2] at HX
  have f1 := wr60 s1 (by omega)
  have f2 := wr60 s2 (by omega)
  have HS : Hid (∀ W : World, Below w.heap.size w W → W.cell? ⟨g, 0, none⟩ = some (.int .i64 va) ∧ W.cell? ⟨g, 1, none⟩ = some (.int .i64 vb) ∧ W.cell? ⟨g, 2, none⟩ = some (.int .i64 vc) ∧ W.cell? ⟨g, 3, none⟩ = some (.int .i64 vd) ∧ W.cell? ⟨g, 4, none⟩ = some (.int .i64 ve) ∧ W.cell? ⟨g, 5, none⟩ = some (.int .i64 vf) ∧ W.cell? ⟨g, 6, none⟩ = some (.int .i64 vg)) := fun W hW => by
    obtain ⟨h0, h1, h2, h3, h4, h5, h6, h7⟩ := VAt.up (q := ⟨va, vb, vc, vd, ve, vf, vg, vh⟩) hv hW hg
    exact ⟨h0, h1, h2, h3, h4, h5, h6⟩
  clear hs1 hs2 hm1 hm2 ha hb hc hd he hf hgg hh hv hg hu hx
  conv => arg 2; whnf
  go_region_held3 (fun w' => w'.cell? ⟨g, 0, none⟩ = some (.int .i64 va) ∧ w'.cell? ⟨g, 1, none⟩ = some (.int .i64 vb) ∧ w'.cell? ⟨g, 2, none⟩ = some (.int .i64 vc) ∧ w'.cell? ⟨g, 3, none⟩ = some (.int .i64 vd) ∧ w'.cell? ⟨g, 4, none⟩ = some (.int .i64 ve) ∧ w'.cell? ⟨g, 5, none⟩ = some (.int .i64 vf) ∧ w'.cell? ⟨g, 6, none⟩ = some (.int .i64 vg))
    (first | (refine HS.out _ ?_; repeat' (with_reducible (first | exact HB.out | refine bl_al ?_ _ | refine bl_dn ?_ _ | refine bl_dr ?_))) | fail)
    (first
      | (go_at_call_of 69 (Value.int IntKind.i64 (s1 : Int)); refine (HW1.out _).mono ?_; rintro e w' ⟨rfl, rfl⟩)
      | (go_at_call_of 69 (Value.int IntKind.i64 (s2 : Int)); refine (HW2.out _).mono ?_; rintro e w' ⟨rfl, rfl⟩)
      | fail)
  all_goals exact HX.out _ _ _ _ _ _ _ _ _ _ _ _ _ _ _ _ _ _ _ _ _ _ _ _ _ _ _ _ _ _ _ (VAt.dr (VAt.new _ ⟨m1, va, vb, vc, m2, ve, vf, vg⟩ _ rfl)) (by simp [World.size_alloc]) (Nat.le_refl _) (by repeat' (with_reducible (first | exact HB.out | refine bl_al ?_ _ | refine bl_dn ?_ _ | refine bl_dr ?_)))
end Go.Proofs.YtefdfcjohkndgaaGreatDoor

/- The document's own Sum: its rounds. -/
namespace Go.Proofs.YtefdfcjohkndgaaGreatDoor
open Go.RowKit

theorem bl_tr {w w1 w2 : World} (h1 : Below w.heap.size w w1) (h2 : Below w1.heap.size w1 w2) : Below w.heap.size w w2 := h1.trans (h2.mono h1.size)
/-- Numbers in a block. -/
def LAt (w : World) (b : Nat) (l : List Nat) : Prop := ∀ j, j < l.length → w.cell? ⟨b, j, none⟩ = some (.int .i64 (l.getD j 0 : Nat))
theorem LAt.up {w w' : World} {b : Nat} {l : List Nat} (h : LAt w b l) (hb : Below w.heap.size w w') (hg : b < w.heap.size) : LAt w' b l := fun j hj => (hb.cell (p := ⟨b, j, none⟩) hg).trans (h j hj)
theorem roundsN_ok (wl ks : List Nat) (n : Nat) (s : N8) (h : s.ok) : (roundsN wl ks n s).ok := (rounds_nat wl ks n s h).2

theorem r36_facts (a m : Nat) (ha : a < 2 ^ 32) (hm : m < 2 ^ 32) :
    Hid (∀ W : World, Calls Tryz.prog 68 #[.int .i64 a, .int .i64 2] W fun e' w' => e' = .returned (.int .i64 (rightN a 2 : Nat)) ∧ ∃ m, w' = W.drewN m) ∧
    Hid (∀ W : World, Calls Tryz.prog 68 #[.int .i64 a, .int .i64 13] W fun e' w' => e' = .returned (.int .i64 (rightN a 13 : Nat)) ∧ ∃ m, w' = W.drewN m) ∧
    Hid (∀ W : World, Calls Tryz.prog 68 #[.int .i64 a, .int .i64 22] W fun e' w' => e' = .returned (.int .i64 (rightN a 22 : Nat)) ∧ ∃ m, w' = W.drewN m) ∧
    Hid (∀ (W : World) (b : Nat), W.cell? ⟨b, 0, none⟩ = some (.int .i64 (rightN a 2 : Nat)) → W.cell? ⟨b, 1, none⟩ = some (.int .i64 (rightN a 13 : Nat)) → W.cell? ⟨b, 2, none⟩ = some (.int .i64 (rightN a 22 : Nat)) → Calls Tryz.prog 67 #[.slice (some ⟨b, 0, none⟩) 3 3] W fun e' w' => e' = .returned (.int .i64 (big0N a : Nat)) ∧ w' = W) ∧
    big0N a + m < 2 ^ 33 := by
  have bl := (big_lt a ha).2.1
  have l1 := (right_lt a 2 ha (by decide)).2
  have l2 := (right_lt a 13 ha (by decide)).2
  have l3 := (right_lt a 22 ha (by decide)).2
  exact ⟨fun W => Right_any a 2 W ha (by decide) (by decide), fun W => Right_any a 13 W ha (by decide) (by decide), fun W => Right_any a 22 W ha (by decide) (by decide), fun W b => Xor_3 W b _ _ _ l1 l2 l3 _ rfl, by omega⟩
theorem r36_wrap (b m : Nat) (h : b + m < 2 ^ 33) : (b : Int) + (m : Int) = ((b + m : Nat) : Int) ∧ IntKind.i64.wrap ((b + m : Nat) : Int) = ((b + m : Nat) : Int) := ⟨by omega, wr60 _ (by omega)⟩

set_option maxHeartbeats 40000000 in
set_option maxRecDepth 100000 in
theorem loop6 (x0 x1 x2 x3 x4 x5 x7 x8 x10 x11 x12 x13 x14 x15 x16 x19 x20 x21 x22 x23 x24 x25 x26 x27 x28 x29 x30 x31 x32 x33 x34 x35 x36 x37 x38 x39 x40 x41 x42 x43 x44 x45 x46 x47 x48 x49 x50 x51 x52 x53 x54 x55 x56 x57 x58 x59 x60 x61 x62 x63 x64 x65 x66 x67 x68 x69 x70 x71 x72 x73 x74 x75 x76 x77 x78 x79 x80 x81 x82 x83 x84 x85 x86 x87 x88 x89 x90 x91 x92 x93 x94 x95 x96 x97 x98 x99 x100 x101 x102 x103 x104 x105 x106 x107 x108 x109 x110 x111 x112 x113 x114 x115 x116 x117 x118 x119 x120 x121 x122 x123 x124 x125 x126 x127 x128 x129 x130 x131 x132 x133 x134 x135 x136 x137 x138 x139 x140 x141 x142 x143 x144 x145 x146 x147 x148 x149 x150 x151 x152 x153 x154 x155 x156 x157 x158 x159 x160 x161 x162 x163 x164 x165 x166 x167 x168 x169 x170 x171 x172 x173 x174 x175 x176 x177 x178 x179 x180 x181 x182 x183 x184 x185 x186 x187 x188 x189 x190 x191 x192 x193 x194 x195 x196 x197 x198 x199 x200 x201 x202 x203 x204 x205 x206 x207 x208 x209 x210 x211 x212 x213 x214 x215 x216 x217 x218 x219 x220 x221 x222 x223 x224 x225 x226 x227 x228 x229 x230 x231 x232 x233 x234 x235 x236 x237 x238 x239 x240 x241 x242 x243 x244 x245 x246 x247 x248 x249 x250 x251 x252 x253 x254 x255 x256 x257 x258 x259 x260 x261 x262 x263 x264 x265 x266 x267 x268 x269 x270 x271 x272 x273 x274 x275 x276 x277 x278 x279 x280 x281 x282 x283 : Value) (w : World) (q : N8) (hq : q.ok) (wl ks : List Nat) (hwl : ∀ x ∈ wl, x < 2 ^ 32) (hks : ∀ x ∈ ks, x < 2 ^ 32) (hwn : wl.length = 64) (hkn : ks.length = 64) (kb kc wb wc g c : Nat)
    (hk : LAt w kb ks) (hw : LAt w wb wl) (hkb : kb < w.heap.size) (hwb : wb < w.heap.size) (hv : VAt w g q) (hg : g < w.heap.size) (Q0 : Exit → Act → World → Prop)
    (hexit : ∀ (u18 u19 u20 u21 u22 u23 u24 u140 u141 u142 u143 u144 u145 u146 u147 u148 u149 u150 u151 u152 u153 u154 u155 u156 u157 u158 u159 u160 u161 u162 u163 u164 u165 u166 u167 u168 u169 u170 u171 u172 u173 u174 u175 u176 u177 u178 u179 u180 u181 u182 u183 u184 u185 u186 u187 u188 u189 u190 u191 u192 u193 u194 u195 u196 u197 u198 u199 u200 u201 u202 u203 u204 u205 u206 u207 u208 u209 u210 u211 u212 u213 u214 u215 u216 u217 u218 u219 u220 u221 u222 u223 u224 u225 u226 u227 u228 u229 u230 u231 u232 u233 u234 u235 u236 u237 u238 u239 u240 u241 u242 u243 u244 u245 : Value) (g' c' : Nat) (w' : World), VAt w' g' (roundsN wl ks 64 q) → g' < w'.heap.size → (g' = g ∨ w.heap.size ≤ g') → Below w.heap.size w w' → Q0 (.exit 10) ⟨#[x0, x1, x2, x3, x4, x5, .slice (some ⟨kb, 0, none⟩) 64 kc, x7, x8, .slice (some ⟨wb, 0, none⟩) 64 wc, x10, x11, x12, x13, x14, x15, x16, .slice (some ⟨g', 0, none⟩) 8 c', u18, u19, u20, u21, u22, u23, u24, x25, x26, x27, x28, x29, x30, x31, x32, x33, x34, x35, x36, x37, x38, x39, x40, x41, x42, x43, x44, x45, x46, x47, x48, x49, x50, x51, x52, x53, x54, x55, x56, x57, x58, x59, x60, x61, x62, x63, x64, x65, x66, x67, x68, x69, x70, x71, x72, x73, x74, x75, x76, x77, x78, x79, x80, x81, x82, x83, x84, x85, x86, x87, x88, x89, x90, x91, x92, x93, x94, x95, x96, x97, x98, x99, x100, x101, x102, x103, x104, x105, x106, x107, x108, x109, x110, x111, x112, x113, x114, x115, x116, x117, x118, x119, x120, x121, x122, x123, x124, x125, x126, x127, x128, x129, x130, x131, x132, x133, x134, x135, x136, x137, x138, x139, u140, u141, u142, u143, u144, u145, u146, u147, u148, u149, u150, u151, u152, u153, u154, u155, u156, u157, u158, u159, u160, u161, u162, u163, u164, u165, u166, u167, u168, u169, u170, u171, u172, u173, u174, u175, u176, u177, u178, u179, u180, u181, u182, u183, u184, u185, u186, u187, u188, u189, u190, u191, u192, u193, u194, u195, u196, u197, u198, u199, u200, u201, u202, u203, u204, u205, u206, u207, u208, u209, u210, u211, u212, u213, u214, u215, u216, u217, u218, u219, u220, u221, u222, u223, u224, u225, u226, u227, u228, u229, u230, u231, u232, u233, u234, u235, u236, u237, u238, u239, u240, u241, u242, u243, u244, u245, x246, x247, x248, x249, x250, x251, x252, x253, x254, x255, x256, x257, x258, x259, x260, x261, x262, x263, x264, x265, x266, x267, x268, x269, x270, x271, x272, x273, x274, x275, x276, x277, x278, x279, x280, x281, x282, x283], []⟩ w') :
    Code.wp Tryz.prog (subC [true, true, true, true, true, true, false, true, false, false, true, false, false, true, true, true, false, true, false] (Tryz.f33.body.getD .skip)) Q0 ⟨#[x0, x1, x2, x3, x4, x5, .slice (some ⟨kb, 0, none⟩) 64 kc, x7, x8, .slice (some ⟨wb, 0, none⟩) 64 wc, x10, x11, x12, x13, x14, x15, x16, .slice (some ⟨g, 0, none⟩) 8 c, .int .i64 0, x19, x20, x21, x22, x23, x24, x25, x26, x27, x28, x29, x30, x31, x32, x33, x34, x35, x36, x37, x38, x39, x40, x41, x42, x43, x44, x45, x46, x47, x48, x49, x50, x51, x52, x53, x54, x55, x56, x57, x58, x59, x60, x61, x62, x63, x64, x65, x66, x67, x68, x69, x70, x71, x72, x73, x74, x75, x76, x77, x78, x79, x80, x81, x82, x83, x84, x85, x86, x87, x88, x89, x90, x91, x92, x93, x94, x95, x96, x97, x98, x99, x100, x101, x102, x103, x104, x105, x106, x107, x108, x109, x110, x111, x112, x113, x114, x115, x116, x117, x118, x119, x120, x121, x122, x123, x124, x125, x126, x127, x128, x129, x130, x131, x132, x133, x134, x135, x136, x137, x138, x139, x140, x141, x142, x143, x144, x145, x146, x147, x148, x149, x150, x151, x152, x153, x154, x155, x156, x157, x158, x159, x160, x161, x162, x163, x164, x165, x166, x167, x168, x169, x170, x171, x172, x173, x174, x175, x176, x177, x178, x179, x180, x181, x182, x183, x184, x185, x186, x187, x188, x189, x190, x191, x192, x193, x194, x195, x196, x197, x198, x199, x200, x201, x202, x203, x204, x205, x206, x207, x208, x209, x210, x211, x212, x213, x214, x215, x216, x217, x218, x219, x220, x221, x222, x223, x224, x225, x226, x227, x228, x229, x230, x231, x232, x233, x234, x235, x236, x237, x238, x239, x240, x241, x242, x243, x244, x245, x246, x247, x248, x249, x250, x251, x252, x253, x254, x255, x256, x257, x258, x259, x260, x261, x262, x263, x264, x265, x266, x267, x268, x269, x270, x271, x272, x273, x274, x275, x276, x277, x278, x279, x280, x281, x282, x283], []⟩ w := by
  have HX : Hid _ := hexit
  clear hexit
  have HQ : Hid (q.ok ∧ VAt w g q ∧ g < w.heap.size) := ⟨hq, hv, hg⟩
  have HK : Hid (LAt w kb ks ∧ kb < w.heap.size ∧ (∀ x ∈ ks, x < 2 ^ 32) ∧ ks.length = 64) := ⟨hk, hkb, hks, hkn⟩
  have HW : Hid (LAt w wb wl ∧ wb < w.heap.size ∧ (∀ x ∈ wl, x < 2 ^ 32) ∧ wl.length = 64) := ⟨hw, hwb, hwl, hwn⟩
  clear hq hv hg hk hkb hks hkn hw hwb hwl hwn
  conv => arg 2; whnf
  dsimp only
  go_loopw [17, 18] (fun v i wr => ∃ (t g' c' : Nat) (r : N8), t ≤ 64 ∧ r = roundsN wl ks t q ∧ v = .slice (some ⟨g', 0, none⟩) 8 c' ∧ i = .int .i64 t ∧ VAt wr g' r ∧ g' < wr.heap.size ∧ (g' = g ∨ w.heap.size ≤ g') ∧ Below w.heap.size w wr) (fun _ i _ => 64 - (intOf i).toNat)
  case atStart => exact ⟨0, g, c, q, by omega, rfl, rfl, rfl, HQ.out.2.1, HQ.out.2.2, Or.inl rfl, Below.refl _ _⟩
  case round =>
    obtain ⟨t, g', c', r, ht, hr, rfl, rfl, hv, hg, hgo, hb⟩ := hrel
    have HGO : Hid (g' = g ∨ w.heap.size ≤ g') := hgo
    clear hgo
    have hrok : r.ok := by rw [hr]; exact roundsN_ok wl ks t q HQ.out.1
    have HV : Hid (VAt wr g' r ∧ g' < wr.heap.size ∧ Below w.heap.size w wr ∧ r.ok ∧ r = roundsN wl ks t q) := ⟨hv, hg, hb, hrok, hr⟩
    clear hv hg hb hrok hr
    by_cases hlt : t < 64
    · have hti : (t : Int) < 64 := by omega
      obtain ⟨va, vb, vc, vd, ve, vf, vg, vh⟩ := r
      have HKV : Hid (∀ W : World, Below wr.heap.size wr W → VAt W g' ⟨va, vb, vc, vd, ve, vf, vg, vh⟩ ∧ g' < W.heap.size ∧ W.cell? ⟨kb, t, none⟩ = some (.int .i64 (ks.getD t 0 : Nat)) ∧ kb < W.heap.size ∧ W.cell? ⟨wb, t, none⟩ = some (.int .i64 (wl.getD t 0 : Nat)) ∧ wb < W.heap.size) := fun W hW => by
        obtain ⟨h1, h2, h3, h4, h5⟩ := HV.out
        obtain ⟨k1, k2, k3, k4⟩ := HK.out
        obtain ⟨w1, w2, w3, w4⟩ := HW.out
        have hb := bl_tr h3 hW
        exact ⟨h1.up hW h2, Nat.lt_of_lt_of_le h2 hW.size, k1.up hb k2 t (by omega), Nat.lt_of_lt_of_le k2 hb.size, w1.up hb w2 t (by omega), Nat.lt_of_lt_of_le w2 hb.size⟩
      have hkl := get_lt ks HK.out.2.2.1 t
      have hwl := get_lt wl HW.out.2.2.1 t
      have HR : Hid (roundsN wl ks (t + 1) q = N8.step ⟨va, vb, vc, vd, ve, vf, vg, vh⟩ (ks.getD t 0) (wl.getD t 0)) := by
        show (roundsN wl ks t q).step _ _ = _
        rw [← HV.out.2.2.2.2]
      generalize ks.getD t 0 = kv at HKV HR hkl
      generalize wl.getD t 0 = wv at HKV HR hwl
      have HL : Hid (kv < 2 ^ 32 ∧ wv < 2 ^ 32) := ⟨hkl, hwl⟩
      clear hkl hwl
      go_wp2
      have v0 := (HKV.out wr (Below.refl _ _)).1
      refine r32 _ _ _ _ _ _ _ _ _ _ _ _ _ _ _ _ _ _ _ _ _ _ _ _ _ _ _ _ _ _ _ _ _ _ _ _ _ _ _ _ _ _ _ _ _ _ _ _ _ _ _ _ _ _ _ _ _ _ _ _ _ _ _ _ _ _ _ _ _ _ _ _ _ _ _ _ _ _ _ _ _ _ _ _ _ _ _ _ _ _ _ _ _ _ _ _ _ _ _ _ _ _ _ _ _ _ _ _ _ _ _ _ _ _ _ _ _ _ _ _ _ _ _ _ _ _ _ _ _ _ _ _ _ _ _ _ _ _ _ _ _ _ _ _ _ _ _ _ _ _ _ _ _ _ _ _ _ _ _ _ _ _ _ _ _ _ _ _ _ _ _ _ _ _ _ _ _ _ _ _ _ _ _ _ _ _ _ _ _ _ _ _ _ _ _ _ _ _ _ _ _ _ _ _ _ _ _ _ _ _ _ _ _ _ _ _ _ _ _ _ _ _ _ _ _ _ _ _ _ _ _ _ _ _ _ _ _ _ _ _ _ _ _ _ _ _ _ _ _ _ _ _ _ _ _ _ _ _ _ _ _ _ _ _ _ _ _ _ _ _ _ _ _ _ _ _ _ _ _ _ _ _ _ wr va ve g' c' v0.1 v0.2.2.2.2.1 _ ?_
      clear v0
      intro _ _ _ _ _ _ w1 hb1
      have H1 : Hid (Below wr.heap.size wr w1) := hb1
      clear hb1
      go_wp2
      obtain ⟨v1, g1, -⟩ := HKV.out w1 H1.out
      obtain ⟨oa, ob, oc, od, oe, of, og, oh⟩ := HV.out.2.2.2.1
      refine r33 _ _ _ _ _ _ _ _ _ _ _ _ _ _ _ _ _ _ _ _ _ _ _ _ _ _ _ _ _ _ _ _ _ _ _ _ _ _ _ _ _ _ _ _ _ _ _ _ _ _ _ _ _ _ _ _ _ _ _ _ _ _ _ _ _ _ _ _ _ _ _ _ _ _ _ _ _ _ _ _ _ _ _ _ _ _ _ _ _ _ _ _ _ _ _ _ _ _ _ _ _ _ _ _ _ _ _ _ _ _ _ _ _ _ _ _ _ _ _ _ _ _ _ _ _ _ _ _ _ _ _ _ _ _ _ _ _ _ _ _ _ _ _ _ _ _ _ _ _ _ _ _ _ _ _ _ _ _ _ _ _ _ _ _ _ _ _ _ _ _ _ _ _ _ _ _ _ _ _ _ _ _ _ _ _ _ _ _ _ _ _ _ _ _ _ _ _ _ _ _ _ _ _ _ _ _ _ _ _ _ _ _ _ _ _ _ _ _ _ _ _ _ _ _ _ _ _ _ _ _ _ _ _ _ _ _ _ _ _ _ _ _ _ _ _ _ _ _ _ _ _ _ _ _ _ _ _ _ _ _ _ _ _ _ _ _ _ _ _ _ _ _ _ _ _ _ _ _ _ _ _ _ w1 ve vf vg g' c' oe of og v1.2.2.2.2.2.1 v1.2.2.2.2.2.2.1 g1 _ ?_
      clear v1 g1 oa ob oc od oe of og oh
      intro _ _ _ _ _ _ _ _ _ _ _ _ _ w2 hb2
      have H2 : Hid (Below wr.heap.size wr w2) := bl_tr H1.out hb2
      clear hb2
      go_wp2
      obtain ⟨v1, g1, ck, kk, cw, ww⟩ := HKV.out w2 H2.out
      obtain ⟨oa, ob, oc, od, oe, of, og, oh⟩ := HV.out.2.2.2.1
      refine r34 _ _ _ _ _ _ _ _ _ _ _ _ _ _ _ _ _ _ _ _ _ _ _ _ _ _ _ _ _ _ _ _ _ _ _ _ _ _ _ _ _ _ _ _ _ _ _ _ _ _ _ _ _ _ _ _ _ _ _ _ _ _ _ _ _ _ _ _ _ _ _ _ _ _ _ _ _ _ _ _ _ _ _ _ _ _ _ _ _ _ _ _ _ _ _ _ _ _ _ _ _ _ _ _ _ _ _ _ _ _ _ _ _ _ _ _ _ _ _ _ _ _ _ _ _ _ _ _ _ _ _ _ _ _ _ _ _ _ _ _ _ _ _ _ _ _ _ _ _ _ _ _ _ _ _ _ _ _ _ _ _ _ _ _ _ _ _ _ _ _ _ _ _ _ _ _ _ _ _ _ _ _ _ _ _ _ _ _ _ _ _ _ _ _ _ _ _ _ _ _ _ _ _ _ _ _ _ _ _ _ _ _ _ _ _ _ _ _ _ _ _ _ _ _ _ _ _ _ _ _ _ _ _ _ _ _ _ _ _ _ _ _ _ _ _ _ _ _ _ _ _ _ _ _ _ _ _ _ _ _ _ _ _ _ _ _ _ _ _ _ _ _ _ _ _ _ _ _ w2 ve vh (chN ve vf vg) kv wv g' c' kb kc wb wc t oe oh (ch_nat ve vf vg oe of og).2 HL.out.1 HL.out.2 hlt v1.2.2.2.2.2.2.2 ck cw g1 kk ww _ ?_
      clear v1 g1 ck kk cw ww oa ob oc od oe of og oh
      intro _ _ _ _ _ _ _ _ _ _ _ _ _ _ _ _ _ _ _ _ _ _ _ _ _ w3 hb3
      have H3 : Hid (Below wr.heap.size wr w3) := bl_tr H2.out hb3
      clear hb3
      go_wp2
      obtain ⟨v1, g1, -⟩ := HKV.out w3 H3.out
      obtain ⟨oa, ob, oc, od, oe, of, og, oh⟩ := HV.out.2.2.2.1
      refine r35 _ _ _ _ _ _ _ _ _ _ _ _ _ _ _ _ _ _ _ _ _ _ _ _ _ _ _ _ _ _ _ _ _ _ _ _ _ _ _ _ _ _ _ _ _ _ _ _ _ _ _ _ _ _ _ _ _ _ _ _ _ _ _ _ _ _ _ _ _ _ _ _ _ _ _ _ _ _ _ _ _ _ _ _ _ _ _ _ _ _ _ _ _ _ _ _ _ _ _ _ _ _ _ _ _ _ _ _ _ _ _ _ _ _ _ _ _ _ _ _ _ _ _ _ _ _ _ _ _ _ _ _ _ _ _ _ _ _ _ _ _ _ _ _ _ _ _ _ _ _ _ _ _ _ _ _ _ _ _ _ _ _ _ _ _ _ _ _ _ _ _ _ _ _ _ _ _ _ _ _ _ _ _ _ _ _ _ _ _ _ _ _ _ _ _ _ _ _ _ _ _ _ _ _ _ _ _ _ _ _ _ _ _ _ _ _ _ _ _ _ _ _ _ _ _ _ _ _ _ _ _ _ _ _ _ _ _ _ _ _ _ _ _ _ _ _ _ _ _ _ _ _ _ _ _ _ _ _ _ _ _ _ _ _ _ _ _ _ _ _ _ _ _ _ _ _ _ _ _ _ _ _ w3 va vb vc g' c' oa ob oc v1.2.1 v1.2.2.1 g1 _ ?_
      clear v1 g1 oa ob oc od oe of og oh
      intro _ _ _ _ _ _ _ _ _ _ _ _ _ _ _ _ _ _ _ w4 hb4
      have H4 : Hid (Below wr.heap.size wr w4) := bl_tr H3.out hb4
      clear hb4
      obtain ⟨HA1, HA2, HA3, HXO, hs1⟩ := r36_facts va (majN va vb vc) HV.out.2.2.2.1.1 (maj_nat va vb vc HV.out.2.2.2.1.1 HV.out.2.2.2.1.2.1 HV.out.2.2.2.1.2.2.1).2
      generalize rightN va 2 = p1 at HA1 HXO
      generalize rightN va 13 = p2 at HA2 HXO
      generalize rightN va 22 = p3 at HA3 HXO
      have HSX : Hid (big0N va + majN va vb vc < 2 ^ 33) := hs1
      have f0 := r36_wrap (big0N va) (majN va vb vc) hs1
      have HSM : Hid (∃ s1, s1 = big0N va + majN va vb vc) := ⟨_, rfl⟩
      obtain ⟨s1, hs1'⟩ := HSM.out
      rw [← hs1'] at f0
      have HSE : Hid (s1 = big0N va + majN va vb vc) := hs1'
      generalize big0N va = bg at HXO f0
      clear hs1 hs1' HSM
      obtain ⟨f1, f2⟩ := f0
      go_wp2_with fail
      refine (HA1.out _).mono ?_
      rintro e w' ⟨rfl, m1, rfl⟩
      go_wp2_with fail
      refine (HA2.out _).mono ?_
      rintro e w' ⟨rfl, m2, rfl⟩
      go_wp2_with fail
      refine (HA3.out _).mono ?_
      rintro e w' ⟨rfl, m3, rfl⟩
      go_wp2_with fail
      refine (HXO.out _ _ (al_atC _ _ _ _ 0 _ rfl rfl) (al_atC _ _ _ _ 1 _ rfl rfl) (al_atC _ _ _ _ 2 _ rfl rfl)).mono ?_
      rintro e w' ⟨rfl, rfl⟩
      go_wp2
      have HBW : Hid (Below w4.heap.size w4 w4) := Below.refl _ _
      refine r37 _ _ _ _ _ _ _ _ _ _ _ _ _ _ _ _ _ _ _ _ _ _ _ _ _ _ _ _ _ _ _ _ _ _ _ _ _ _ _ _ _ _ _ _ _ _ _ _ _ _ _ _ _ _ _ _ _ _ _ _ _ _ _ _ _ _ _ _ _ _ _ _ _ _ _ _ _ _ _ _ _ _ _ _ _ _ _ _ _ _ _ _ _ _ _ _ _ _ _ _ _ _ _ _ _ _ _ _ _ _ _ _ _ _ _ _ _ _ _ _ _ _ _ _ _ _ _ _ _ _ _ _ _ _ _ _ _ _ _ _ _ _ _ _ _ _ _ _ _ _ _ _ _ _ _ _ _ _ _ _ _ _ _ _ _ _ _ _ _ _ _ _ _ _ _ _ _ _ _ _ _ _ _ _ _ _ _ _ _ _ _ _ _ _ _ _ _ _ _ _ _ _ _ _ _ _ _ _ _ _ _ _ _ _ _ _ _ _ _ _ _ _ _ _ _ _ _ _ _ _ _ _ _ _ _ _ _ _ _ _ _ _ _ _ _ _ _ _ _ _ _ _ _ _ _ _ _ _ _ _ _ _ _ _ _ _ _ _ _ _ _ _ _ _ _ _ _ _ _ _ _ _ ⟨va, vb, vc, vd, ve, vf, vg, vh⟩ HV.out.2.2.2.1 ((vh + big1N ve + chN ve vf vg + kv + wv) % 4294967296) s1 g' c' (Nat.mod_lt _ (by decide)) (by rw [HSE.out]; exact HSX.out) ?hv ?hg _ ?_
      case hv => exact (HKV.out _ (bl_tr H4.out (by repeat' (with_reducible (first | exact HBW.out | refine bl_al ?_ _ | refine bl_dn ?_ _ | refine bl_dr ?_))))).1
      case hg => exact (HKV.out _ (bl_tr H4.out (by repeat' (with_reducible (first | exact HBW.out | refine bl_al ?_ _ | refine bl_dn ?_ _ | refine bl_dr ?_))))).2.1
      intro _ _ _ _ _ _ _ _ _ _ _ _ _ _ _ _ _ _ _ _ _ _ _ _ _ _ _ _ _ g6 w6 hv6 hg6 hge6 hb6
      have HGE : Hid (w.heap.size ≤ g6) := Nat.le_trans (bl_tr HV.out.2.2.1 (bl_tr H4.out (by repeat' (with_reducible (first | exact HBW.out | refine bl_al ?_ _ | refine bl_dn ?_ _ | refine bl_dr ?_))))).size hge6
      clear hge6
      have H6 : Hid (Below wr.heap.size wr w6) := bl_tr (bl_tr H4.out (by repeat' (with_reducible (first | exact HBW.out | refine bl_al ?_ _ | refine bl_dn ?_ _ | refine bl_dr ?_)))) hb6
      rw [HSE.out] at hv6
      have HV6 : Hid (VAt w6 g6 (roundsN wl ks (t + 1) q)) := by rw [HR.out]; exact hv6
      clear hb6 hv6 f1 f2
      go_wp2
      refine ⟨⟨t + 1, g6, 8, _, by omega, rfl, rfl, by go_num, HV6.out, hg6, Or.inr HGE.out, bl_tr HV.out.2.2.1 H6.out⟩, by simp [intOf]; omega⟩
    · obtain rfl : t = 64 := by omega
      go_wp2
      obtain ⟨h1, h2, h3, h4, h5⟩ := HV.out
      exact HX.out _ _ _ _ _ _ _ _ _ _ _ _ _ _ _ _ _ _ _ _ _ _ _ _ _ _ _ _ _ _ _ _ _ _ _ _ _ _ _ _ _ _ _ _ _ _ _ _ _ _ _ _ _ _ _ _ _ _ _ _ _ _ _ _ _ _ _ _ _ _ _ _ _ _ _ _ _ _ _ _ _ _ _ _ _ _ _ _ _ _ _ _ _ _ _ _ _ _ _ _ _ _ _ _ _ _ _ _ _ _ _ _ _ _ _ _ (by rw [← h5]; exact h1) h2 HGO.out h3
end Go.Proofs.YtefdfcjohkndgaaGreatDoor
