/- What the document's own CheckNodes, Rise and PackNodes answer. -/
import Derived.Deep.RegionHeld3
import Derived.Deep.DeepHandedRow
import Derived.SliceStrings
import Derived.Deep.AppendLies
import Derived.Test.YtcdgdmhlbgbklaaGreatDoorTie
import Derived.Test.YtcdgdmhlbgbklaaGreatDoorCards
import Derived.ProofKit
import Derived.OpenShut
import Derived.ShutString
import Derived.ChangeOld
import Derived.Below
import Derived.Lay
import Derived.HandedShaped
import Derived.SevenTiedAt
import Derived.Stop.Joined
import Derived.Shelf.Vars
import Derived.Test.YtcdgdmhlbgbklaaGreatDoorTg9
namespace Go.Proofs.YtcdgdmhlbgbklaaGreatDoor
open Go.RowKit Go.Shelf

theorem leq_lss : ∀ (y x : List UInt8), (Op.bytesLess y x || y == x) = !Op.bytesLess x y
  | [], [] => rfl
  | [], _ :: _ => rfl
  | _ :: _, [] => rfl
  | a :: y, b :: x => by
    have ih := leq_lss y x
    have h1 : (a < b) = (a.toNat < b.toNat) := rfl
    have h2 : (b < a) = (b.toNat < a.toNat) := rfl
    unfold Op.bytesLess
    rcases Nat.lt_trichotomy a.toNat b.toNat with h | h | h
    · have hne : a ≠ b := fun e => by rw [e] at h; omega
      have h3 : ¬ b.toNat < a.toNat := by omega
      simp [h1, h2, h, h3, hne.symm]
    · obtain rfl : a = b := UInt8.toNat_inj.1 h
      simp [h1] at ih ⊢
      exact ih
    · have hne : a ≠ b := fun e => by rw [e] at h; omega
      have h3 : ¬ a.toNat < b.toNat := by omega
      simp [h1, h2, h, h3, hne]
theorem less_cls (a b : ByteArray) : (less a b = true ∧ Op.bytesLess b.toList a.toList = false ∧ (b.toList == a.toList) = false) ∨ (less a b = false ∧ Op.bytesLess b.toList a.toList = true) ∨ (less a b = false ∧ Op.bytesLess b.toList a.toList = false ∧ (b.toList == a.toList) = true) := by
  have h := leq_lss b.toList a.toList
  unfold less
  cases h1 : Op.bytesLess a.toList b.toList <;> cases h2 : Op.bytesLess b.toList a.toList <;> cases h3 : (b.toList == a.toList) <;> simp_all

set_option maxHeartbeats 2000000 in
set_option maxRecDepth 100000 in
theorem packnodes_some (B g o cap : Nat) (ns : List Nd) (w : World) (hok : okDs ns) (hg : g < B) (hB : B ≤ w.heap.size) (hc : NdAt g o ns w) :
    Calls Tryz.prog 78 #[.slice (some ⟨g, o, none⟩) ns.length cap] w fun e w' => e = .returned (.string ⟨(pk ns.length ++ pkDD ns).toArray⟩) ∧ Below B w w' := by
  have HC : Hid (NdAt g o ns w) := hc
  have HS : Hid _ := hok.2
  have HT : Hid _ := pkDs_len ns hok
  have hn := hok.1
  have hn1 : (ns.length : Int) ≤ 60 := by omega
  clear hc hok
  go_enter Tryz.func78, Tryz.ntmps78
  go_wp2_with fail
  refine (packn_any ns.length ns.length w (Nat.le_refl _) (by omega)).mono ?_
  rintro e w1 ⟨rfl, hb1⟩
  have B1 : Hid (Below B w w1) := hb1.mono hB
  clear hb1
  go_wp2_with fail
  go_loopw [3, 4] (fun s i wr => ∃ k : Nat, k ≤ ns.length ∧ i = .int .i64 k ∧ s = .string ⟨(pk ns.length ++ pkDD (ns.take k)).toArray⟩ ∧ Below B w wr) (fun _ i _ => ns.length - (intOf i).toNat)
  case atStart => exact ⟨0, Nat.zero_le _, rfl, by simp [pkDD], B1.out⟩
  case round =>
    obtain ⟨k, hk, rfl, rfl, hb⟩ := hrel
    have H3 : Hid (Below B w wr) := hb
    have hsz := hb.size
    by_cases hlt : k < ns.length
    · obtain ⟨a0, a1, a2⟩ := HC.out.below hb hg k hlt
      have hsp : pkDD (ns.take (k + 1)) = pkDD (ns.take k) ++ pkD ns[k] := by rw [List.take_succ_eq_append_getElem hlt, pkDD_append]; simp [pkDD]
      have hle : (pkDD (ns.take (k + 1))).length ≤ (pkDD ns).length := by
        have e1 : pkDD ns = pkDD (ns.take (k + 1)) ++ pkDD (ns.drop (k + 1)) := by rw [← pkDD_append, List.take_append_drop]
        rw [e1, List.length_append]
        omega
      have ho := HS.out _ (List.getElem_mem hlt)
      have hadd : ∀ W : World, (Op.stringOp .add ⟨(pk ns.length ++ pkDD (ns.take k)).toArray⟩ ⟨(pkD ns[k]).toArray⟩).run Tryz.prog W = .ok (.string ⟨(pk ns.length ++ pkDD (ns.take (k + 1))).toArray⟩) W := fun W => by
        rw [addll _ _ (by have := HT.out; rw [hsp] at hle; simp only [List.length_append] at *; omega) W, hsp, List.append_assoc]
      generalize hx : ns[k] = x at a0 a1 a2 ho hsp hadd
      obtain ⟨xa, xk, xd⟩ := x
      obtain ⟨o1, o2, o3, o4⟩ := ho
      simp only at a0 a1 a2 o1 o2 o3 o4
      obtain ⟨xn, rfl⟩ : ∃ n : Nat, xk = n := ⟨xk.toNat, by omega⟩
      have l1 := pkT_len xa o1
      have l2 := pkT_len xd o4
      have l3 := pk_len8 xn (by omega)
      have hadd1 : ∀ W : World, (Op.stringOp .add ⟨(pkT xa).toArray⟩ ⟨(pk xn).toArray⟩).run Tryz.prog W = .ok (.string ⟨(pkT xa ++ pk xn).toArray⟩) W := addll _ _ (by omega)
      have hadd2 : ∀ W : World, (Op.stringOp .add ⟨(pkT xa ++ pk xn).toArray⟩ ⟨(pkT xd).toArray⟩).run Tryz.prog W = .ok (.string ⟨(pkD (xa, (xn : Int), xd)).toArray⟩) W := fun W => by
        rw [addll _ _ (by rw [List.length_append]; omega) W]
        simp only [pkD, List.append_assoc, Int.toNat_natCast]
      have O1 : Hid (xa.size ≤ 9007199254740991) := by show _ ≤ _; omega
      have O2 : Hid (xn ≤ 9007199254740991) := by show _ ≤ _; omega
      have O3 : Hid (xd.size ≤ 9007199254740991) := by show _ ≤ _; omega
      have hgr : g < wr.heap.size := by omega
      have i2 : (k : Int) < ns.length := by omega
      clear hsp hb hle hx o1 o2 o3 o4 l1 l2 l3
      go_wp2_with fail
      go_region_held3 (fun w' => w'.cell? ⟨g, o + k * 3, none⟩ = some (.string xa) ∧ w'.cell? ⟨g, o + k * 3 + 1, none⟩ = some (.int .i64 xn) ∧ w'.cell? ⟨g, o + k * 3 + 2, none⟩ = some (.string xd) ∧ g < w'.heap.size)
        (first | (simp [go_sem, *]; done) | (go_split_ands; refine ⟨?_, ?_, ?_, ?_⟩ <;> first | (exact Nat.lt_of_lt_of_le (by assumption) hb4.size) | (rw [hb4.cell (p := ⟨g, _, none⟩) (by assumption)]; assumption) | (exact Nat.lt_of_lt_of_le (by assumption) hb3.size) | (rw [hb3.cell (p := ⟨g, _, none⟩) (by assumption)]; assumption) | (exact Nat.lt_of_lt_of_le (by assumption) hb2.size) | (rw [hb2.cell (p := ⟨g, _, none⟩) (by assumption)]; assumption)))
        (first
          | (go_at_call_of 133 (Value.string xa); refine (packtext_any xa _ O1.out).mono ?_; rintro e w2 ⟨rfl, hb2⟩)
          | (go_at_call 132; refine (packn_any xn xn _ (Nat.le_refl _) O2.out).mono ?_; rintro e w3 ⟨rfl, hb3⟩)
          | (go_at_call_of 133 (Value.string xd); refine (packtext_any xd _ O3.out).mono ?_; rintro e w4 ⟨rfl, hb4⟩))
      have hb5 : Below B w w4 := by
        have b0 : Below B w wr.drew := H3.out.drew
        have b1 := b0.trans (hb2.mono (Nat.le_trans hB b0.size))
        have b2 := b1.trans (hb3.mono (Nat.le_trans hB b1.size))
        exact b2.trans (hb4.mono (Nat.le_trans hB b2.size))
      have HB5 : Hid _ := hb5
      clear hb2 hb3 hb4 hb5
      go_wp2
      exact ⟨⟨k + 1, by omega, by go_num, rfl, HB5.out⟩, by simp [intOf]; omega⟩
    · obtain rfl : k = ns.length := by omega
      clear hb
      go_wp2
      go_ret
      exact ⟨by simp, H3.out⟩

set_option maxHeartbeats 1000000 in
set_option maxRecDepth 100000 in
theorem packnodes_zero (a : Option Addr) (cap : Nat) (w : World) :
    Calls Tryz.prog 78 #[.slice a 0 cap] w fun e w' => e = .returned (.string ⟨(pk 0 ++ pkDD []).toArray⟩) ∧ Below w.heap.size w w' := by
  go_enter Tryz.func78, Tryz.ntmps78
  go_wp2_with fail
  refine (packn_any 0 0 w (Nat.le_refl _) (by decide)).mono ?_
  rintro e w1 ⟨rfl, hb1⟩
  go_wp2_with fail
  refine wp_loop_rounds 1 ?_
  rw [rounds_succ]
  go_wp2
  go_ret
  exact ⟨by simp [pkDD], hb1⟩

theorem packnodes_any (v : Value) (ns : List Nd) (w : World) (hok : okDs ns) (h : OldNodes w.heap.size w v ns) :
    Calls Tryz.prog 78 #[v] w fun e w' => e = .returned (.string ⟨(pk ns.length ++ pkDD ns).toArray⟩) ∧ Below w.heap.size w w' := by
  obtain ⟨a, cap, rfl, hs⟩ := h
  rcases hs with rfl | ⟨g, o, rfl, hg, hc⟩
  · exact packnodes_zero a cap w
  · exact packnodes_some w.heap.size g o cap ns w hok hg (Nat.le_refl _) hc
end Go.Proofs.YtcdgdmhlbgbklaaGreatDoor

/- The document's Directory, whole. -/
namespace Go.Proofs.YtcdgdmhlbgbklaaGreatDoor
open Go.RowKit Go.Shelf Go.Maps Go.WideMaps Go.Sort
attribute [local go_sem ↓] appS_eq

theorem hs_size {S : List Fl} (h : okT S) {m : List UInt8} (hm : m ∈ hs S) : m.length ≤ 100 := by
  obtain ⟨f, hf, rfl⟩ := (hs_mem _ _).1 hm
  have h1 := fl_le h hf
  have h2 : (pth f).length = f.pa.size := Array.length_toList
  unfold hdF
  cases hsl : sl (pth f) with
  | none => simp only; omega
  | some x =>
    have e := congrArg List.length (sl_some (a := x.1) (b := x.2) hsl).1
    rw [List.length_append] at e
    simp only
    omega
theorem dir_small {L : List Fl} (hL : okT L) (d : ByteArray) (hS : okT (dv d L)) {m : List UInt8} (hm : m ∈ names (dv d L)) : (pj d m).size ≤ 100 := by
  have hm2 := name_in hm
  have e := dv_sub d L m (hs_slash hm2) (hs_ne hS hm2)
  obtain ⟨f, hf, hd, hh⟩ := (names_mem _ _).1 hm
  have h1 : subF f ∈ sub m (dv d L) := List.mem_map.2 ⟨f, List.mem_filter.2 ⟨hf, by rw [hd, hh]; simp⟩, rfl⟩
  rw [← e] at h1
  unfold dv at h1
  rw [if_neg (pj_ne d (hs_ne hS hm2))] at h1
  obtain ⟨g, hg, _⟩ := List.mem_map.1 h1
  rw [List.mem_filter] at hg
  have h2 := inB_lt hg.2
  have h3 := fl_le hL hg.1
  omega
theorem pj_add (d : ByteArray) (m : List UInt8) (hd : ¬ d.data.toList = []) : d ++ (⟨#[47]⟩ : ByteArray) ++ ⟨m.toArray⟩ = pj d m := by
  refine bytes_ext ?_
  rw [pj_list, if_neg hd]
  simp
/-- How it stands behind so many names. -/
def DmI (n : Nat) (L : List Fl) (d : ByteArray) (w0 : World) (hv : Value) (k : Nat) (nv tv : Value) (wr : World) : Prop := DrS w0 (hs (dv d L)) (((hs (dv d L)).take k).map (ndD n L d)) (((hs (dv d L)).take k).flatMap (adD n L d)) hv nv tv wr

set_option maxHeartbeats 16000000 in
set_option maxRecDepth 100000 in
theorem mainL (x2 x3 x4 x5 x7 x8 x12 x13 x14 x15 x16 x17 x18 x19 x20 x21 x22 x23 x24 x25 x26 x27 x28 x29 x30 x31 x32 x33 x34 x35 x36 x37 x38 x39 x40 x41 x42 x43 x44 x45 x46 x47 x48 x49 x50 x51 x52 x53 x54 x55 x56 x57 x58 x59 x60 x61 x62 x63 x64 x65 x66 x67 x68 x69 x70 x71 x72 x73 x74 x75 x76 x77 x78 x79 x80 x81 x82 x83 x84 x85 x86 x87 x88 x89 x90 x91 x92 x93 x94 x95 x96 x97 x98 x99 x100 x101 x102 x103 x104 x105 x106 x107 x108 x109 x110 x111 x112 x113 x114 x115 x116 x117 x118 x119 x120 x121 x122 x123 x124 x125 x126 x127 : Value) (n : Nat) (hn : n ≤ 100) (ao : Option Addr) (cap : Nat) (L : List Fl) (d : ByteArray) (w0 w : World) (hv : Value) (hL : IsFl w0 ao L) (hok : okT L) (hS : okT (dv d L)) (hz : ∀ f ∈ dv d L, f.pa.size < n + 1) (hd : d.size ≤ 100)
    (hI : DmI n L d w0 hv 0 (.slice none 0 0) (.slice none 0 0) w)
    (hD : ∀ m ∈ names (dv d L), ∀ W, Below w0.heap.size w0 W → Calls Tryz.prog 32 #[.slice ao L.length cap, .string (pj d m)] W (DjP (dirF smD n (sub m (dv d L))).1 (mrT n (dv d L) m) W)) (Q0 : Exit → Act → World → Prop)
    (hexit : ∀ (u9 u10 u11 u12 u13 u14 u15 u16 u17 u18 u47 u48 u49 u50 u51 u52 u53 u54 u55 u56 u57 u58 u59 u60 u61 u62 u63 u64 u65 u66 u67 u68 u69 u70 u71 u72 u73 u74 u75 u76 u77 u78 u79 u80 u81 u82 u83 u84 u85 u86 u87 u88 u89 u90 u91 u92 u93 u94 u95 u96 u97 u98 u99 u100 u101 u102 u103 u104 u105 u106 u107 u108 u109 u110 u111 u112 u113 u114 u115 u116 u117 u118 u119 u120 u121 u122 u123 u124 : Value) (w' : World), Hid (DmI n L d w0 hv (hs (dv d L)).length u9 u10 w') → Q0 (.exit 2) ⟨#[.slice ao L.length cap, .string d, x2, x3, x4, x5, hv, x7, x8, u9, u10, u11, u12, u13, u14, u15, u16, u17, u18, x19, x20, x21, x22, x23, x24, x25, x26, x27, x28, x29, x30, x31, x32, x33, x34, x35, x36, x37, x38, x39, x40, x41, x42, x43, x44, x45, x46, u47, u48, u49, u50, u51, u52, u53, u54, u55, u56, u57, u58, u59, u60, u61, u62, u63, u64, u65, u66, u67, u68, u69, u70, u71, u72, u73, u74, u75, u76, u77, u78, u79, u80, u81, u82, u83, u84, u85, u86, u87, u88, u89, u90, u91, u92, u93, u94, u95, u96, u97, u98, u99, u100, u101, u102, u103, u104, u105, u106, u107, u108, u109, u110, u111, u112, u113, u114, u115, u116, u117, u118, u119, u120, u121, u122, u123, u124, x125, x126, x127], []⟩ w') :
    Code.wp Tryz.prog (subC [true, true, true, true, true, false, true, false] (Tryz.f32.body.getD .skip)) Q0 ⟨#[.slice ao L.length cap, .string d, x2, x3, x4, x5, hv, x7, x8, .slice none 0 0, .slice none 0 0, .int .i64 0, x12, x13, x14, x15, x16, x17, x18, x19, x20, x21, x22, x23, x24, x25, x26, x27, x28, x29, x30, x31, x32, x33, x34, x35, x36, x37, x38, x39, x40, x41, x42, x43, x44, x45, x46, x47, x48, x49, x50, x51, x52, x53, x54, x55, x56, x57, x58, x59, x60, x61, x62, x63, x64, x65, x66, x67, x68, x69, x70, x71, x72, x73, x74, x75, x76, x77, x78, x79, x80, x81, x82, x83, x84, x85, x86, x87, x88, x89, x90, x91, x92, x93, x94, x95, x96, x97, x98, x99, x100, x101, x102, x103, x104, x105, x106, x107, x108, x109, x110, x111, x112, x113, x114, x115, x116, x117, x118, x119, x120, x121, x122, x123, x124, x125, x126, x127], []⟩ w := by
  have HX : Hid (∀ (u9 u10 u11 u12 u13 u14 u15 u16 u17 u18 u47 u48 u49 u50 u51 u52 u53 u54 u55 u56 u57 u58 u59 u60 u61 u62 u63 u64 u65 u66 u67 u68 u69 u70 u71 u72 u73 u74 u75 u76 u77 u78 u79 u80 u81 u82 u83 u84 u85 u86 u87 u88 u89 u90 u91 u92 u93 u94 u95 u96 u97 u98 u99 u100 u101 u102 u103 u104 u105 u106 u107 u108 u109 u110 u111 u112 u113 u114 u115 u116 u117 u118 u119 u120 u121 u122 u123 u124 : Value) (w' : World), Hid (DmI n L d w0 hv (hs (dv d L)).length u9 u10 w') → Q0 (.exit 2) ⟨#[.slice ao L.length cap, .string d, x2, x3, x4, x5, hv, x7, x8, u9, u10, u11, u12, u13, u14, u15, u16, u17, u18, x19, x20, x21, x22, x23, x24, x25, x26, x27, x28, x29, x30, x31, x32, x33, x34, x35, x36, x37, x38, x39, x40, x41, x42, x43, x44, x45, x46, u47, u48, u49, u50, u51, u52, u53, u54, u55, u56, u57, u58, u59, u60, u61, u62, u63, u64, u65, u66, u67, u68, u69, u70, u71, u72, u73, u74, u75, u76, u77, u78, u79, u80, u81, u82, u83, u84, u85, u86, u87, u88, u89, u90, u91, u92, u93, u94, u95, u96, u97, u98, u99, u100, u101, u102, u103, u104, u105, u106, u107, u108, u109, u110, u111, u112, u113, u114, u115, u116, u117, u118, u119, u120, u121, u122, u123, u124, x125, x126, x127], []⟩ w') := hexit
  have HI0 : Hid (DmI n L d w0 hv 0 (.slice none 0 0) (.slice none 0 0) w) := hI
  have HD : Hid (∀ m ∈ names (dv d L), ∀ W, Below w0.heap.size w0 W → Calls Tryz.prog 32 #[.slice ao L.length cap, .string (pj d m)] W (DjP (dirF smD n (sub m (dv d L))).1 (mrT n (dv d L) m) W)) := hD
  have HP : Hid (IsFl w0 ao L ∧ okT L ∧ okT (dv d L) ∧ (∀ f ∈ dv d L, f.pa.size < n + 1) ∧ n ≤ 100) := ⟨hL, hok, hS, hz, hn⟩
  have HHl : Hid ((hs (dv d L)).length ≤ 60) := Nat.le_trans (hs_len _) hS.1
  have hhi : ((hs (dv d L)).length : Int) ≤ 60 := by have := HHl.out; omega
  have hd2 : (d.size : Int) ≤ 100 := by omega
  obtain ⟨ha, hc, hvv⟩ := own_shape hI.names
  subst hvv
  clear hexit hL hok hS hz hI hD hn
  conv => arg 2; whnf
  dsimp only
  go_loopw [9, 10, 11] (fun nv tv i wr => ∃ k : Nat, k ≤ (hs (dv d L)).length ∧ i = .int .i64 (k : Int) ∧ Hid (DmI n L d w0 (.slice ha (hs (dv d L)).length hc) k nv tv wr)) (fun _ _ i _ => (hs (dv d L)).length - (RowKit.intOf i).toNat)
  case atStart => exact ⟨0, Nat.zero_le _, rfl, HI0⟩
  case round =>
    obtain ⟨k, hk, rfl, HI⟩ := hrel
    clear HI0
    by_cases hlt : k < (hs (dv d L)).length
    · have hki : (k : Int) < ((hs (dv d L)).length : Int) := by omega
      obtain ⟨k1, hk1⟩ : ∃ k1, k1 = k + 1 := ⟨_, rfl⟩
      have ek1 : (k : Int) + 1 = (k1 : Int) := by omega
      have ek2 : IntKind.i64.wrap (k1 : Int) = (k1 : Int) := by rw [IntKind.wrap_i64]; have := HHl.out; omega
      have HK1 : Hid (k1 = k + 1 ∧ k < (hs (dv d L)).length) := ⟨hk1, hlt⟩
      obtain ⟨hg, hc', hv', _, _⟩ := HI.out.names.form (by omega)
      cases hv'
      have c0 : wr.cell? ⟨hg, k, none⟩ = some (.string ⟨((hs (dv d L))[k]).toArray⟩) := by
        refine (HI.out.names.cellAt k (by omega)).trans ?_
        rw [List.getElem?_map, List.getElem?_eq_getElem hlt]
        rfl
      have hmem : (hs (dv d L))[k] ∈ hs (dv d L) := List.getElem_mem hlt
      obtain ⟨hL, hok, hS, hz, hn⟩ := HP.out
      have hml := hs_size hS hmem
      have hmz : ((⟨((hs (dv d L))[k]).toArray⟩ : ByteArray).size : Int) ≤ 100 := by
        have : (⟨((hs (dv d L))[k]).toArray⟩ : ByteArray).size = ((hs (dv d L))[k]).length := rfl
        omega
      obtain ⟨YB, hYB⟩ : ∃ YB, YB = (subC [true, true, true, true, true, false, true, false, false, true, false, false, true, true] (Tryz.f32.body.getD .skip)) := ⟨_, rfl⟩
      have HYB : Hid (YB = (subC [true, true, true, true, true, false, true, false, false, true, false, false, true, true] (Tryz.f32.body.getD .skip))) := hYB
      have hlB : (subC [true, true, true, true, true, false, true, false, false, true, false, false, true, true] (Tryz.f32.body.getD .skip)) = YB := hYB.symm
      conv at hlB => lhs; whnf
      rw [hlB]
      -- what this name comes to
      have hA1 := adK_len n d hS (by omega) k (by have := HHl.out; omega)
      have hM1 := mrT_len n hS ((hs (dv d L))[k]) (by omega)
      have hnd : (((hs (dv d L)).take k).map (ndD n L d)).length ≤ 1000 := by
        rw [List.length_map, List.length_take]
        have := HHl.out
        omega
      have hT1 : (dirF smD n (sub ((hs (dv d L))[k]) (dv d L))).1.size ≤ 140737488351300 := by
        cases n with
        | zero => show (⟨#[]⟩ : ByteArray).size ≤ _; decide
        | succ j =>
          have := txN_size smD smD_dig j (okT_sub hS ((hs (dv d L))[k]))
          omega
      have hkx : (ktF L (pj d (hs (dv d L))[k]).data.toList).2.size ≤ 140737488351300 := by
        rcases hs_cases d hok hS hmem with ⟨f, hf, _, _, e⟩ | ⟨_, e⟩
        · rw [e]
          have := (flE_pa (hS.2.1 f hf)).2
          show f.tx.size ≤ _
          omega
        · rw [e]
          decide
      have hDm : (ktF L (pj d (hs (dv d L))[k]).data.toList).1 = 3 → ∀ W, Below w0.heap.size w0 W → Calls Tryz.prog 32 #[.slice ao L.length cap, .string (pj d (hs (dv d L))[k])] W (DjP (dirF smD n (sub ((hs (dv d L))[k]) (dv d L))).1 (mrT n (dv d L) ((hs (dv d L))[k])) W) := fun e => by
        rcases hs_cases d hok hS hmem with ⟨f, hf, _, _, e2⟩ | ⟨hm2, _⟩
        · rw [e2] at e
          exact absurd e (kd_ne _)
        · exact HD.out _ hm2
      have HB : Hid (∀ (x1 x2 x3 x4 x5 x7 x8 x13 x14 x15 x16 x17 x18 x19 x20 x21 x22 x23 x24 x25 x26 x27 x28 x29 x30 x31 x32 x33 x34 x35 x36 x37 x38 x39 x40 x41 x42 x43 x44 x45 x46 x47 x48 x49 x50 x51 x52 x53 x54 x55 x56 x57 x58 x59 x60 x61 x62 x63 x64 x65 x66 x67 x68 x69 x70 x71 x72 x73 x74 x75 x76 x77 x78 x79 x80 x81 x82 x83 x84 x85 x86 x87 x88 x89 x90 x91 x92 x93 x94 x95 x96 x97 x98 x99 x100 x101 x102 x103 x104 x105 x106 x107 x108 x109 x110 x111 x112 x113 x114 x115 x116 x117 x118 x119 x120 x121 x122 x123 x124 x125 x126 x127 : Value) (Q0 : Exit → Act → World → Prop) (hexit : ∀ (u9 u10 u13 u14 u15 u16 u17 u18 u63 u64 u65 u66 u67 u68 u69 u70 u71 u72 u73 u74 u75 u76 u77 u78 u79 u80 u81 u82 u83 u84 u85 u86 u87 u88 u89 u90 u91 u92 u93 u94 u95 u96 u97 u98 u99 u100 u101 u102 u103 u104 u105 u106 u107 u108 u109 u110 u111 u112 u113 u114 u115 u116 u117 u118 u119 u120 u121 u122 u123 u124 : Value) (w' : World), Hid (DmI n L d w0 (.slice (some ⟨hg, 0, none⟩) (hs (dv d L)).length hc) (k + 1) u9 u10 w') → Q0 .normal ⟨#[.slice ao L.length cap, x1, x2, x3, x4, x5, .slice (some ⟨hg, 0, none⟩) (hs (dv d L)).length hc, x7, x8, u9, u10, .int .i64 (k : Int), .string (pj d (hs (dv d L))[k]), u13, u14, u15, u16, u17, u18, x19, x20, x21, x22, x23, x24, x25, x26, x27, x28, x29, x30, x31, x32, x33, x34, x35, x36, x37, x38, x39, x40, x41, x42, x43, x44, x45, x46, x47, x48, x49, x50, x51, x52, x53, x54, x55, x56, x57, x58, x59, x60, x61, x62, u63, u64, u65, u66, u67, u68, u69, u70, u71, u72, u73, u74, u75, u76, u77, u78, u79, u80, u81, u82, u83, u84, u85, u86, u87, u88, u89, u90, u91, u92, u93, u94, u95, u96, u97, u98, u99, u100, u101, u102, u103, u104, u105, u106, u107, u108, u109, u110, u111, u112, u113, u114, u115, u116, u117, u118, u119, u120, u121, u122, u123, u124, x125, x126, x127], []⟩ w'),
          Code.wp Tryz.prog YB Q0 ⟨#[.slice ao L.length cap, x1, x2, x3, x4, x5, .slice (some ⟨hg, 0, none⟩) (hs (dv d L)).length hc, x7, x8, u9, u10, .int .i64 (k : Int), .string (pj d (hs (dv d L))[k]), x13, x14, x15, x16, x17, x18, x19, x20, x21, x22, x23, x24, x25, x26, x27, x28, x29, x30, x31, x32, x33, x34, x35, x36, x37, x38, x39, x40, x41, x42, x43, x44, x45, x46, x47, x48, x49, x50, x51, x52, x53, x54, x55, x56, x57, x58, x59, x60, x61, x62, x63, x64, x65, x66, x67, x68, x69, x70, x71, x72, x73, x74, x75, x76, x77, x78, x79, x80, x81, x82, x83, x84, x85, x86, x87, x88, x89, x90, x91, x92, x93, x94, x95, x96, x97, x98, x99, x100, x101, x102, x103, x104, x105, x106, x107, x108, x109, x110, x111, x112, x113, x114, x115, x116, x117, x118, x119, x120, x121, x122, x123, x124, x125, x126, x127], []⟩ wr) := by
        intro x1 x2 x3 x4 x5 x7 x8 x13 x14 x15 x16 x17 x18 x19 x20 x21 x22 x23 x24 x25 x26 x27 x28 x29 x30 x31 x32 x33 x34 x35 x36 x37 x38 x39 x40 x41 x42 x43 x44 x45 x46 x47 x48 x49 x50 x51 x52 x53 x54 x55 x56 x57 x58 x59 x60 x61 x62 x63 x64 x65 x66 x67 x68 x69 x70 x71 x72 x73 x74 x75 x76 x77 x78 x79 x80 x81 x82 x83 x84 x85 x86 x87 x88 x89 x90 x91 x92 x93 x94 x95 x96 x97 x98 x99 x100 x101 x102 x103 x104 x105 x106 x107 x108 x109 x110 x111 x112 x113 x114 x115 x116 x117 x118 x119 x120 x121 x122 x123 x124 x125 x126 x127 Q0 hexit
        rw [hYB]
        refine bodyL x1 x2 x3 x4 x5 x7 x8 x13 x14 x15 x16 x17 x18 x19 x20 x21 x22 x23 x24 x25 x26 x27 x28 x29 x30 x31 x32 x33 x34 x35 x36 x37 x38 x39 x40 x41 x42 x43 x44 x45 x46 x47 x48 x49 x50 x51 x52 x53 x54 x55 x56 x57 x58 x59 x60 x61 x62 x63 x64 x65 x66 x67 x68 x69 x70 x71 x72 x73 x74 x75 x76 x77 x78 x79 x80 x81 x82 x83 x84 x85 x86 x87 x88 x89 x90 x91 x92 x93 x94 x95 x96 x97 x98 x99 x100 x101 x102 x103 x104 x105 x106 x107 x108 x109 x110 x111 x112 x113 x114 x115 x116 x117 x118 x119 x120 x121 x122 x123 x124 x125 x126 x127 ao cap L (pj d (hs (dv d L))[k]) w0 wr (hs (dv d L)) _ (mrT n (dv d L) ((hs (dv d L))[k])) _ _ u9 u10 k hlt HHl.out (dirF smD n (sub ((hs (dv d L))[k]) (dv d L))).1 HI.out hL hok.1 _ _ rfl hDm hT1 hkx (by omega) hnd Q0 ?_
        intro u9 u10 u13 u14 u15 u16 u17 u18 u63 u64 u65 u66 u67 u68 u69 u70 u71 u72 u73 u74 u75 u76 u77 u78 u79 u80 u81 u82 u83 u84 u85 u86 u87 u88 u89 u90 u91 u92 u93 u94 u95 u96 u97 u98 u99 u100 u101 u102 u103 u104 u105 u106 u107 u108 u109 u110 u111 u112 u113 u114 u115 u116 u117 u118 u119 u120 u121 u122 u123 u124 w' H
        refine hexit u9 u10 u13 u14 u15 u16 u17 u18 u63 u64 u65 u66 u67 u68 u69 u70 u71 u72 u73 u74 u75 u76 u77 u78 u79 u80 u81 u82 u83 u84 u85 u86 u87 u88 u89 u90 u91 u92 u93 u94 u95 u96 u97 u98 u99 u100 u101 u102 u103 u104 u105 u106 u107 u108 u109 u110 u111 u112 u113 u114 u115 u116 u117 u118 u119 u120 u121 u122 u123 u124 w' ?_
        have e1 : ((hs (dv d L)).take (k + 1)).map (ndD n L d) = ((hs (dv d L)).take k).map (ndD n L d) ++ [ndD n L d ((hs (dv d L))[k])] := by
          rw [List.take_succ_eq_append_getElem hlt, List.map_append]
          rfl
        have e2 : ((hs (dv d L)).take (k + 1)).flatMap (adD n L d) = ((hs (dv d L)).take k).flatMap (adD n L d) ++ adD n L d ((hs (dv d L))[k]) := by
          rw [List.take_succ_eq_append_getElem hlt, List.flatMap_append]
          simp
        show DrS _ _ _ _ _ _ _ _
        rw [e1, e2]
        exact H.out
      clear hlB hYB hA1 hM1 hnd hT1 hkx hDm hL hok hS hz hn hmem hk1 HD HI hml
      by_cases hd0 : d.data.toList = []
      · obtain rfl : d = ⟨#[]⟩ := bytes_ext hd0
        have epj : pj ⟨#[]⟩ (hs (dv ⟨#[]⟩ L))[k] = ⟨((hs (dv ⟨#[]⟩ L))[k]).toArray⟩ := if_pos rfl
        rw [epj] at HB
        generalize (⟨((hs (dv ⟨#[]⟩ L))[k]).toArray⟩ : ByteArray) = nm at *
        clear hd0 epj hk hlt
        go_wp2
        refine HB.out _ _ _ _ _ _ _ _ _ _ _ _ _ _ _ _ _ _ _ _ _ _ _ _ _ _ _ _ _ _ _ _ _ _ _ _ _ _ _ _ _ _ _ _ _ _ _ _ _ _ _ _ _ _ _ _ _ _ _ _ _ _ _ _ _ _ _ _ _ _ _ _ _ _ _ _ _ _ _ _ _ _ _ _ _ _ _ _ _ _ _ _ _ _ _ _ _ _ _ _ _ _ _ _ _ _ _ _ _ _ _ _ _ _ _ _ _ _ _ _ _ _ _ ?_
        intro u9 u10 u13 u14 u15 u16 u17 u18 u63 u64 u65 u66 u67 u68 u69 u70 u71 u72 u73 u74 u75 u76 u77 u78 u79 u80 u81 u82 u83 u84 u85 u86 u87 u88 u89 u90 u91 u92 u93 u94 u95 u96 u97 u98 u99 u100 u101 u102 u103 u104 u105 u106 u107 u108 u109 u110 u111 u112 u113 u114 u115 u116 u117 u118 u119 u120 u121 u122 u123 u124 w2 H2
        go_wp2
        refine ⟨⟨k1, by have := HK1.out; omega, rfl, by rw [HK1.out.1]; exact H2⟩, ?_⟩
        have := HK1.out
        simp [RowKit.intOf]; omega
      · have epj := pj_add d (hs (dv d L))[k] hd0
        rw [← epj] at HB
        have hdn : (d.toList == []) = false := by rw [Lib.toList_data]; simpa using hd0
        have hde : ¬ d.toList = [] := by rw [Lib.toList_data]; exact hd0
        generalize (⟨((hs (dv d L))[k]).toArray⟩ : ByteArray) = nm at *
        clear hd0 epj hk hlt
        go_wp2
        refine HB.out _ _ _ _ _ _ _ _ _ _ _ _ _ _ _ _ _ _ _ _ _ _ _ _ _ _ _ _ _ _ _ _ _ _ _ _ _ _ _ _ _ _ _ _ _ _ _ _ _ _ _ _ _ _ _ _ _ _ _ _ _ _ _ _ _ _ _ _ _ _ _ _ _ _ _ _ _ _ _ _ _ _ _ _ _ _ _ _ _ _ _ _ _ _ _ _ _ _ _ _ _ _ _ _ _ _ _ _ _ _ _ _ _ _ _ _ _ _ _ _ _ _ _ ?_
        intro u9 u10 u13 u14 u15 u16 u17 u18 u63 u64 u65 u66 u67 u68 u69 u70 u71 u72 u73 u74 u75 u76 u77 u78 u79 u80 u81 u82 u83 u84 u85 u86 u87 u88 u89 u90 u91 u92 u93 u94 u95 u96 u97 u98 u99 u100 u101 u102 u103 u104 u105 u106 u107 u108 u109 u110 u111 u112 u113 u114 u115 u116 u117 u118 u119 u120 u121 u122 u123 u124 w2 H2
        go_wp2
        refine ⟨⟨k1, by have := HK1.out; omega, rfl, by rw [HK1.out.1]; exact H2⟩, ?_⟩
        have := HK1.out
        simp [RowKit.intOf]; omega
    · obtain rfl : k = (hs (dv d L)).length := by omega
      have k2 : ¬ ((hs (dv d L)).length : Int) < ((hs (dv d L)).length : Int) := by omega
      clear hk hlt
      go_wp2
      exact HX.out _ _ _ _ _ _ _ _ _ _ _ _ _ _ _ _ _ _ _ _ _ _ _ _ _ _ _ _ _ _ _ _ _ _ _ _ _ _ _ _ _ _ _ _ _ _ _ _ _ _ _ _ _ _ _ _ _ _ _ _ _ _ _ _ _ _ _ _ _ _ _ _ _ _ _ _ _ _ _ _ _ _ _ _ _ _ _ _ _ HI
end Go.Proofs.YtcdgdmhlbgbklaaGreatDoor

/- The document's Directory, TreeRoot and TreeBlobs. -/
namespace Go.Proofs.YtcdgdmhlbgbklaaGreatDoor
open Go.RowKit Go.Shelf Go.Maps Go.WideMaps Go.Sort
attribute [local go_sem ↓] appS_eq

theorem PackNodes_row {B : Nat} {ns : List Nd} {v : Value} {w : World} (h : w.ownsRow B 108 3 v ns.length (ndCells ns)) (hok : okDs ns) :
    Calls Tryz.prog 78 #[v] w fun e w' => e = .returned (.string ⟨(pk ns.length ++ pkDD ns).toArray⟩) ∧ Below w.heap.size w w' := by
  rcases Nat.eq_zero_or_pos ns.length with h0 | h0
  · obtain ⟨a, c, rfl⟩ := own_shape h
    obtain rfl := List.length_eq_zero_iff.1 h0
    exact packnodes_zero a c w
  · obtain ⟨g, c, rfl, _, hlt⟩ := h.form h0
    refine packnodes_some w.heap.size g 0 c ns w hok hlt (Nat.le_refl _) fun j hj => ?_
    obtain ⟨k1, k2, k3⟩ := ndCells_get ns j hj
    rw [Nat.zero_add]
    exact ⟨(h.cellAt _ (by omega)).trans k1, (h.cellAt _ (by omega)).trans k2, (h.cellAt _ (by omega)).trans k3⟩
theorem ndD_ok (n : Nat) {L : List Fl} (d : ByteArray) (hL : okT L) (hS : okT (dv d L)) : okDs ((hs (dv d L)).map (ndD n L d)) := by
  refine ⟨by rw [List.length_map]; exact Nat.le_trans (hs_len _) hS.1, fun x hx => ?_⟩
  obtain ⟨m, hm, rfl⟩ := List.mem_map.1 hx
  have h1 := hs_size hS hm
  have h2 : (ndD n L d m).1.size = m.length := rfl
  have h3 : (ndD n L d m).2.2.size = 64 := smD_size _
  have h4 : 0 ≤ (ndD n L d m).2.1 ∧ (ndD n L d m).2.1 ≤ 3 := by
    show 0 ≤ (ktF L (pj d m).data.toList).1 ∧ (ktF L (pj d m).data.toList).1 ≤ 3
    rcases hs_cases d hL hS hm with ⟨f, _, _, _, e⟩ | ⟨_, e⟩
    · rw [e]
      unfold kdF
      simp only
      split <;> decide
    · rw [e]
      decide
  exact ⟨by omega, h4.1, h4.2, by omega⟩

/-- How a directory is answered. -/
def DrP (T : ByteArray) (M : List (List UInt8)) (w : World) (e : Ending) (w' : World) : Prop := ∃ tv, e = .returned (.tuple #[.string T, tv]) ∧ RowT w.heap.size M tv w' ∧ Below w.heap.size w w'

set_option maxHeartbeats 16000000 in
set_option maxRecDepth 100000 in
theorem Directory_one (n : Nat) (hn : n ≤ 100) (ao : Option Addr) (cap : Nat) (L : List Fl) (d : ByteArray) (w : World) (hL : IsFl w ao L) (hok : okT L) (hS : okT (dv d L)) (hz : ∀ f ∈ dv d L, f.pa.size < n + 1) (hd : d.size ≤ 100)
    (hD : ∀ m ∈ names (dv d L), ∀ W, Below w.heap.size w W → Calls Tryz.prog 32 #[.slice ao L.length cap, .string (pj d m)] W (DjP (dirF smD n (sub m (dv d L))).1 (mrT n (dv d L) m) W)) :
    Calls Tryz.prog 32 #[.slice ao L.length cap, .string d] w (DrP (dirF smD (n + 1) (dv d L)).1 (addAll (bL (inT n (dv d L)))) w) := by
  have HH : Hid (IsFl w ao L ∧ okT L ∧ okT (dv d L) ∧ (∀ f ∈ dv d L, f.pa.size < n + 1) ∧ d.size ≤ 100 ∧ n ≤ 100 ∧ ∀ m ∈ names (dv d L), ∀ W, Below w.heap.size w W → Calls Tryz.prog 32 #[.slice ao L.length cap, .string (pj d m)] W (DjP (dirF smD n (sub m (dv d L))).1 (mrT n (dv d L) m) W)) := ⟨hL, hok, hS, hz, hd, hn, hD⟩
  obtain ⟨YN, hYN⟩ : ∃ YN, YN = (subC [true, true, false, true, false] (Tryz.f32.body.getD .skip)) := ⟨_, rfl⟩
  have HYN : Hid (YN = (subC [true, true, false, true, false] (Tryz.f32.body.getD .skip))) := hYN
  have hlN : (subC [true, true, false, true, false] (Tryz.f32.body.getD .skip)) = YN := hYN.symm
  obtain ⟨YM, hYM⟩ : ∃ YM, YM = (subC [true, true, true, true, true, false, true, false] (Tryz.f32.body.getD .skip)) := ⟨_, rfl⟩
  have HYM : Hid (YM = (subC [true, true, true, true, true, false, true, false] (Tryz.f32.body.getD .skip))) := hYM
  have hlM : (subC [true, true, true, true, true, false, true, false] (Tryz.f32.body.getD .skip)) = YM := hYM.symm
  conv at hlN => lhs; whnf
  conv at hlM => lhs; whnf
  clear hL hok hS hz hd hn hD hYN hYM
  go_enter Tryz.func32, Tryz.ntmps32
  rw [hlN, hlM]
  clear hlN hlM
  go_wp2
  rw [HYN.out]
  refine namesL _ _ _ _ _ _ _ _ _ _ _ _ _ _ _ _ _ _ _ _ _ _ _ _ _ _ _ _ _ _ _ _ _ _ _ _ _ _ _ _ _ _ _ _ _ _ _ _ _ _ _ _ _ _ _ _ _ _ _ _ _ _ _ _ _ _ _ _ _ _ _ _ _ _ _ _ _ _ _ _ _ _ _ _ _ _ _ _ _ _ _ _ _ _ _ _ _ _ _ _ _ _ _ _ _ _ _ _ _ _ _ _ _ _ _ _ _ _ _ _ _ _ _ _ ao cap L d w HH.out.1 HH.out.2.1 (by have := HH.out.2.2.2.2.1; omega) _ ?_
  intro u6 u7 u8 u19 u20 u21 u22 u23 u24 u25 u26 u27 u28 u29 u30 u31 u32 u33 u34 u35 u36 u37 u38 u39 u40 u41 u42 u43 u44 u45 u46 w1 H1
  unfold NmI at H1
  rw [List.take_length] at H1
  clear HYN
  go_wp2
  rw [HYM.out]
  refine mainL _ _ _ _ _ _ _ _ _ _ _ _ _ _ _ _ _ _ _ _ _ _ _ _ _ _ _ _ _ _ _ _ _ _ _ _ _ _ _ _ _ _ _ _ _ _ _ _ _ _ _ _ _ _ _ _ _ _ _ _ _ _ _ _ _ _ _ _ _ _ _ _ _ _ _ _ _ _ _ _ _ _ _ _ _ _ _ _ _ _ _ _ _ _ _ _ _ _ _ _ _ _ _ _ _ _ _ _ _ _ _ _ _ _ _ _ _ _ _ _ _ _ n HH.out.2.2.2.2.2.1 ao cap L d w w1 u6 HH.out.1 HH.out.2.1 HH.out.2.2.1 HH.out.2.2.2.1 HH.out.2.2.2.2.1 ?_ HH.out.2.2.2.2.2.2 _ ?_
  · exact ⟨H1.out.1.own, World.ownsRow_nil _ _ _ _, RowT.start H1.out.2.size, fun b hb => by simp [Value.ownBlock] at hb, fun b hb => by simp [Value.ownBlock] at hb, H1.out.2⟩
  intro u9 u10 u11 u12 u13 u14 u15 u16 u17 u18 u47 u48 u49 u50 u51 u52 u53 u54 u55 u56 u57 u58 u59 u60 u61 u62 u63 u64 u65 u66 u67 u68 u69 u70 u71 u72 u73 u74 u75 u76 u77 u78 u79 u80 u81 u82 u83 u84 u85 u86 u87 u88 u89 u90 u91 u92 u93 u94 u95 u96 u97 u98 u99 u100 u101 u102 u103 u104 u105 u106 u107 u108 u109 u110 u111 u112 u113 u114 u115 u116 u117 u118 u119 u120 u121 u122 u123 u124 w2 H2
  clear HYM
  unfold DmI at H2
  rw [List.take_length] at H2
  have HP : Hid (Calls Tryz.prog 78 #[u9] w2 fun e w' => e = .returned (.string (dirF smD (n + 1) (dv d L)).1) ∧ Below w2.heap.size w2 w') := by
    have h1 := PackNodes_row H2.out.nodes (ndD_ok n d HH.out.2.1 HH.out.2.2.1)
    rw [ndD_sorted n d HH.out.2.1 HH.out.2.2.1] at h1
    exact h1
  have HR : Hid (RowT w.heap.size (addAll (bL (inT n (dv d L)))) u10 w2 ∧ Below w.heap.size w w2) := by
    have h1 := H2.out.texts
    rw [ad_all n d HH.out.2.1 HH.out.2.2.1 HH.out.2.2.2.1] at h1
    exact ⟨h1, H2.out.bel⟩
  generalize (dirF smD (n + 1) (dv d L)).1 = T9 at *
  clear H2 H1 HH
  go_wp2_with fail
  refine HP.out.mono ?_
  rintro e w3 ⟨rfl, hb3⟩
  have HE : Hid (RowT w.heap.size (addAll (bL (inT n (dv d L)))) u10 w3 ∧ Below w.heap.size w w3) := ⟨HR.out.1.up hb3, HR.out.2.trans (hb3.mono HR.out.2.size)⟩
  clear hb3 HR HP
  go_wp2
  refine bodyPost_ret (v := .tuple #[.string T9, u10]) (by simp [results, Tryz.results32, go_sem]) rfl ?_
  exact ⟨u10, rfl, HE.out⟩
theorem Directory_any (ao : Option Addr) (cap : Nat) (L : List Fl) (hok : okT L) : ∀ n, n ≤ 100 → ∀ (d : ByteArray) (w : World), IsFl w ao L → okT (dv d L) → (∀ f ∈ dv d L, f.pa.size < n + 1) → d.size ≤ 100 →
    Calls Tryz.prog 32 #[.slice ao L.length cap, .string d] w (DrP (dirF smD (n + 1) (dv d L)).1 (addAll (bL (inT n (dv d L)))) w) := by
  intro n
  induction n with
  | zero =>
    intro hn d w hL hS hz hd
    refine Directory_one 0 hn ao cap L d w hL hok hS hz hd fun m hm => ?_
    exact absurd (names_ne hm hz) (by omega)
  | succ n ih =>
    intro hn d w hL hS hz hd
    refine Directory_one (n + 1) hn ao cap L d w hL hok hS hz hd fun m hm W hW => ?_
    have hm2 := name_in hm
    have e := dv_sub d L m (hs_slash hm2) (hs_ne hS hm2)
    have h1 := ih (by omega) (pj d m) W (hL.below hW (Nat.le_refl _)) (by rw [e]; exact okT_sub hS m) (by rw [e]; exact sub_less hz m) (dir_small hok d hS hm)
    rw [e] at h1
    refine h1.mono ?_
    rintro e w' ⟨tv, rfl, hr, hb⟩
    obtain ⟨a, c, rfl⟩ := own_shape hr.own
    exact ⟨a, c, rfl, hr.own, hb⟩
theorem inT_whole (L : List Fl) : (pkT1 L).2 = inT 100 L ++ [(pkT1 L).1] := dirF_in 100 L
theorem Directory_whole (ao : Option Addr) (cap : Nat) (L : List Fl) (w : World) (hok : okT L) (hL : IsFl w ao L) :
    Calls Tryz.prog 32 #[.slice ao L.length cap, .string ⟨#[]⟩] w (DrP (pkT1 L).1 (addAll (bL (inT 100 L))) w) := by
  have h := Directory_any ao cap L hok 100 (Nat.le_refl _) ⟨#[]⟩ w hL (by rw [dv_none]; exact hok) (by rw [dv_none]; intro f hf; have := fl_le hok hf; omega) (by decide)
  rw [dv_none] at h
  exact h
/-- The document's blobs are the program's. -/
theorem blF_doc (L : List Fl) : insN (pkT1 L).1.data.toList (addAll (bL (inT 100 L))) = blF L := by
  rw [← addAll_snoc]
  unfold blF
  refine rise_uniq (addAll_up _) (compact_up _ ?_) fun x => ?_
  · have := List.pairwise_mergeSort (le := fun x y : List UInt8 => decide (x ≤ y)) (fun a b c h1 h2 => by rw [decide_eq_true_eq] at *; exact List.le_trans h1 h2) (fun a b => by rw [Bool.or_eq_true, decide_eq_true_eq, decide_eq_true_eq]; exact List.le_total _ _) ((pkT1 L).2.map fun b => b.data.toList)
    exact this.imp fun h => by simpa using h
  · rw [addAll_mem, mem_compact, List.mem_mergeSort, inT_whole, List.map_append]
    rfl

set_option maxHeartbeats 4000000 in
set_option maxRecDepth 100000 in
theorem TreeBlobs_any (ao : Option Addr) (cap : Nat) (L : List Fl) (w : World) (hok : okT L) (hL : IsFl w ao L) :
    Calls Tryz.prog 11 #[.slice ao L.length cap] w fun e w' => ∃ a c, e = .returned (.slice a (blF L).length c) ∧ w'.ownsRow w.heap.size 9 1 (.slice a (blF L).length c) (blF L).length ((blF L).map encStr) ∧ Below w.heap.size w w' := by
  have HD : Hid (Calls Tryz.prog 32 #[.slice ao L.length cap, .string ⟨#[]⟩] w (DrP (pkT1 L).1 (addAll (bL (inT 100 L))) w)) := Directory_whole ao cap L w hok hL
  have HAd : Hid (∀ (tv : Value) (W : World), RowT w.heap.size (addAll (bL (inT 100 L))) tv W → Calls Tryz.prog 33 #[tv, .string (pkT1 L).1] W fun e w' => ∃ a c, e = .returned (.slice a (blF L).length c) ∧ w'.ownsRow w.heap.size 9 1 (.slice a (blF L).length c) (blF L).length ((blF L).map encStr) ∧ Below W.heap.size W w') := fun tv W h => by
    have hl : (addAll (bL (inT 100 L))).length ≤ 1000000 := by
      have h1 := addAll_len (bL (inT 100 L))
      unfold bL at h1
      rw [List.length_map] at h1
      have h2 := inT_len 100 hok (by decide)
      exact Nat.le_trans h1 (Nat.le_trans h2 (by decide))
    refine (h.add (pkT1 L).1 hl).mono ?_
    rintro e w' ⟨v', rfl, hr, hb, _⟩
    rw [blF_doc] at hr
    obtain ⟨a, c, rfl⟩ := own_shape hr.own
    exact ⟨a, c, rfl, hr.own, hb⟩
  generalize (pkT1 L).1 = t9 at *
  clear hok hL
  go_enter Tryz.func11, Tryz.ntmps11
  go_wp2_with fail
  refine HD.out.mono ?_
  rintro e w1 ⟨tv, rfl, hr1, hb1⟩
  have HB1 : Hid (Below w.heap.size w w1 ∧ RowT w.heap.size (addAll (bL (inT 100 L))) tv w1) := ⟨hb1, hr1⟩
  clear hb1 hr1
  go_wp2_with fail
  refine (HAd.out _ _ HB1.out.2).mono ?_
  rintro e w2 ⟨a, c, rfl, hr2, hb2⟩
  have HB2 : Hid (w2.ownsRow w.heap.size 9 1 (.slice a (blF L).length c) (blF L).length ((blF L).map encStr) ∧ Below w.heap.size w w2) := ⟨hr2, HB1.out.1.trans (hb2.mono HB1.out.1.size)⟩
  clear hb2 hr2
  go_wp2
  go_ret
  exact ⟨a, c, rfl, HB2.out⟩
end Go.Proofs.YtcdgdmhlbgbklaaGreatDoor

/- The document's Clash, for trees: where it says no, no two of the texts have one digest. -/
namespace Go.Proofs.YtcdgdmhlbgbklaaGreatDoor
open Go.RowKit Go.Shelf

/-- These texts lie in block g, from o on. -/
def Row (w : World) (g o : Nat) (ss : List ByteArray) : Prop := ∀ j (hj : j < ss.length), w.cell? ⟨g, o + j, none⟩ = some (.string ss[j])
theorem Row.up {w w' : World} {g o : Nat} {ss : List ByteArray} (h : Row w g o ss) (hb : Below w.heap.size w w') (hg : g < w.heap.size) : Row w' g o ss := fun j hj => (hb.cell (p := ⟨g, o + j, none⟩) hg).trans (h j hj)
/-- A slice of these texts. -/
def Tx (w : World) (v : Value) (ss : List ByteArray) : Prop :=
  ss.length ≤ 4611686018427387904 ∧ ((ss = [] ∧ ∃ a cap, v = .slice a 0 cap) ∨ (0 < ss.length ∧ ∃ g o cap, v = .slice (some ⟨g, o, none⟩) ss.length cap ∧ ss.length ≤ cap ∧ Row w g o ss))
theorem Tx.up {w w' : World} {v : Value} {ss : List ByteArray} (h : Tx w v ss) (hb : Below w.heap.size w w') : Tx w' v ss := by
  refine ⟨h.1, ?_⟩
  rcases h.2 with h1 | ⟨h0, g, o, cap, hv, hc, hr⟩
  · exact Or.inl h1
  · exact Or.inr ⟨h0, g, o, cap, hv, hc, hr.up hb (World.block_lt_of_cell? w ⟨g, o + 0, none⟩ (hr 0 h0))⟩
theorem Tx.shape {w : World} {v : Value} {ss : List ByteArray} (h : Tx w v ss) : ∃ a cap, v = .slice a ss.length cap := by
  rcases h.2 with ⟨rfl, a, cap, hv⟩ | ⟨_, g, o, cap, hv, _⟩
  · exact ⟨a, cap, hv⟩
  · exact ⟨_, cap, hv⟩
def scs (l : List ByteArray) : List Value := l.map Value.string
theorem scs_get (l : List ByteArray) (j : Nat) (hj : j < l.length) : (scs l)[j]? = some (.string l[j]) := by simp [scs, hj]
theorem own_below {w w' : World} {base : Nat} {e : TypeId} {size : Nat} {v : Value} {n : Nat} {xs : List Value} (h : w.ownsRow base e size v n xs) (hb : Below w.heap.size w w') : w'.ownsRow base e size v n xs := by
  refine ⟨h.1, ?_⟩
  rcases h.2 with hn | ⟨g, cap, cur, rfl, hg, hgg, rest⟩
  · exact .inl hn
  · exact .inr ⟨g, cap, cur, rfl, hg, (hb.block g (Array.getElem?_eq_some_iff.1 hgg).1).trans hgg, rest⟩
theorem new_one (W : World) (x : ByteArray) : ∀ (j : Nat) (u : Value), [Value.string x][j]? = some u → (W.alloc (.cells #[.string x] 9)).cell? ((⟨W.heap.size, 0, none⟩ : Addr).add j) = some u := by
  intro j u hj
  match j, hj with
  | 0, hj =>
    simp at hj
    subst hj
    exact al_at W _ _ _ 0 _ rfl rfl
theorem scs_snoc (l : List ByteArray) (x : ByteArray) : scs (l ++ [x]) = scs l ++ [.string x] := by simp [scs]
theorem row_of_own {w : World} {B g cap n : Nat} {xs : List ByteArray} (h : w.ownsRow B 9 1 (.slice (some ⟨g, 0, none⟩) n cap) n (scs xs)) (hn : xs.length = n) : Row w g 0 xs := fun j hj => by
  rw [Nat.zero_add]
  exact (h.cellAt j (by omega)).trans (scs_get xs j hj)
/-- A row that is one's own is a slice that is read. -/
theorem tx_own {w : World} {B : Nat} {v : Value} {xs : List ByteArray} (hx : xs.length ≤ 4611686018427387904) (h : w.ownsRow B 9 1 v xs.length (scs xs)) : Tx w v xs := by
  rcases h.2 with ⟨rfl, h0⟩ | ⟨g, cap, cur, rfl, hb, hg, hc, _⟩
  · have : xs = [] := List.length_eq_zero_iff.1 h0
    subst this
    exact ⟨by decide, Or.inl ⟨rfl, none, 0, rfl⟩⟩
  · refine ⟨hx, ?_⟩
    by_cases h0 : xs.length = 0
    · have : xs = [] := List.length_eq_zero_iff.1 h0
      subst this
      exact Or.inl ⟨rfl, _, cap, rfl⟩
    · exact Or.inr ⟨by omega, g, 0, cap, rfl, hc, row_of_own h rfl⟩
theorem b_ext {a b : ByteArray} (h : a.toList = b.toList) : a = b := toL_inj h

theorem own_grown {w w' : World} {base : Nat} {e : TypeId} {size : Nat} {v : Value} {n : Nat} {xs : List Value} {row : Option Nat} (h : w.ownsRow base e size v n xs) (hg : w.grownBy w' row) (hne : ∀ k, v.ownBlock = some k → row ≠ some k) : w'.ownsRow base e size v n xs := by
  refine ⟨h.1, ?_⟩
  rcases h.2 with hn | ⟨g, cap, cur, rfl, hb, hgg, rest⟩
  · exact .inl hn
  · exact .inr ⟨g, cap, cur, rfl, hb, (hg.block g (Array.getElem?_eq_some_iff.1 hgg).1 (fun e => hne g rfl e.symm)).trans hgg, rest⟩
def InjL (L : List ByteArray) : Prop := ∀ x y, x ∈ L → y ∈ L → smD x = smD y → x = y
theorem inj_snoc {T : List ByteArray} {x : ByteArray} (h : InjL T) (hx : smD x ∉ T.map smD) : InjL (T ++ [x]) := by
  intro a b ha hb he
  rcases List.mem_append.1 ha with h1 | h1
  · rcases List.mem_append.1 hb with h2 | h2
    · exact h a b h1 h2 he
    · simp at h2; subst h2; exact absurd (List.mem_map.2 ⟨a, h1, he⟩) hx
  · rcases List.mem_append.1 hb with h2 | h2
    · simp at h1; subst h1; exact absurd (List.mem_map.2 ⟨b, h2, he.symm⟩) hx
    · simp at h1 h2; rw [h1, h2]
/-- The texts met so far, and their digests. -/
structure ClI (w wr : World) (tv dv : Value) (T seen : List ByteArray) : Prop where
  ot : wr.ownsRow w.heap.size 9 1 tv T.length (scs T)
  od : wr.ownsRow w.heap.size 9 1 dv T.length (scs (T.map smD))
  ne : ∀ a, tv.ownBlock = some a → dv.ownBlock ≠ some a
  bl : Below w.heap.size w wr
  inj : InjL T
  all : ∀ x ∈ seen, x ∈ T
  le : T.length ≤ seen.length
theorem tx_own' {w : World} {B : Nat} {v : Value} {xs : List ByteArray} {n : Nat} (hx : xs.length ≤ 4611686018427387904) (hn : xs.length = n) (h : w.ownsRow B 9 1 v n (scs xs)) : Tx w v xs := by
  subst hn
  exact tx_own hx h
end Go.Proofs.YtcdgdmhlbgbklaaGreatDoor

/- The second form of a row that lists variables, the world's shape kept: its witness; texts that came in, and what they weigh. -/
namespace Go.Proofs.YtcdgdmhlbgbklaaGreatDoor
open Go.ChangeShapes Go.WideShapes Go.ChangeAt Go.RowKit Go.Shelf
open Go.ChangeMaps (open_string shut_string)

theorem witness_up {H : Type} {enc : TypeId × Value → H} {C : Checked} {os : Os} {f : FuncId} {fn : Func} {s : OpenSpec} {conds : List PathCond} {apart : Bool} {laid : List (String × DataW Unit)} (w0 : World) (args : Array Value) (hos : w0.os = os)
    (hsh : (w0.forCall (fun _ _ => 0) ⟨#[], args, []⟩).Shaped C.prog)
    (hok : Input.okWideB C.prog (w0.forCall (fun _ _ => 0) ⟨#[], args, []⟩) f ⟨#[], args, []⟩ = true)
    (hrow : s.preRow enc C.prog fn conds apart laid (w0.forCall (fun _ _ => 0) ⟨#[], args, []⟩).memory args) :
    ∃ (w : World) (tape : Tape) (i : Input), w.os = os ∧ (w.forCall tape i).Shaped C.prog ∧ i.vars = [] ∧ Input.okWide C.prog (w.forCall tape i) .any w.heap.size f i ∧
      s.preRow enc C.prog fn conds apart laid (w.forCall tape i).memory i.args ∧ ({} : Assume).holds C.prog (lone (Frame.enter C.prog f i.args .normal) [] (w.forCall tape i)) :=
  ⟨w0, fun _ _ => 0, ⟨#[], args, []⟩, hos, hsh, (Input.okWide_of_okWideB (base := 0) hok).1, (Input.okWide_of_okWideB hok).2, hrow, by
    simp only [Assume.holds]
    exact ⟨by simp, by simp, fun _ => Modest.zero, by simp, by simp⟩⟩
def total : List ByteArray → Nat
  | [] => 0
  | s :: l => s.size + 1 + total l
theorem total_len (ss : List ByteArray) : ss.length ≤ total ss := by
  induction ss with
  | nil => simp [total]
  | cons s l ih => simp only [total, List.length_cons]; omega
theorem total_mem {ss : List ByteArray} {s : ByteArray} (h : s ∈ ss) : s.size ≤ total ss := by
  induction ss with
  | nil => cases h
  | cons a l ih =>
    simp only [total]
    rcases List.mem_cons.1 h with rfl | h
    · omega
    · have := ih h; omega
theorem total_strs {H : Type} (ss : List ByteArray) : Rows.uptoBulkAll (Go.ChangeShapes.strs (H := H) ss) = total ss := by
  induction ss with
  | nil => simp [Go.ChangeShapes.strs, Rows.uptoBulkAll, total]
  | cons s l ih =>
    have e : Go.ChangeShapes.strs (H := H) (s :: l) = .lit (.string s.data.toList) :: Go.ChangeShapes.strs l := rfl
    rw [e]
    simp only [Rows.uptoBulkAll, Rows.uptoBulk, total, ih, size_of (s := s) rfl]

set_option maxRecDepth 100000 in
theorem arg_texts_up {H : Type} {enc : TypeId × Value → H} {W : World} {v : Value} {d : DataW H} {p : List MemPlace} {base : Nat}
    (hv : Value.okWide Tryz.prog W .any base 22 v) (h : DataW.Trod enc Tryz.prog W 0 (fun _ => true) true 22 v d p) (hr : Rows.uptoBulk d ≤ 1048576) : ∃ ss, Tx W v ss ∧ (∃ ao cap, v = .slice ao ss.length cap ∧ (ao = none → ss = [])) ∧ total ss + 1 ≤ Rows.uptoBulk d := by
  obtain ⟨a, len, cap, rfl⟩ := okWide_slice Tryz.underlying22 hv
  obtain ⟨fuel, hf⟩ := h
  rcases open_strings Tryz.underlying22 Tryz.underlying9 (by kernel_rfl) hf with ⟨hcs, hx⟩ | ⟨x, l, c, ss, hcs, _, hl, hm, hz, hx, hcell, hws⟩
  · simp [Value.cells] at hcs
    obtain ⟨rfl, rfl, rfl⟩ := hcs
    have hd : d = .nil := congrArg Prod.fst hx
    subst hd
    exact ⟨[], ⟨by decide, Or.inl ⟨rfl, none, 0, rfl⟩⟩, ⟨none, 0, rfl, fun _ => rfl⟩, by simp [total, Rows.uptoBulk]⟩
  · simp [Value.cells] at hcs
    obtain ⟨rfl, rfl, rfl⟩ := hcs
    have hz' : ss.length = cap := by simpa using hz
    have hlen : (ss.take len).length = len := by rw [List.length_take]; omega
    have hd : d = .slice (Go.ChangeShapes.strs (ss.take len)) (Go.ChangeShapes.strs (ss.drop len)) := congrArg Prod.fst hx
    have hT : total (ss.take len) + 1 ≤ Rows.uptoBulk d := by
      rw [hd]
      simp only [Rows.uptoBulk, total_strs]
      omega
    have hb : len ≤ 4611686018427387904 := by
      have := total_len (ss.take len)
      omega
    refine ⟨ss.take len, ⟨by rw [hlen]; exact hb, ?_⟩, ⟨some x, cap, by rw [hlen], fun e => by cases e⟩, hT⟩
    by_cases h0 : len = 0
    · subst h0
      exact Or.inl ⟨rfl, _, cap, rfl⟩
    · obtain ⟨b, off, spot⟩ := x
      have hspot : spot = none := by simpa [Addr.add] using World.cell?_spot (hcell 0 (by omega))
      subst hspot
      refine Or.inr ⟨by omega, b, off, cap, by rw [hlen], by rw [hlen]; exact hl, fun j hj => ?_⟩
      rw [hlen] at hj
      rw [← Go.WideShapes.add_plain, hcell j (by omega)]
      simp [List.getD, List.getElem?_eq_getElem (show j < ss.length by omega)]
end Go.Proofs.YtcdgdmhlbgbklaaGreatDoor

/- A copy of texts. -/
namespace Go.Proofs.YtcdgdmhlbgbklaaGreatDoor
open Go.RowKit Go.Shelf Go.Sort
attribute [local go_sem ↓] appS_eq

theorem scs_len (l : List ByteArray) : (scs l).length = l.length := by simp [scs]
theorem scs_one (l : List ByteArray) : ∀ u ∈ scs l, u.oneCell' = true := fun u hu => by
  obtain ⟨x, _, rfl⟩ := List.mem_map.1 hu
  rfl
theorem copyT {W : World} {mo : Option Addr} {mc : Nat} {ms : List ByteArray} (hm : Tx W (.slice mo ms.length mc) ms) (hn : mo = none → ms = []) (hz1 : ms.length ≤ 10000000) :
    ∃ g1 c1 w1, (appS #[22, 22] 22 #[.slice (some ⟨W.heap.size, 0, none⟩) 0 0, .slice mo ms.length mc]).run Tryz.prog (W.alloc (.cells #[] 9)) = .ok (.slice (some ⟨g1, 0, none⟩) ms.length c1) w1 ∧ w1.ownsRow W.heap.size 9 1 (.slice (some ⟨g1, 0, none⟩) ms.length c1) ms.length (scs ms) ∧ Below W.heap.size W w1 := by
  obtain ⟨i0, hi, hq0, hq1, hq2⟩ := info_p infTx
  have hbl : Below W.heap.size W (W.alloc (.cells #[] 9)) := (Below.refl _ W).alloc (Nat.le_refl _) _
  have hown0 : (W.alloc (.cells #[] 9)).ownsRow W.heap.size 9 1 (.slice (some ⟨W.heap.size, 0, none⟩) 0 0) 0 [] :=
    ⟨rfl, .inr ⟨W.heap.size, 0, #[], rfl, Nat.le_refl _, heap_alloc_new W _, Nat.le_refl _, by decide, rfl, rfl⟩⟩
  cases mo with
  | none =>
    obtain rfl := hn rfl
    refine ⟨W.heap.size, 0, W.alloc (.cells #[] 9), ?_, hown0, hbl⟩
    unfold appS
    simp [Builtin.append_, run_underlying Tryz.underlying22, sizeOf, typeInfo, hi, Builtin.lenOf, Builtin.firstCells, storeCells]
  | some ad =>
    have hsrc : ∀ j u, (scs ms)[j]? = some u → (W.alloc (.cells #[] 9)).cell? (ad.add j) = some u := fun j u hu => by
      have hj : j < ms.length := by have := (List.getElem?_eq_some_iff.1 hu).1; rwa [scs_len] at this
      rcases (hm.up hbl).2 with ⟨e, _⟩ | ⟨_, g, o, cap, e, _, hrow⟩
      · rw [e] at hj; exact absurd hj (by simp)
      · have e2 : ad = ⟨g, o, none⟩ := by
          have := congrArg (fun v : Value => match v with | .slice a _ _ => a | _ => none) e
          exact Option.some.inj this
        rw [e2, Addr.add_lit, hrow j hj]
        rw [scs_get ms j hj] at hu
        exact hu
    obtain ⟨v1, w1, hr1, ho1, hg1', hnil⟩ := run_append_own (P := Tryz.prog) (W.alloc (.cells #[] 9)) W.heap.size 22 22 9 i0 (.string ⟨#[]⟩) 1 16 Tryz.underlying22 hi hq0 hq1 hq2 rfl (by decide) (.slice (some ⟨W.heap.size, 0, none⟩) 0 0) 0 [] hown0 ad ms.length mc (scs ms) (by rw [scs_len, Nat.mul_one]) hsrc (scs_one _) (by unfold maxLen; omega) (by omega) hbl.size
    rw [Nat.zero_add, List.nil_append] at ho1
    rcases ho1.2 with ⟨e, _⟩ | ⟨g1, c1, cur, e, _⟩
    · have := (hnil.1 e).1
      cases this
    · subst e
      exact ⟨g1, c1, w1, hr1, ho1, hbl.grown hg1' hbl.size fun k hk => by simp [Value.ownBlock] at hk; omega⟩
end Go.Proofs.YtcdgdmhlbgbklaaGreatDoor

/- Texts that are the same, as the laws ask it. -/
namespace Go.Proofs.YtcdgdmhlbgbklaaGreatDoor
open Go.RowKit Go.Shelf Go.Sort
attribute [local go_sem ↓] appS_eq

/-- Texts in a row. -/
def IsTl (w : World) (ao : Option Addr) (l : List (List UInt8)) : Prop := l = [] ∨ ∃ g, ao = some ⟨g, 0, none⟩ ∧ ∀ (k : Nat) (hk : k < l.length), w.cell? ⟨g, k, none⟩ = some (.string ⟨(l[k]).toArray⟩)
theorem own_tl {w : World} {base : Nat} {ao : Option Addr} {cap : Nat} {l : List (List UInt8)} (h : w.ownsRow base 9 1 (.slice ao l.length cap) l.length (l.map encStr)) : IsTl w ao l := by
  rcases Nat.eq_zero_or_pos l.length with h0 | h0
  · exact .inl (List.length_eq_zero_iff.1 h0)
  · obtain ⟨g, cap', hv, _, _⟩ := h.form h0
    injection hv with e1 _ e2
    subst e1 e2
    refine .inr ⟨g, rfl, fun k hk => ?_⟩
    refine (h.cellAt k (by omega)).trans ?_
    rw [List.getElem?_map, List.getElem?_eq_getElem hk]
    rfl

set_option maxHeartbeats 4000000 in
set_option maxRecDepth 100000 in
theorem SameTexts_ok (xa ya : Option Addr) (xc yc : Nat) (l : List (List UInt8)) (w : World) (hn : l.length ≤ 1000000) (hx : IsTl w xa l) (hy : IsTl w ya l) :
    Calls Tryz.prog 9 #[.slice xa l.length xc, .slice ya l.length yc] w fun e w' => e = .returned (.bool true) ∧ ∃ n, w' = w.drewN n := by
  have HX : Hid (IsTl w xa l) := hx
  have HY : Hid (IsTl w ya l) := hy
  have hn1 : (l.length : Int) ≤ 1000000 := by omega
  clear hx hy
  go_enter Tryz.func9, Tryz.ntmps9
  go_wp2
  go_loopw [5] (fun i wr => ∃ k m : Nat, k ≤ l.length ∧ i = .int .i64 k ∧ wr = w.drewN m) (fun i _ => l.length - (intOf i).toNat)
  case atStart => exact ⟨0, 0, Nat.zero_le _, rfl, rfl⟩
  case round =>
    obtain ⟨k, m, hk, rfl, rfl⟩ := hrel
    by_cases hlt : k < l.length
    · rcases HX.out with h | ⟨g, rfl, ca⟩
      · exfalso; rw [h] at hlt; exact absurd hlt (by simp)
      rcases HY.out with h | ⟨g', rfl, cb⟩
      · exfalso; rw [h] at hlt; exact absurd hlt (by simp)
      have a0 := ca k hlt
      have b0 := cb k hlt
      have hki : (k : Int) < (l.length : Int) := by omega
      clear ca cb
      generalize (⟨(l[k]).toArray⟩ : ByteArray) = x at a0 b0
      go_wp2
      go_region
      all_goals go_wp2
      all_goals exact ⟨⟨k + 1, m + 1, by omega, by go_num, rfl⟩, by simp [intOf]; omega⟩
    · obtain rfl : k = l.length := by omega
      have hki : ¬ (l.length : Int) < (l.length : Int) := by omega
      go_wp2
      go_ret
      exact ⟨rfl, m, rfl⟩
end Go.Proofs.YtcdgdmhlbgbklaaGreatDoor

/- The digest's own raw bytes of a digest; the greatest power of two below a number. -/
namespace Go.Proofs.YtcdgdmhlbgbklaaGreatDoor.Dg
open Go.RowKit

/-- What a digit is worth, as the program reckons it, whatever byte it is. -/
def wth (c : Nat) : Nat := if c ≤ 57 then (c + 208) % 256 else (c + 169) % 256
theorem wth_lt (c : Nat) : wth c < 256 := by unfold wth; split <;> omega

set_option maxHeartbeats 1000000 in
theorem worth_any (c : Nat) (w : World) (hc : c < 256) :
    Calls Tryz.prog 186 #[.int .u8 c] w fun e w' => e = .returned (.int .u8 (wth c : Nat)) ∧ w' = w := by
  by_cases h : c ≤ 57
  · have hi : (c : Int) ≤ 57 := by omega
    have HV : Hid (((c : Int) - 48) % 256 = (wth c : Int)) := by show _ = _; unfold wth; rw [if_pos h]; omega
    clear h
    go_enter Tryz.func186, Tryz.ntmps186
    go_wp2
    go_ret
    exact ⟨by rw [← HV.out]; rfl, rfl⟩
  · have hi : (57 : Int) < (c : Int) := by omega
    have HV : Hid ((((c : Int) - 97) % 256 + 10) % 256 = (wth c : Int)) := by show _ = _; unfold wth; rw [if_neg h]; omega
    clear h
    go_enter Tryz.func186, Tryz.ntmps186
    go_wp2
    go_ret
    exact ⟨by rw [← HV.out]; rfl, rfl⟩

/-- The greatest power of two that is less than n, from k on. -/
def sideF : Nat → Nat → Nat → Nat
  | 0, _, k => k
  | f + 1, n, k => if 2 * k < n then sideF f n (2 * k) else k
def side (n : Nat) : Nat := sideF n n 1
theorem sideF_le : ∀ f n k : Nat, k < n → sideF f n k < n := by
  intro f
  induction f with
  | zero => exact fun n k h => h
  | succ f ih =>
    intro n k h
    unfold sideF
    split
    · exact ih n _ (by assumption)
    · exact h
theorem sideF_pos : ∀ f n k : Nat, 0 < k → 0 < sideF f n k := by
  intro f
  induction f with
  | zero => exact fun n k h => h
  | succ f ih =>
    intro n k h
    unfold sideF
    split
    · exact ih n _ (by omega)
    · exact h
theorem side_lt (n : Nat) (h : 2 ≤ n) : side n < n := sideF_le n n 1 (by omega)
theorem side_pos (n : Nat) : 0 < side n := sideF_pos n n 1 (by omega)
theorem sideF_more : ∀ f g n k : Nat, 0 < k → n ≤ k + f → n ≤ k + g → sideF f n k = sideF g n k := by
  intro f
  induction f with
  | zero =>
    intro g n k hk h1 h2
    cases g with
    | zero => rfl
    | succ g => unfold sideF; rw [if_neg (by omega)]
  | succ f ih =>
    intro g n k hk h1 h2
    cases g with
    | zero => unfold sideF; rw [if_neg (by omega)]
    | succ g =>
      unfold sideF
      split
      · exact ih g n (2 * k) (by omega) (by omega) (by omega)
      · rfl
theorem sideF_step (n k : Nat) (hk : 0 < k) (h : 2 * k < n) : sideF n n k = sideF n n (2 * k) := by
  obtain ⟨f, rfl⟩ : ∃ f, n = f + 1 := ⟨n - 1, by omega⟩
  conv => lhs; unfold sideF
  rw [if_pos h]
  exact sideF_more _ _ _ _ (by omega) (by omega) (by omega)
theorem sideF_end (n k : Nat) (h : ¬ 2 * k < n) : sideF n n k = k := by
  cases n with
  | zero => rfl
  | succ f => unfold sideF; rw [if_neg h]

set_option maxHeartbeats 1000000 in
theorem firstSide_any (n : Nat) (w : World) (hn : n ≤ 1000000) :
    Calls Tryz.prog 58 #[.int .i64 n] w fun e w' => e = .returned (.int .i64 (side n : Nat)) ∧ w' = w := by
  have hni : (n : Int) ≤ 1000000 := by omega
  go_enter Tryz.func58, Tryz.ntmps58
  go_wp2
  go_loop [3] (fun v => ∃ k : Nat, 0 < k ∧ (k = 1 ∨ k < n) ∧ side n = sideF n n k ∧ v = .int .i64 k) (fun v => n - (intOf v).toNat)
  case atStart => exact ⟨1, by omega, Or.inl rfl, rfl, rfl⟩
  case round =>
    obtain ⟨k, hk, hkn, hs, rfl⟩ := hrel
    have HS : Hid (side n = sideF n n k) := hs
    clear hs
    have hki : (k : Int) ≤ 1000000 := by omega
    by_cases hlt : 2 * k < n
    · have h1 : 2 * (k : Int) < (n : Int) := by omega
      have HN : Hid (side n = sideF n n (2 * k)) := by show _ = _; rw [HS.out, sideF_step n k hk hlt]
      go_wp2
      exact ⟨⟨2 * k, by omega, by omega, HN.out, by go_num⟩, by simp [intOf]; omega⟩
    · have h1 : (n : Int) ≤ 2 * (k : Int) := by omega
      have HN : Hid (side n = k) := by show _ = _; rw [HS.out, sideF_end n k hlt]
      go_wp2
      go_ret
      exact ⟨by rw [HN.out]; rfl, rfl⟩

set_option maxHeartbeats 1000000 in
theorem Half_any (n : Nat) (w : World) (hn : n ≤ 1000000) :
    Calls Tryz.prog 30 #[.int .i64 n] w fun e w' => e = .returned (.int .i64 (side n : Nat)) ∧ w' = w := by
  have hni : (n : Int) ≤ 1000000 := by omega
  go_enter Tryz.func30, Tryz.ntmps30
  go_wp2
  go_loop [3] (fun v => ∃ k : Nat, 0 < k ∧ (k = 1 ∨ k < n) ∧ side n = sideF n n k ∧ v = .int .i64 k) (fun v => n - (intOf v).toNat)
  case atStart => exact ⟨1, by omega, Or.inl rfl, rfl, rfl⟩
  case round =>
    obtain ⟨k, hk, hkn, hs, rfl⟩ := hrel
    have HS : Hid (side n = sideF n n k) := hs
    clear hs
    have hki : (k : Int) ≤ 1000000 := by omega
    by_cases hlt : 2 * k < n
    · have h1 : 2 * (k : Int) < (n : Int) := by omega
      have HN : Hid (side n = sideF n n (2 * k)) := by show _ = _; rw [HS.out, sideF_step n k hk hlt]
      go_wp2
      exact ⟨⟨2 * k, by omega, by omega, HN.out, by go_num⟩, by simp [intOf]; omega⟩
    · have h1 : (n : Int) ≤ 2 * (k : Int) := by omega
      have HN : Hid (side n = k) := by show _ = _; rw [HS.out, sideF_end n k hlt]
      go_wp2
      go_ret
      exact ⟨by rw [HN.out]; rfl, rfl⟩

/-- The byte that two digits say, as the program reckons it. -/
def two (a b : Nat) : Nat := (wth a * 16 % 256) ||| wth b
theorem two_lt (a b : Nat) : two a b < 256 := Nat.or_lt_two_pow (n := 8) (Nat.mod_lt _ (by decide)) (wth_lt b)
/-- The first k bytes that the digits of a text say. -/
def rawN (s : ByteArray) : Nat → List UInt8
  | 0 => []
  | k + 1 => rawN s k ++ [UInt8.ofNat (two (s.data.toList.getD (2 * k) 0).toNat (s.data.toList.getD (2 * k + 1) 0).toNat)]
theorem rawN_len (s : ByteArray) (k : Nat) : (rawN s k).length = k := by
  induction k with
  | zero => rfl
  | succ k ih => simp [rawN, ih]
def rawB (s : ByteArray) : ByteArray := ⟨(rawN s (s.size / 2)).toArray⟩
theorem getD_at (s : ByteArray) (k : Nat) (h : k < s.size) : s.data.toList.getD k 0 = s[k] := by
  have h' : k < s.data.toList.length := by rw [Array.length_toList]; exact h
  rw [List.getD, List.getElem?_eq_getElem h']
  rfl
theorem w64 (n : Nat) (h : n ≤ 1000000) : wrap64 (n : Int) = (n : Int) := by unfold wrap64; omega
theorem wr1 (k : Nat) (h : k ≤ 500000) : IntKind.i64.wrap (2 * (k : Int) + 1) = 2 * (k : Int) + 1 := by rw [IntKind.wrap_i64]; omega
theorem or_u8 (a b : Nat) (ha : a < 2 ^ 8) (hb : b < 2 ^ 8) : bits .or .u8 (a : Int) (b : Int) = ((a ||| b : Nat) : Int) := (bits_nat .u8 8 (by decide) (fun n h0 h1 => by rw [IntKind.wrap_u8]; omega) a b ha hb).2

set_option maxHeartbeats 4000000 in
set_option maxRecDepth 100000 in
theorem raw_any (s : ByteArray) (w : World) (hs : s.size ≤ 1000000) :
    Calls Tryz.prog 152 #[.string s] w fun e w' => e = .returned (.string (rawB s)) ∧ Below w.heap.size w w' := by
  obtain ⟨i0, hi, hz0, hz1, hz2⟩ := info_p infB
  have hsi : (s.size : Int) ≤ 1000000 := by omega
  obtain ⟨h2, hh2⟩ : ∃ h2, h2 = s.size / 2 := ⟨_, rfl⟩
  have hd2 : (s.size : Int) / 2 = (h2 : Int) := by omega
  have hm2 : h2 * 1 ≤ 281474976710656 := by omega
  have hm3 : h2 ≤ maxLen := by unfold maxLen; omega
  have hxw : wrap64 (h2 : Int) = (h2 : Int) := w64 h2 (by omega)
  have HH2 : Hid (h2 = s.size / 2) := hh2
  have HS : Hid (s.size ≤ 1000000) := hs
  have h2i : (h2 : Int) ≤ 500000 := by have := HS.out; clear hxw; omega
  clear hh2 hs hm3
  go_enter Tryz.func152, Tryz.ntmps152
  go_wp2_with (at_make; refine wpList_make_own _ rfl _ _ 125 rfl w.heap.size 5 i0 (.int .u8 0) 1 Tryz.underlying125 hi hz0 hz1 _ _ _ h2 rfl rfl ?m1 ?m2 ?m3 ?m4 ?_)
  case m1 => rfl
  case m2 => clear hxw; rw [hz2]; omega
  case m3 => clear hxw; unfold maxLen; omega
  case m4 => exact Nat.le_refl _
  intro w2 hown hg2
  clear hxw
  have HB2 : Hid (Below w.heap.size w w2) := (Below.refl _ _).grown hg2 (by simp) (by intro k hk; cases hk)
  have HO2 : Hid (w2.ownsRow w.heap.size 5 1 (.slice (some ⟨w.heap.size, 0, none⟩) 0 h2) 0 []) := hown
  clear hown hg2
  go_wp2
  go_loopw [3, 4] (fun v i wr => ∃ k : Nat, k ≤ h2 ∧ i = .int .i64 (2 * (k : Int)) ∧ wr.ownsRow w.heap.size 5 1 v k (bcs (rawN s k)) ∧ Below w.heap.size w wr) (fun _ i _ => (s.size + 1) - (intOf i).toNat)
  case atStart => exact ⟨0, by omega, rfl, HO2.out, HB2.out⟩
  case round =>
    clear HO2 HB2
    obtain ⟨k, hk, rfl, hok, hb⟩ := hrel
    have HO : Hid (wr.ownsRow w.heap.size 5 1 u3 k (bcs (rawN s k))) := hok
    have HB : Hid (Below w.heap.size w wr) := hb
    clear hok hb
    by_cases hlt : k < h2
    · have hsz := HS.out
      have hh := HH2.out
      have k1 : 2 * k < s.size := by omega
      have k2 : 2 * k + 1 < s.size := by omega
      have HN : Hid (rawN s (k + 1) = rawN s k ++ [UInt8.ofNat (two s[2 * k].toNat s[2 * k + 1].toNat)]) := by
        show _ = _
        rw [show rawN s (k + 1) = rawN s k ++ [UInt8.ofNat (two (s.data.toList.getD (2 * k) 0).toNat (s.data.toList.getD (2 * k + 1) 0).toNat)] from rfl, getD_at s _ k1, getD_at s _ k2]
      have HW1 : Hid (∀ w, Calls Tryz.prog 186 #[.int .u8 (s[2 * k].toNat : Nat)] w fun e w' => e = .returned (.int .u8 (wth s[2 * k].toNat : Nat)) ∧ w' = w) := fun w => worth_any _ w s[2 * k].toNat_lt
      have HW2 : Hid (∀ w, Calls Tryz.prog 186 #[.int .u8 (s[2 * k + 1].toNat : Nat)] w fun e w' => e = .returned (.int .u8 (wth s[2 * k + 1].toNat : Nat)) ∧ w' = w) := fun w => worth_any _ w s[2 * k + 1].toNat_lt
      have l1 := wth_lt s[2 * k].toNat
      have hor : bits .or .u8 ((wth s[2 * k].toNat * 16 % 256 : Nat) : Int) (wth s[2 * k + 1].toNat : Int) = ((two s[2 * k].toNat s[2 * k + 1].toNat : Nat) : Int) := or_u8 _ _ (Nat.mod_lt _ (by decide)) (wth_lt _)
      have htw := two_lt s[2 * k].toNat s[2 * k + 1].toNat
      have HT : Hid (two s[2 * k].toNat s[2 * k + 1].toNat < 256) := htw
      generalize two s[2 * k].toNat s[2 * k + 1].toNat = tw at hor HN HT htw
      generalize wth s[2 * k].toNat = x1 at HW1 l1 hor
      generalize wth s[2 * k + 1].toNat = x2 at HW2 hor
      have hs1 : Op.shift .shl .u8 (x1 : Int) .u64 4 = pure (.int .u8 ((x1 * 16 % 256 : Nat) : Int)) := by
        rw [shift_shl _ _ _ _ (by omega) (by decide)]
        have e : IntKind.u8.wrap ((x1 : Int) * 2 ^ 4) = ((x1 * 16 % 256 : Nat) : Int) := by rw [IntKind.wrap_u8]; omega
        exact congrArg (fun z => (pure (.int .u8 z) : Sem Value)) e
      generalize x1 * 16 % 256 = z1 at hs1 hor
      obtain ⟨c1, hc1⟩ : ∃ c1 : Int, (s[2 * k].toNat : Int) = c1 := ⟨_, rfl⟩
      obtain ⟨c2, hc2⟩ : ∃ c2 : Int, (s[2 * k + 1].toNat : Int) = c2 := ⟨_, rfl⟩
      rw [hc1] at HW1
      rw [hc2] at HW2
      have b0 : (0 : Int) ≤ 2 * (k : Int) := by omega
      have b1 : (0 : Int) ≤ 2 * (k : Int) + 1 := by omega
      have d0 : 2 * (k : Int) < s.size := by omega
      have d1 : 2 * (k : Int) + 1 < s.size := by omega
      have t0 : (2 * (k : Int)).toNat = 2 * k := by omega
      have t1 : (2 * (k : Int) + 1).toNat = 2 * k + 1 := by omega
      have hki : (k : Int) ≤ 500000 := by omega
      have q1 : k + 1 ≤ maxLen := by unfold maxLen; omega
      have q2 : (k + 1) * 1 ≤ 140737488355328 := by omega
      have q3 : w.heap.size ≤ ((wr.alloc (.cells #[.int .u8 (tw : Int)] 5)).drew).heap.size := by show w.heap.size ≤ (wr.alloc (.cells #[.int .u8 (tw : Int)] 5)).heap.size; rw [World.size_alloc]; have := HB.out.size; omega
      have q4 : ((wr.alloc (.cells #[.int .u8 (tw : Int)] 5)).drew).heap.size = wr.heap.size + 1 := by show (wr.alloc (.cells #[.int .u8 (tw : Int)] 5)).heap.size = _; rw [World.size_alloc]
      have HOW : Hid (((wr.alloc (.cells #[.int .u8 (tw : Int)] 5)).drew).ownsRow w.heap.size 5 1 u3 k (bcs (rawN s k))) := HO.out.alloc _
      have hnews : ∀ (j : Nat) (u : Value), [Value.int .u8 (tw : Int)][j]? = some u → ((wr.alloc (.cells #[.int .u8 (tw : Int)] 5)).drew).cell? ((⟨wr.heap.size, 0, none⟩ : Addr).add j) = some u := by
        intro j u hj
        match j, hj with
        | 0, hj =>
          simp at hj
          subst hj
          show (wr.alloc (.cells #[.int .u8 (tw : Int)] 5)).cell? ⟨wr.heap.size, 0, none⟩ = _
          rw [Lib.cell_of_heap (heap_alloc_new wr _)]
          rfl
      have hone : ∀ u ∈ [Value.int .u8 (tw : Int)], u.oneCell' = true := by intro u hu; simp at hu; subst hu; rfl
      have HNW : Hid _ := hnews
      have j1 : IntKind.i64.wrap (2 * (k : Int) + 1) = 2 * (k : Int) + 1 := wr1 k (by omega)
      clear hnews hsz hh l1 htw
      go_wp2
      go_region_held3 (fun w' => Below w.heap.size w w')
        (first | assumption | (exact HB.out.drew) | (exact (HB.out.alloc HB.out.size _).drew) | (exact ((HB.out.alloc HB.out.size _).drew).grown hgrow q3 (fun j hj => (HO.out.lt j hj).1)))
        (first
          | (go_at_call_of 186 (Value.int IntKind.u8 c1); refine (HW1.out _).mono ?_; rintro e w' ⟨rfl, rfl⟩)
          | (go_at_call_of 186 (Value.int IntKind.u8 c2); refine (HW2.out _).mono ?_; rintro e w' ⟨rfl, rfl⟩)
          | ((refine step_append_lies ((wr.alloc (.cells #[.int .u8 (tw : Int)] 5)).drew) (by rfl) (Operand.tmp 16) (Operand.tmp 28) 125 (by rfl) w.heap.size 5 i0 (.int .u8 0) 1 1 Tryz.underlying125 hi hz0 hz1 hz2 rfl (by decide) u3 k (bcs (rawN s k)) (by rfl) HOW.out ⟨wr.heap.size, 0, none⟩ 1 1 [.int .u8 (tw : Int)] (by rfl) rfl HNW.out hone (by decide) q1 q2 q3 (wr.heap.size + 1) q4 ?_; intro g cap w1 hown1 hgrow hat hltg))
          | fail)
      all_goals
        have hrow : ∀ j, Value.ownBlock u3 = some j → w.heap.size ≤ j := fun j hj => (HO.out.lt j hj).1
        have HB5 : Hid (Below w.heap.size w w1) := ((HB.out.alloc HB.out.size _).drew).grown hgrow q3 hrow
        have HO5 : Hid (w1.ownsRow w.heap.size 5 1 (.slice (some ⟨g, 0, none⟩) (k + 1) cap) (k + 1) (bcs (rawN s (k + 1)))) := by
          have e : bcs (rawN s (k + 1)) = bcs (rawN s k) ++ [.int .u8 (tw : Int)] := by
            rw [HN.out]
            have e2 : (UInt8.ofNat tw).toNat = tw := by have := HT.out; simp [UInt8.toNat_ofNat']; omega
            simp [bcs, e2]
          rw [e]
          exact hown1
        clear hown1 hgrow hat hltg hrow
        go_wp2
        exact ⟨⟨k + 1, by omega, by go_num, HO5.out, HB5.out⟩, by simp [intOf]; omega⟩
    · obtain rfl : k = h2 := by omega
      have hh := HH2.out
      have hge : (s.size : Int) ≤ 2 * (k : Int) + 1 := by omega
      have HRW : Hid (rawB s = ⟨(rawN s k).toArray⟩) := by show _ = _; unfold rawB; rw [← hh]
      have hcv : ∃ r, (convert 125 9 u3).run Tryz.prog wr = .ok (.string ⟨(rawN s k).toArray⟩) wr ∧ r = u3 := by
        refine ⟨u3, ?_, rfl⟩
        have hc := fun (g : Nat) (hg : u3.ownBlock = some g) => HO.out.cells hg
        rcases HO.out.2 with ⟨hv, h0⟩ | ⟨g, cap, cur, hv, _⟩
        · rw [hv, h0]
          exact run_convert_bytes_nil wr 125 5 Tryz.underlying125 Tryz.underlying5 0 0 9 Tryz.underlying9
        · have hl : (rawN s k).length = k := rawN_len s k
          rw [hv]
          conv => lhs; rw [← hl]
          exact run_convert_bytes_back wr 125 9 5 ⟨g, 0, none⟩ cap (rawN s k) Tryz.underlying125 Tryz.underlying5 Tryz.underlying9 fun j hj => hc g (by rw [hv]; rfl) j _ (by simp [bcs, hj])
      obtain ⟨_, hcv, _⟩ := hcv
      clear hh
      go_wp2
      go_ret
      exact ⟨by rw [HRW.out]; rfl, HB.out⟩
end Go.Proofs.YtcdgdmhlbgbklaaGreatDoor.Dg

/- What the statements of digests begin with: the sum of one text, and that a sum is a digest. -/
namespace Go.Proofs.YtcdgdmhlbgbklaaGreatDoor.Dg
open Go.ChangeShapes Go.WideShapes Go.ChangeAt Go.RowKit

theorem hexC_dig : ∀ n : Nat, n < 16 → digB ((UInt8.ofNat (hexC n)).toNat : Int) = true := by decide
theorem dgt_dig (x : Int) (j : Nat) : digB ((dgt x j).toNat : Int) = true := by
  have h := nib_lt x (28 - 4 * j)
  exact hexC_dig _ (by omega)
theorem dgs_len (l : List Int) : (dgs l).length = 8 * l.length := by
  induction l with
  | nil => rfl
  | cons a r ih =>
    show (dg a 8 ++ dgs r).length = _
    rw [List.length_append, ih]
    simp [dg]
    omega
theorem sum_dig (s : ByteArray) (sq : S8) (ks : List Int) : digOk (sumB s sq ks) = true := by
  have h1 : (sumB s sq ks).size = 64 := (dgs_len (sumS s sq ks).l).trans rfl
  unfold digOk
  rw [Bool.and_eq_true]
  refine ⟨by simp [h1], ?_⟩
  rw [Lib.toList_data, List.all_eq_true]
  intro c hc
  have hc' : c ∈ dgs (sumS s sq ks).l := hc
  obtain ⟨x, _, hx⟩ := List.mem_flatMap.1 hc'
  obtain ⟨j, _, rfl⟩ := List.mem_map.1 hx
  exact dgt_dig x j

/-- The two variables lie as they were laid. -/
def Roots (w : World) : Prop := LaidAt 0 w sq8.l ∧ LaidAt 1 w cuL
theorem Roots.lt {w : World} (h : Roots w) : 0 < w.heap.size ∧ 1 < w.heap.size :=
  ⟨World.block_lt_of_cell? w ⟨0, 0, none⟩ (h.1 0 (by decide)), World.block_lt_of_cell? w ⟨1, 0, none⟩ (h.2 0 (by rw [cuL_len]; decide))⟩
theorem Roots.up {w w' : World} (h : Roots w) (hb : Below w.heap.size w w') : Roots w' := ⟨h.1.up hb h.lt.1, h.2.up hb h.lt.2⟩
theorem Sum_any (s : ByteArray) (w : World) (hs : s.size ≤ 140737488355328) (h : Roots w) :
    Calls Tryz.prog 16 #[.string s] w fun e w' => e = .returned (.string (sumB s sq8 cuL)) ∧ Below w.heap.size w w' :=
  sum_any w s sq8 cuL hs cuL_len h.1 h.2

set_option maxHeartbeats 1000000 in
theorem digestBegun_any (w : World) (h : Roots w) :
    Calls Tryz.prog 4 #[] w fun e w' => e = .returned (.bool true) ∧ Below w.heap.size w w' := by
  have HR : Hid (Roots w) := h
  clear h
  go_enter Tryz.func4, Tryz.ntmps4
  go_wp2_with fail
  refine (Sum_any ⟨#[97, 98, 99]⟩ w (by decide) HR.out).mono ?_
  rintro e w1 ⟨rfl, hb1⟩
  have B1 : Hid (Below w.heap.size w w1) := hb1
  clear hb1
  rw [abc_sum]
  go_wp2_with fail
  refine (Sum_any ⟨#[]⟩ w1 (by decide) (HR.out.up B1.out)).mono ?_
  rintro e w2 ⟨rfl, hb2⟩
  have B2 : Hid (Below w.heap.size w w2) := B1.out.trans (hb2.mono B1.out.size)
  clear hb2
  go_wp2_with fail
  refine (Is_any _ w2).mono ?_
  rintro e w3 ⟨rfl, rfl⟩
  rw [sum_dig]
  go_wp2
  go_ret
  exact ⟨rfl, B2.out⟩

theorem laid_ints {W : World} {name : String} {l : List Int} {rest : List (String × DataW Unit)} {ps : List MemPlace} {g0 T n : Nat} (h : DataW.LaidVars Tryz.prog W ((name, .agg (l.map fun n => .lit (.int .u32 n))) :: rest) ps)
    (hg0 : Tryz.prog.globalNamed name = some g0) (ht0 : (Tryz.prog.globals[g0]?).map (·.type) = some T) (hT : Tryz.prog.underlying T = some (.array n 71)) (hn : l.length = n) : LaidAt g0 W l ∧ ∃ q, DataW.LaidVars Tryz.prog W rest q := by
  obtain ⟨g, t, cs, fuel, p, q, hg, ht, hv, hd, hrest, _⟩ := h
  obtain rfl := Option.some.inj (hg0.symm.trans hg)
  obtain rfl := Option.some.inj (ht0.symm.trans ht)
  refine ⟨fun r hr => ?_, q, hrest⟩
  obtain ⟨xs, m, _, ex, _, hl, hel⟩ := DataW.trod_array hT hd
  have c5 : Tryz.prog.cellsOf 71 = 1 := by kernel_rfl
  have e3 : (xs.map (·.1)) = l.map fun n => .lit (.int .u32 n) := (DataW.agg.inj (Prod.mk.inj ex).1).symm
  have hxl : xs.length = l.length := by have := congrArg List.length e3; simpa using this
  have hE := hel r (by omega)
  rw [c5, Nat.mul_one, List.getElem?_eq_getElem (by omega)] at hE
  obtain ⟨z, e1, e2, _⟩ := DataW.trod_int Tryz.underlying71 hE
  have e4 : (xs.map (·.1))[r]? = (l.map fun n => (DataW.lit (.int .u32 n) : DataW Unit))[r]? := by rw [e3]
  rw [List.getElem?_map, List.getElem?_map, List.getElem?_eq_getElem (by omega : r < xs.length), List.getElem?_eq_getElem hr, e2] at e4
  have hz : z = l[r] := by
    simpa only [Option.map_some, Option.some.injEq, DataW.lit.injEq, Lit.int.injEq, true_and] using e4
  rw [World.var?_cell hg hv r, ← hz]
  have : cs.toList[r]? = some (.int .u32 z) := by
    have h0 : ((cs.toList.drop r).take 1)[0]? = some (.int .u32 z) := by rw [e1]; rfl
    simpa using h0
  simpa using this
end Go.Proofs.YtcdgdmhlbgbklaaGreatDoor.Dg

/- The digest's own pair, leaf, root, Root and Pair. -/
namespace Go.Proofs.YtcdgdmhlbgbklaaGreatDoor.Dg
open Go.RowKit

/-- The sum, its numbers laid. -/
def sm (s : ByteArray) : ByteArray := sumB s sq8 cuL
theorem sm_dig (s : ByteArray) : digOk (sm s) = true := sum_dig s sq8 cuL
theorem sm_size (s : ByteArray) : (sm s).size = 64 := by
  have := sm_dig s
  unfold digOk at this
  simp at this
  exact this.1
def leafB (s : ByteArray) : ByteArray := sm ⟨(0 :: s.data.toList).toArray⟩
def pairB (a b : ByteArray) : ByteArray := sm ⟨(1 :: ((rawB a).data.toList ++ (rawB b).data.toList)).toArray⟩
theorem catS (x y z : ByteArray) (h : x.data.toList ++ y.data.toList = z.data.toList) (hl : x.size + y.size ≤ 9223372036854775807) (W : World) : (Op.stringOp .add x y).run Tryz.prog W = .ok (.string z) W := by
  have e : x ++ y = z := by
    rw [d_bytes (s := z) rfl, ← h]
    exact d_bytes (by simp)
  have hl2 : (x.size : Int) + (y.size : Int) ≤ 9223372036854775807 := by omega
  simp [Op.stringOp, e, hl2]
theorem rawB_size (s : ByteArray) : (rawB s).size = s.size / 2 := by
  unfold rawB
  rw [d_size (s := ⟨(rawN s (s.size / 2)).toArray⟩) (l := rawN s (s.size / 2)) rfl, rawN_len]

set_option maxHeartbeats 1000000 in
theorem leaf_any (s : ByteArray) (w : World) (hs : s.size ≤ 1000000) (h : Roots w) :
    Calls Tryz.prog 100 #[.string s] w fun e w' => e = .returned (.string (leafB s)) ∧ Below w.heap.size w w' := by
  obtain ⟨x, hx⟩ : ∃ x : ByteArray, x = ⟨(0 :: s.data.toList).toArray⟩ := ⟨_, rfl⟩
  have k1 := catS ⟨#[0]⟩ s x (by rw [hx]; rfl) (by have : (⟨#[0]⟩ : ByteArray).size = 1 := rfl; omega)
  have HS : Hid (Calls Tryz.prog 16 #[.string x] w fun e w' => e = .returned (.string (leafB s)) ∧ Below w.heap.size w w') := by
    have hz : x.size ≤ 140737488355328 := by
      rw [hx, d_size (s := ⟨(0 :: s.data.toList).toArray⟩) (l := 0 :: s.data.toList) rfl, List.length_cons, ← d_size (s := s) rfl]
      omega
    have := Sum_any x w hz h
    unfold leafB sm
    rw [← hx]
    exact this
  generalize leafB s = y at HS
  clear hx
  go_enter Tryz.func100, Tryz.ntmps100
  go_wp2_with fail
  refine HS.out.mono ?_
  rintro e w1 ⟨rfl, hb1⟩
  have B1 : Hid (Below w.heap.size w w1) := hb1
  clear hb1
  go_wp2
  go_ret
  exact ⟨rfl, B1.out⟩

set_option maxHeartbeats 1000000 in
theorem pair_any (a b : ByteArray) (w : World) (ha : a.size = 64) (hb : b.size = 64) (h : Roots w) :
    Calls Tryz.prog 101 #[.string a, .string b] w fun e w' => e = .returned (.string (pairB a b)) ∧ Below w.heap.size w w' := by
  have ra := rawB_size a
  have rb := rawB_size b
  obtain ⟨x, hx⟩ : ∃ x : ByteArray, x = ⟨(1 :: (rawB a).data.toList).toArray⟩ := ⟨_, rfl⟩
  obtain ⟨y, hy⟩ : ∃ y : ByteArray, y = ⟨(1 :: ((rawB a).data.toList ++ (rawB b).data.toList)).toArray⟩ := ⟨_, rfl⟩
  have k1 := catS ⟨#[1]⟩ (rawB a) x (by rw [hx]; rfl) (by have : (⟨#[1]⟩ : ByteArray).size = 1 := rfl; omega)
  have hxz : x.size = 33 := by rw [hx, d_size (s := ⟨(1 :: (rawB a).data.toList).toArray⟩) (l := 1 :: (rawB a).data.toList) rfl, List.length_cons, ← d_size (s := rawB a) rfl]; omega
  have k2 := catS x (rawB b) y (by rw [hx, hy]; rfl) (by omega)
  have hyz : y.size = 65 := by rw [hy, d_size (s := ⟨(1 :: ((rawB a).data.toList ++ (rawB b).data.toList)).toArray⟩) (l := 1 :: ((rawB a).data.toList ++ (rawB b).data.toList)) rfl, List.length_cons, List.length_append, ← d_size (s := rawB a) rfl, ← d_size (s := rawB b) rfl]; omega
  have HA : Hid (∀ w, Calls Tryz.prog 152 #[.string a] w fun e w' => e = .returned (.string (rawB a)) ∧ Below w.heap.size w w') := fun w => raw_any a w (by omega)
  have HB : Hid (∀ w, Calls Tryz.prog 152 #[.string b] w fun e w' => e = .returned (.string (rawB b)) ∧ Below w.heap.size w w') := fun w => raw_any b w (by omega)
  have HS : Hid (∀ w, Roots w → Calls Tryz.prog 16 #[.string y] w fun e w' => e = .returned (.string (pairB a b)) ∧ Below w.heap.size w w') := fun w h => by
    have := Sum_any y w (by omega) h
    unfold pairB sm
    rw [← hy]
    exact this
  have HR : Hid (Roots w) := h
  generalize pairB a b = z at HS
  generalize rawB a = p at k1 HA
  generalize rawB b = q at k2 HB
  clear hx hy hxz hyz ra rb ha hb h
  go_enter Tryz.func101, Tryz.ntmps101
  go_wp2_with fail
  refine (HA.out w).mono ?_
  rintro e w1 ⟨rfl, hb1⟩
  have B1 : Hid (Below w.heap.size w w1) := hb1
  clear hb1
  go_wp2_with fail
  refine (HB.out w1).mono ?_
  rintro e w2 ⟨rfl, hb2⟩
  have B2 : Hid (Below w.heap.size w w2) := B1.out.trans (hb2.mono B1.out.size)
  clear hb2
  go_wp2_with fail
  refine (HS.out w2 (HR.out.up B2.out)).mono ?_
  rintro e w3 ⟨rfl, hb3⟩
  have B3 : Hid (Below w.heap.size w w3) := B2.out.trans (hb3.mono B2.out.size)
  clear hb3
  go_wp2
  go_ret
  exact ⟨rfl, B3.out⟩

/-- The root of texts. -/
def rootF : Nat → List ByteArray → ByteArray
  | 0, _ => sm ⟨#[]⟩
  | f + 1, ss => if ss.length = 0 then sm ⟨#[]⟩ else if ss.length = 1 then leafB (ss.getD 0 ⟨#[]⟩) else pairB (rootF f (ss.take (side ss.length))) (rootF f (ss.drop (side ss.length)))
def rootB (ss : List ByteArray) : ByteArray := rootF ss.length ss
theorem rootF_dig (f : Nat) (ss : List ByteArray) : digOk (rootF f ss) = true := by
  cases f with
  | zero => exact sm_dig _
  | succ f =>
    unfold rootF
    split
    · exact sm_dig _
    · split
      · exact sm_dig _
      · exact sm_dig _
theorem dig_size {s : ByteArray} (h : digOk s = true) : s.size = 64 := by
  unfold digOk at h
  simp at h
  exact h.1
theorem rootF_more : ∀ f g (ss : List ByteArray), ss.length ≤ f → ss.length ≤ g → rootF f ss = rootF g ss := by
  intro f
  induction f with
  | zero =>
    intro g ss h1 _
    cases g with
    | zero => rfl
    | succ g => unfold rootF; rw [if_pos (by omega)]
  | succ f ih =>
    intro g ss h1 h2
    cases g with
    | zero => unfold rootF; rw [if_pos (by omega)]
    | succ g =>
      unfold rootF
      by_cases h0 : ss.length = 0
      · rw [if_pos h0, if_pos h0]
      · rw [if_neg h0, if_neg h0]
        by_cases h3 : ss.length = 1
        · rw [if_pos h3, if_pos h3]
        · rw [if_neg h3, if_neg h3]
          have hl := side_lt ss.length (by omega)
          have hp := side_pos ss.length
          rw [ih g (ss.take (side ss.length)) (by rw [List.length_take]; omega) (by rw [List.length_take]; omega), ih g (ss.drop (side ss.length)) (by rw [List.length_drop]; omega) (by rw [List.length_drop]; omega)]
theorem rootB_split (ss : List ByteArray) (h : 2 ≤ ss.length) : rootB ss = pairB (rootB (ss.take (side ss.length))) (rootB (ss.drop (side ss.length))) := by
  obtain ⟨f, hf⟩ : ∃ f, ss.length = f + 1 := ⟨ss.length - 1, by omega⟩
  have hl := side_lt ss.length h
  have hp := side_pos ss.length
  have e : rootB ss = pairB (rootF f (ss.take (side ss.length))) (rootF f (ss.drop (side ss.length))) := by
    unfold rootB
    rw [show rootF ss.length ss = rootF (f + 1) ss from by rw [hf]]
    conv => lhs; unfold rootF
    rw [if_neg (by omega), if_neg (by omega)]
  rw [e]
  unfold rootB
  rw [rootF_more f _ _ (by rw [List.length_take]; omega) (Nat.le_refl _), rootF_more f _ _ (by rw [List.length_drop]; omega) (Nat.le_refl _)]

/-- Texts that lie one behind the other. -/
def Row (w : World) (g o : Nat) (ss : List ByteArray) : Prop := ∀ j (hj : j < ss.length), w.cell? ⟨g, o + j, none⟩ = some (.string ss[j])
theorem Row.up {w w' : World} {g o : Nat} {ss : List ByteArray} (h : Row w g o ss) (hb : Below w.heap.size w w') (hg : g < w.heap.size) : Row w' g o ss := fun j hj => (hb.cell (p := ⟨g, o + j, none⟩) hg).trans (h j hj)
theorem Row.take {w : World} {g o : Nat} {ss : List ByteArray} (h : Row w g o ss) (k : Nat) : Row w g o (ss.take k) := fun j hj => by
  rw [h j (by rw [List.length_take] at hj; omega)]
  simp
theorem Row.drop {w : World} {g o : Nat} {ss : List ByteArray} (h : Row w g o ss) (k : Nat) : Row w g (o + k) (ss.drop k) := fun j hj => by
  rw [Nat.add_assoc, h (k + j) (by rw [List.length_drop] at hj; omega)]
  simp
theorem cut_front (g o n cap k : Nat) (hk : k ≤ n) (hc : n ≤ cap) (W : World) : (Instr.slice 22 (.slice (some ⟨g, o, none⟩) n cap) none (some (.int .i64 (k : Int))) none).run Tryz.prog W = .ok (.slice (some ⟨g, o, none⟩) k cap) W := by
  have hkc : k ≤ cap := Nat.le_trans hk hc
  simp [Instr.slice, Instr.sliceBounds, Instr.sliceBound, run_underlying Tryz.underlying22, asIntOf, hkc]
  intro _
  simp [Addr.add]
theorem cut_back (g o n cap k : Nat) (hk : k < n) (hc : n ≤ cap) (W : World) : (Instr.slice 22 (.slice (some ⟨g, o, none⟩) n cap) (some (.int .i64 (k : Int))) none none).run Tryz.prog W = .ok (.slice (some ⟨g, o + k, none⟩) (n - k) (cap - k)) W := by
  have hkn : k ≤ n := by omega
  simp [Instr.slice, Instr.sliceBounds, Instr.sliceBound, run_underlying Tryz.underlying22, asIntOf, hkn, Addr.add]
  rw [if_neg (by omega)]
  by_cases h0 : k = 0
  · simp [h0]
  · simp [h0]

set_option maxHeartbeats 2000000 in
set_option maxRecDepth 100000 in
theorem root_any : ∀ (f : Nat) (g o cap : Nat) (ss : List ByteArray) (w : World), ss.length ≤ f → 0 < ss.length → ss.length ≤ 2000 → ss.length ≤ cap → (∀ s ∈ ss, s.size ≤ 100000) → Row w g o ss → Roots w →
    Calls Tryz.prog 59 #[.slice (some ⟨g, o, none⟩) ss.length cap] w fun e w' => e = .returned (.string (rootB ss)) ∧ Below w.heap.size w w' := by
  intro f
  induction f with
  | zero => intro g o cap ss w h1 h2; omega
  | succ f ih =>
    intro g o cap ss w h1 h2 h3 h4 h5 h6 h7
    have hg : g < w.heap.size := World.block_lt_of_cell? w ⟨g, o + 0, none⟩ (h6 0 h2)
    by_cases hone : ss.length = 1
    · have c0 : w.cell? ⟨g, o, none⟩ = some (.string ss[0]) := h6 0 h2
      have hB : rootB ss = leafB ss[0] := by
        unfold rootB
        rw [show rootF ss.length ss = rootF 1 ss from by rw [hone]]
        unfold rootF
        rw [if_neg (by omega), if_pos hone]
        congr 1
        simp [h2]
      have HL : Hid (Calls Tryz.prog 100 #[.string ss[0]] w fun e w' => e = .returned (.string (rootB ss)) ∧ Below w.heap.size w w') := by rw [hB]; exact leaf_any ss[0] w (by have := h5 ss[0] (List.getElem_mem h2); omega) h7
      generalize rootB ss = y at HL
      generalize ss[0] = x at c0 HL
      rw [hone]
      clear ih h1 h2 h3 h4 h5 h6 h7 hone hB
      go_enter Tryz.func59, Tryz.ntmps59
      go_wp2_with fail
      refine HL.out.mono ?_
      rintro e w1 ⟨rfl, hb1⟩
      have B1 : Hid (Below w.heap.size w w1) := hb1
      clear hb1
      go_wp2
      go_ret
      exact ⟨rfl, B1.out⟩
    · have hl := side_lt ss.length (by omega)
      have hp := side_pos ss.length
      have hsp := rootB_split ss (by omega)
      have HF : Hid (Calls Tryz.prog 58 #[.int .i64 ss.length] w fun e w' => e = .returned (.int .i64 (side ss.length : Nat)) ∧ w' = w) := firstSide_any ss.length w (by omega)
      generalize side ss.length = k at hl hp hsp HF
      have e1 : (ss.take k).length = k := by rw [List.length_take]; omega
      have e2 : (ss.drop k).length = ss.length - k := List.length_drop ..
      have HR1 : Hid (∀ w', Below w.heap.size w w' → Calls Tryz.prog 59 #[.slice (some ⟨g, o, none⟩) k cap] w' fun e w'' => e = .returned (.string (rootB (ss.take k))) ∧ Below w'.heap.size w' w'') := fun w' hb => by
        have := ih g o cap (ss.take k) w' (by omega) (by omega) (by omega) (by omega) (fun s hs => h5 s (List.mem_of_mem_take hs)) ((h6.take k).up hb hg) (h7.up hb)
        rwa [e1] at this
      have HR2 : Hid (∀ w', Below w.heap.size w w' → Calls Tryz.prog 59 #[.slice (some ⟨g, o + k, none⟩) (ss.length - k) (cap - k)] w' fun e w'' => e = .returned (.string (rootB (ss.drop k))) ∧ Below w'.heap.size w' w'') := fun w' hb => by
        have := ih g (o + k) (cap - k) (ss.drop k) w' (by omega) (by omega) (by omega) (by omega) (fun s hs => h5 s (List.mem_of_mem_drop hs)) ((h6.drop k).up hb hg) (h7.up hb)
        rwa [e2] at this
      have HP : Hid (∀ w', Below w.heap.size w w' → Calls Tryz.prog 101 #[.string (rootB (ss.take k)), .string (rootB (ss.drop k))] w' fun e w'' => e = .returned (.string (rootB ss)) ∧ Below w'.heap.size w' w'') := fun w' hb => by
        rw [hsp]
        exact pair_any _ _ w' (dig_size (rootF_dig _ _)) (dig_size (rootF_dig _ _)) (h7.up hb)
      have hs1 := cut_front g o ss.length cap k (by omega) h4
      have hs2 := cut_back g o ss.length cap k hl h4
      generalize rootB (ss.take k) = r1 at HR1 HP
      generalize rootB (ss.drop k) = r2 at HR2 HP
      generalize rootB ss = r at HP
      have hn0 : ((ss.length : Int) == 0) = false := beq_eq_false_iff_ne.2 (by omega)
      have hn1 : ((ss.length : Int) == 1) = false := beq_eq_false_iff_ne.2 (by omega)
      have i1 : (0 : Int) ≤ (k : Int) := by omega
      have i2 : (k : Int) ≤ (ss.length : Int) := by omega
      clear ih h1 h2 h3 h5 h6 h7 hone hsp e1 e2 hg
      generalize ss.length = n at *
      go_enter Tryz.func59, Tryz.ntmps59
      go_wp2_with (go_at_call 58; refine HF.out.mono ?_; rintro e w' ⟨rfl, rfl⟩)
      go_region_held3 (fun W => Below w'.heap.size w' W)
        (first | assumption | (exact (Below.refl _ _).drew) | (exact Below.trans (by assumption) (hb3.mono (Below.size (by assumption)))) | (exact Below.trans (by assumption) (hb2.mono (Below.size (by assumption)))) | (exact Below.trans (by assumption) (hb1.mono (Below.size (by assumption)))))
        (first
          | (go_at_call_of 59 (Value.slice (some ⟨g, o, none⟩) k cap); refine (HR1.out _ (by assumption)).mono ?_; rintro e w1 ⟨rfl, hb1⟩)
          | (go_at_call_of 59 (Value.slice (some ⟨g, o + k, none⟩) (n - k) (cap - k)); refine (HR2.out _ (by assumption)).mono ?_; rintro e w2 ⟨rfl, hb2⟩)
          | (go_at_call 101; refine (HP.out _ (by assumption)).mono ?_; rintro e w3 ⟨rfl, hb3⟩)
          | fail)
      all_goals
        have B3 : Hid (Below w'.heap.size w' w3) := by assumption
        go_wp2
        go_ret
        exact ⟨rfl, B3.out⟩

set_option maxHeartbeats 1000000 in
theorem root_zero (a : Option Addr) (cap : Nat) (w : World) (h : Roots w) :
    Calls Tryz.prog 59 #[.slice a 0 cap] w fun e w' => e = .returned (.string (rootB [])) ∧ Below w.heap.size w w' := by
  have HS : Hid (Calls Tryz.prog 16 #[.string ⟨#[]⟩] w fun e w' => e = .returned (.string (rootB [])) ∧ Below w.heap.size w w') := Sum_any ⟨#[]⟩ w (by decide) h
  generalize rootB [] = y at HS
  clear h
  go_enter Tryz.func59, Tryz.ntmps59
  go_wp2_with fail
  refine HS.out.mono ?_
  rintro e w1 ⟨rfl, hb1⟩
  have B1 : Hid (Below w.heap.size w w1) := hb1
  clear hb1
  go_wp2
  go_ret
  exact ⟨rfl, B1.out⟩
end Go.Proofs.YtcdgdmhlbgbklaaGreatDoor.Dg

/- The document's own PairOf, of two digests. -/
namespace Go.Proofs.YtcdgdmhlbgbklaaGreatDoor.Dg
open Go.RowKit

/-- A digit of a digest: what it is worth. -/
theorem dig_worth (c : Nat) (h : digB (c : Int) = true) : hexI (c : Int) = ((wth c : Nat) : Int) ∧ wth c < 16 := by
  unfold digB at h
  unfold hexI wth
  simp at h
  rcases h with h | h
  · rw [if_pos (by omega), if_pos (by omega)]
    omega
  · rw [if_neg (by omega), if_pos (by omega), if_neg (by omega)]
    omega
theorem two_dig (a b : Nat) (ha : wth a < 16) (hb : wth b < 16) : two a b = 16 * wth a + wth b := by
  unfold two
  rw [Nat.mod_eq_of_lt (by omega), Nat.mul_comm, show 16 * wth a = 2 ^ 4 * wth a from rfl, ← Nat.two_pow_add_eq_or_of_lt hb]
theorem dig_at {s : ByteArray} (h : digOk s = true) (k : Nat) (hk : k < 64) : digB (((s.data.toList.getD k 0).toNat : Nat) : Int) = true := by
  unfold digOk at h
  rw [Bool.and_eq_true, decide_eq_true_eq] at h
  have hk' : k < s.data.toList.length := by rw [s_len]; omega
  rw [Lib.toList_data] at h
  have := List.all_eq_true.1 h.2 s.data.toList[k] (List.getElem_mem hk')
  rw [List.getD_eq_getElem?_getD, List.getElem?_eq_getElem hk']
  exact this
/-- Two texts, one behind the other. -/
def bothB (a b : ByteArray) : ByteArray := ⟨(a.data.toList ++ b.data.toList).toArray⟩
theorem both_get (a b : ByteArray) (ha : a.size = 64) (k : Nat) : (bothB a b).data.toList.getD k 0 = if k < 64 then a.data.toList.getD k 0 else b.data.toList.getD (k - 64) 0 := by
  have hl : a.data.toList.length = 64 := by rw [s_len]; exact ha
  show (a.data.toList ++ b.data.toList).getD k 0 = _
  rw [List.getD_eq_getElem?_getD, List.getElem?_append, hl]
  split
  · rw [List.getD_eq_getElem?_getD]
  · rw [List.getD_eq_getElem?_getD]
theorem raw_left (a b : ByteArray) (ha : a.size = 64) (k : Nat) (hk : k ≤ 32) : rawN (bothB a b) k = rawN a k := by
  induction k with
  | zero => rfl
  | succ k ih =>
    show rawN (bothB a b) k ++ _ = rawN a k ++ _
    rw [ih (by omega), both_get a b ha, both_get a b ha, if_pos (by omega), if_pos (by omega)]
theorem raw_right (a b : ByteArray) (ha : a.size = 64) (k : Nat) : rawN (bothB a b) (32 + k) = rawN a 32 ++ rawN b k := by
  induction k with
  | zero => rw [Nat.add_zero, raw_left a b ha 32 (Nat.le_refl _)]; simp [rawN]
  | succ k ih =>
    show rawN (bothB a b) (32 + k) ++ [UInt8.ofNat (two ((bothB a b).data.toList.getD (2 * (32 + k)) 0).toNat ((bothB a b).data.toList.getD (2 * (32 + k) + 1) 0).toNat)] = _
    rw [ih, both_get a b ha, both_get a b ha, if_neg (by omega), if_neg (by omega), show 2 * (32 + k) - 64 = 2 * k from by omega, show 2 * (32 + k) + 1 - 64 = 2 * k + 1 from by omega, List.append_assoc]
    rfl
theorem both_size (a b : ByteArray) (ha : a.size = 64) (hb : b.size = 64) : (bothB a b).size = 128 := by
  rw [d_size (s := bothB a b) (l := a.data.toList ++ b.data.toList) rfl, List.length_append, s_len, s_len, ha, hb]
theorem pair_both (a b : ByteArray) (ha : a.size = 64) (hb : b.size = 64) : pairB a b = sm ⟨(1 :: rawN (bothB a b) 64).toArray⟩ := by
  unfold pairB rawB
  rw [ha, hb, show 64 = 32 + 32 from rfl, raw_right a b ha 32]

set_option maxHeartbeats 4000000 in
set_option maxRecDepth 100000 in
theorem PairOf_any (a b : ByteArray) (w : World) (ha : digOk a = true) (hb : digOk b = true) :
    Calls Tryz.prog 75 #[.string a, .string b] w fun e w' => e = .returned (.string (pairB a b)) ∧ Below w.heap.size w w' := by
  obtain ⟨i0, hi, hz0, hz1, hz2⟩ := info_p infB
  have hsa := dig_size ha
  have hsb := dig_size hb
  obtain ⟨s, hs⟩ : ∃ s, s = bothB a b := ⟨_, rfl⟩
  have hcat : ∀ W : World, (Op.stringOp .add a b).run Tryz.prog W = .ok (.string s) W := catS a b s (by rw [hs]; rfl) (by omega)
  have hss : s.size = 128 := by rw [hs]; exact both_size a b hsa hsb
  have HDG : Hid (∀ k, k < 128 → digB (((s.data.toList.getD k 0).toNat : Nat) : Int) = true) := fun k hk => by
    rw [hs, both_get a b hsa]
    split
    · exact dig_at ha k (by assumption)
    · exact dig_at hb (k - 64) (by omega)
  have HPB : Hid (pairB a b = sm ⟨(1 :: rawN s 64).toArray⟩) := by rw [hs]; exact pair_both a b hsa hsb
  have HSU : Hid (∀ W : World, Calls Tryz.prog 73 #[.string ⟨(1 :: rawN s 64).toArray⟩] W fun e w' => e = .returned (.string (pairB a b)) ∧ Below W.heap.size W w') := fun W => by
    rw [HPB.out]
    unfold sm
    rw [sum_plain]
    exact Sum_doc _ W (by rw [d_size (s := ⟨(1 :: rawN s 64).toArray⟩) (l := 1 :: rawN s 64) rfl, List.length_cons, rawN_len]; decide)
  have HSZ : Hid (s.size = 128) := hss
  have hs2 : (s.size : Int) = 128 := by omega
  generalize pairB a b = pr at HSU
  clear ha hb hs hsa hsb hss HPB
  have HO0 : Hid ((w.alloc (.cells #[.int .u8 1] 5)).ownsRow w.heap.size 5 1 (.slice (some ⟨w.heap.size, 0, none⟩) 1 1) 1 [.int .u8 1]) := World.ownsRow_lit w #[.int .u8 1] 1 (Nat.le_refl _) (by unfold maxLen; omega) rfl
  go_enter Tryz.func75, Tryz.ntmps75
  go_wp2
  go_loopw [5, 7] (fun v i wr => ∃ k : Nat, k ≤ 64 ∧ i = .int .i64 (2 * (k : Int)) ∧ wr.ownsRow w.heap.size 5 1 v (k + 1) (bcs (1 :: rawN s k)) ∧ Below w.heap.size w wr) (fun _ i _ => 129 - (intOf i).toNat)
  case atStart => exact ⟨0, by omega, rfl, HO0.out, (Below.refl _ _).alloc (Nat.le_refl _) _⟩
  case round =>
    clear HO0 hcat
    obtain ⟨k, hk, rfl, hok, hb⟩ := hrel
    have HO : Hid (wr.ownsRow w.heap.size 5 1 u5 (k + 1) (bcs (1 :: rawN s k))) := hok
    have HB : Hid (Below w.heap.size w wr) := hb
    clear hok hb
    by_cases hlt : k < 64
    · have hsz := HSZ.out
      have k1 : 2 * k < s.size := by omega
      have k2 : 2 * k + 1 < s.size := by omega
      have g1 := dig_worth _ (HDG.out (2 * k) (by omega))
      have g2 := dig_worth _ (HDG.out (2 * k + 1) (by omega))
      rw [getD_at s _ k1] at g1
      rw [getD_at s _ k2] at g2
      have HN : Hid (rawN s (k + 1) = rawN s k ++ [UInt8.ofNat (two s[2 * k].toNat s[2 * k + 1].toNat)]) := by
        show _ = _
        rw [show rawN s (k + 1) = rawN s k ++ [UInt8.ofNat (two (s.data.toList.getD (2 * k) 0).toNat (s.data.toList.getD (2 * k + 1) 0).toNat)] from rfl, getD_at s _ k1, getD_at s _ k2]
      have HW1 : Hid (∀ w, Calls Tryz.prog 131 #[.int .u8 (s[2 * k].toNat : Nat)] w fun e w' => e = .returned (.int .i64 (wth s[2 * k].toNat : Nat)) ∧ w' = w) := fun w => by rw [← g1.1]; exact hexOf_any _ w s[2 * k].toNat_lt
      have HW2 : Hid (∀ w, Calls Tryz.prog 131 #[.int .u8 (s[2 * k + 1].toNat : Nat)] w fun e w' => e = .returned (.int .i64 (wth s[2 * k + 1].toNat : Nat)) ∧ w' = w) := fun w => by rw [← g2.1]; exact hexOf_any _ w s[2 * k + 1].toNat_lt
      have htw := two_dig s[2 * k].toNat s[2 * k + 1].toNat g1.2 g2.2
      have l1 := g1.2
      have l2 := g2.2
      generalize two s[2 * k].toNat s[2 * k + 1].toNat = tw at HN htw
      generalize wth s[2 * k].toNat = x1 at HW1 l1 htw g1
      generalize wth s[2 * k + 1].toNat = x2 at HW2 l2 htw g2
      obtain ⟨y1, hy1⟩ : ∃ y1, y1 = 16 * x1 := ⟨_, rfl⟩
      have m1 : 16 * (x1 : Int) = (y1 : Int) := by omega
      have m2 : (y1 : Int) + (x2 : Int) = (tw : Int) := by omega
      have htl : tw < 256 := by omega
      have HT : Hid (tw < 256) := htl
      obtain ⟨c1, hc1⟩ : ∃ c1 : Int, (s[2 * k].toNat : Int) = c1 := ⟨_, rfl⟩
      obtain ⟨c2, hc2⟩ : ∃ c2 : Int, (s[2 * k + 1].toNat : Int) = c2 := ⟨_, rfl⟩
      rw [hc1] at HW1
      rw [hc2] at HW2
      have b0 : (0 : Int) ≤ 2 * (k : Int) := by omega
      have b1 : (0 : Int) ≤ 2 * (k : Int) + 1 := by omega
      have d0 : 2 * (k : Int) < s.size := by omega
      have d1 : 2 * (k : Int) + 1 < s.size := by omega
      have t0 : (2 * (k : Int)).toNat = 2 * k := by omega
      have t1 : (2 * (k : Int) + 1).toNat = 2 * k + 1 := by omega
      have hki : (k : Int) ≤ 500000 := by omega
      have q1 : k + 1 + 1 ≤ maxLen := by unfold maxLen; omega
      have q2 : (k + 1 + 1) * 1 ≤ 140737488355328 := by omega
      have q3 : w.heap.size ≤ ((wr.alloc (.cells #[.int .u8 (tw : Int)] 5)).drew).heap.size := by show w.heap.size ≤ (wr.alloc (.cells #[.int .u8 (tw : Int)] 5)).heap.size; rw [World.size_alloc]; have := HB.out.size; omega
      have q4 : ((wr.alloc (.cells #[.int .u8 (tw : Int)] 5)).drew).heap.size = wr.heap.size + 1 := by show (wr.alloc (.cells #[.int .u8 (tw : Int)] 5)).heap.size = _; rw [World.size_alloc]
      have HOW : Hid (((wr.alloc (.cells #[.int .u8 (tw : Int)] 5)).drew).ownsRow w.heap.size 5 1 u5 (k + 1) (bcs (1 :: rawN s k))) := HO.out.alloc _
      have HNW : Hid (∀ (j : Nat) (u : Value), [Value.int .u8 (tw : Int)][j]? = some u → ((wr.alloc (.cells #[.int .u8 (tw : Int)] 5)).drew).cell? ((⟨wr.heap.size, 0, none⟩ : Addr).add j) = some u) := by
        intro j u hj
        match j, hj with
        | 0, hj =>
          simp at hj
          subst hj
          exact al_atC wr _ _ _ 0 _ rfl rfl
      have hone : ∀ u ∈ [Value.int .u8 (tw : Int)], u.oneCell' = true := by intro u hu; simp at hu; subst hu; rfl
      have j1 : IntKind.i64.wrap (2 * (k : Int) + 1) = 2 * (k : Int) + 1 := wr1 k (by omega)
      have j2 := wr62 y1 (by omega)
      have j3 := wr62 tw (by omega)
      have j4 : IntKind.u8.wrap (tw : Int) = (tw : Int) := by rw [IntKind.wrap_u8]; clear j1 j2 j3; omega
      clear hsz l1 l2 htl hs2 hy1 htw g1 g2
      go_wp2
      go_region_held3 (fun w' => Below w.heap.size w w')
        (first | assumption | (exact HB.out.drew) | (exact (HB.out.alloc HB.out.size _).drew) | (exact ((HB.out.alloc HB.out.size _).drew).grown hgrow q3 (fun j hj => (HO.out.lt j hj).1)))
        (first
          | (go_at_call_of 131 (Value.int IntKind.u8 c1); refine (HW1.out _).mono ?_; rintro e w' ⟨rfl, rfl⟩)
          | (go_at_call_of 131 (Value.int IntKind.u8 c2); refine (HW2.out _).mono ?_; rintro e w' ⟨rfl, rfl⟩)
          | ((refine step_append_lies ((wr.alloc (.cells #[.int .u8 (tw : Int)] 5)).drew) (by rfl) (Operand.tmp 18) (Operand.tmp 31) 125 (by rfl) w.heap.size 5 i0 (.int .u8 0) 1 1 Tryz.underlying125 hi hz0 hz1 hz2 rfl (by decide) u5 (k + 1) (bcs (1 :: rawN s k)) (by rfl) HOW.out ⟨wr.heap.size, 0, none⟩ 1 1 [.int .u8 (tw : Int)] (by rfl) rfl HNW.out hone (by decide) q1 q2 q3 (wr.heap.size + 1) q4 ?_; intro g cap w1 hown1 hgrow hat hltg))
          | fail)
      all_goals
        have hrow : ∀ j, Value.ownBlock u5 = some j → w.heap.size ≤ j := fun j hj => (HO.out.lt j hj).1
        have HB5 : Hid (Below w.heap.size w w1) := ((HB.out.alloc HB.out.size _).drew).grown hgrow q3 hrow
        have HO5 : Hid (w1.ownsRow w.heap.size 5 1 (.slice (some ⟨g, 0, none⟩) (k + 1 + 1) cap) (k + 1 + 1) (bcs (1 :: rawN s (k + 1)))) := by
          have e : bcs (1 :: rawN s (k + 1)) = bcs (1 :: rawN s k) ++ [.int .u8 (tw : Int)] := by
            rw [HN.out]
            have e2 : (UInt8.ofNat tw).toNat = tw := by have := HT.out; simp [UInt8.toNat_ofNat']; omega
            simp [bcs, e2]
          rw [e]
          exact hown1
        clear hown1 hgrow hat hltg hrow j1 j2 j3 j4
        go_wp2
        exact ⟨⟨k + 1, by omega, by go_num, HO5.out, HB5.out⟩, by simp [intOf]; omega⟩
    · obtain rfl : k = 64 := by omega
      obtain ⟨g, cap, hug, -, -⟩ := HO.out.form (by omega)
      subst hug
      have hcv : (convert 125 9 (.slice (some ⟨g, 0, none⟩) (64 + 1) cap)).run Tryz.prog wr = .ok (.string ⟨(1 :: rawN s 64).toArray⟩) wr := by
        rw [show 64 + 1 = (1 :: rawN s 64).length from by rw [List.length_cons, rawN_len]]
        refine run_convert_bytes_back wr 125 9 5 ⟨g, 0, none⟩ cap (1 :: rawN s 64) Tryz.underlying125 Tryz.underlying5 Tryz.underlying9 fun j hj => ?_
        rw [add0C]
        have hj' : j < 65 := by rw [List.length_cons, rawN_len] at hj; exact hj
        refine (HO.out.cellAt j (by omega)).trans ?_
        rw [bcs_get _ j hj, List.getD_eq_getElem?_getD, List.getElem?_eq_getElem hj]
        rfl
      generalize (⟨(1 :: rawN s 64).toArray⟩ : ByteArray) = by1 at hcv HSU
      go_wp2_with fail
      refine (HSU.out _).mono ?_
      rintro e w2 ⟨rfl, hb2⟩
      have B2 : Hid (Below w.heap.size w w2) := bl_tr HB.out hb2
      clear hb2
      go_wp2
      go_ret
      exact ⟨rfl, B2.out⟩
end Go.Proofs.YtcdgdmhlbgbklaaGreatDoor.Dg

/- Roots, plain: by halves, and level by level: the same. -/
namespace Go.Proofs.YtcdgdmhlbgbklaaGreatDoor.Dg
open Go.RowKit

theorem sideF_pow : ∀ f n e : Nat, 2 ^ e < n → n ≤ 2 ^ e + f → ∃ e', sideF f n (2 ^ e) = 2 ^ e' ∧ 2 ^ e' < n ∧ n ≤ 2 ^ (e' + 1) := by
  intro f
  induction f with
  | zero => intro n e h1 h2; omega
  | succ f ih =>
    intro n e h1 h2
    have hp := Nat.two_pow_pos e
    have hs : 2 ^ (e + 1) = 2 * 2 ^ e := by rw [Nat.pow_succ, Nat.mul_comm]
    unfold sideF
    by_cases h : 2 * 2 ^ e < n
    · rw [if_pos h, ← hs]
      exact ih n (e + 1) (by omega) (by omega)
    · rw [if_neg h]
      exact ⟨e, rfl, h1, by omega⟩
theorem side_pow (n : Nat) (h : 2 ≤ n) : ∃ e, side n = 2 ^ e ∧ 2 ^ e < n ∧ n ≤ 2 ^ (e + 1) := sideF_pow n n 0 (by omega) (by omega)
theorem pow_uniq (n a b : Nat) (h1 : 2 ^ a < n) (h2 : n ≤ 2 ^ (a + 1)) (h3 : 2 ^ b < n) (h4 : n ≤ 2 ^ (b + 1)) : a = b := by
  rcases Nat.lt_trichotomy a b with h | h | h
  · have := Nat.pow_le_pow_right (n := 2) (by decide) (show a + 1 ≤ b from h)
    omega
  · exact h
  · have := Nat.pow_le_pow_right (n := 2) (by decide) (show b + 1 ≤ a from h)
    omega
theorem side_half (n : Nat) (h : 3 ≤ n) : side n = 2 * side ((n + 1) / 2) := by
  obtain ⟨e, h1, h2, h3⟩ := side_pow n (by omega)
  obtain ⟨d, k1, k2, k3⟩ := side_pow ((n + 1) / 2) (by omega)
  have hd : 2 ^ (d + 1) = 2 * 2 ^ d := by rw [Nat.pow_succ, Nat.mul_comm]
  have hd2 : 2 ^ (d + 1 + 1) = 2 * 2 ^ (d + 1) := by rw [Nat.pow_succ, Nat.mul_comm]
  have : e = d + 1 := pow_uniq n e (d + 1) h2 h3 (by omega) (by omega)
  rw [h1, k1, this, hd]

/-- The root of nodes, by halves. -/
def treeF : Nat → List ByteArray → ByteArray
  | 0, _ => ⟨#[]⟩
  | f + 1, xs => if xs.length ≤ 1 then xs.getD 0 ⟨#[]⟩ else pairB (treeF f (xs.take (side xs.length))) (treeF f (xs.drop (side xs.length)))
def tree (xs : List ByteArray) : ByteArray := treeF (xs.length + 1) xs
theorem treeF_more : ∀ f g (xs : List ByteArray), xs.length < f → xs.length < g → treeF f xs = treeF g xs := by
  intro f
  induction f with
  | zero => intro g xs h; omega
  | succ f ih =>
    intro g xs h1 h2
    cases g with
    | zero => omega
    | succ g =>
      unfold treeF
      by_cases h : xs.length ≤ 1
      · rw [if_pos h, if_pos h]
      · rw [if_neg h, if_neg h]
        have hl := side_lt xs.length (by omega)
        have hp := side_pos xs.length
        rw [ih g (xs.take (side xs.length)) (by rw [List.length_take]; omega) (by rw [List.length_take]; omega), ih g (xs.drop (side xs.length)) (by rw [List.length_drop]; omega) (by rw [List.length_drop]; omega)]
theorem side_two : side 2 = 1 := by decide
theorem tree_one (x : ByteArray) : tree [x] = x := rfl
theorem tree_split (xs : List ByteArray) (h : 2 ≤ xs.length) : tree xs = pairB (tree (xs.take (side xs.length))) (tree (xs.drop (side xs.length))) := by
  have hl := side_lt xs.length h
  have hp := side_pos xs.length
  have e : tree xs = pairB (treeF xs.length (xs.take (side xs.length))) (treeF xs.length (xs.drop (side xs.length))) := by
    unfold tree
    conv => lhs; unfold treeF
    rw [if_neg (by omega)]
  rw [e]
  unfold tree
  rw [treeF_more xs.length _ (xs.take (side xs.length)) (by rw [List.length_take]; omega) (Nat.lt_succ_self _), treeF_more xs.length _ (xs.drop (side xs.length)) (by rw [List.length_drop]; omega) (Nat.lt_succ_self _)]
theorem rootB_one (s : ByteArray) : rootB [s] = leafB s := by
  unfold rootB
  rw [show ([s] : List ByteArray).length = 0 + 1 from rfl]
  unfold rootF
  rw [if_neg (by simp), if_pos (by simp), List.getD_cons_zero]
theorem rootB_tree : ∀ (n : Nat) (ss : List ByteArray), ss.length = n → 0 < n → rootB ss = tree (ss.map leafB) := by
  intro n
  induction n using Nat.strongRecOn with
  | _ n ih =>
    intro ss hn h0
    by_cases h1 : n = 1
    · match ss, (hn.trans h1) with
      | [s], _ => rw [rootB_one, List.map_cons, List.map_nil, tree_one]
    · have hm : (ss.map leafB).length = ss.length := List.length_map _
      have hl := side_lt ss.length (by omega)
      have hp := side_pos ss.length
      rw [rootB_split ss (by omega), tree_split _ (by omega), hm, ← List.map_take, ← List.map_drop]
      rw [ih _ (by rw [List.length_take]; omega) (ss.take (side ss.length)) rfl (by rw [List.length_take]; omega), ih _ (by rw [List.length_drop]; omega) (ss.drop (side ss.length)) rfl (by rw [List.length_drop]; omega)]

/-- One level up: two and two are paired; what is left over goes up as it is. -/
def level : List ByteArray → List ByteArray
  | a :: b :: r => pairB a b :: level r
  | l => l
theorem level_len : ∀ (n : Nat) (l : List ByteArray), l.length ≤ n → (level l).length = (l.length + 1) / 2 := by
  intro n
  induction n with
  | zero => intro l h; match l, h with | [], _ => simp [level]
  | succ n ih =>
    intro l h
    match l, h with
    | [], _ => simp [level]
    | [a], _ => simp [level]
    | a :: b :: r, h =>
      simp only [List.length_cons] at h
      simp only [level, List.length_cons]
      rw [ih r (by omega)]
      omega
theorem level_app : ∀ (n : Nat) (l m : List ByteArray), l.length ≤ n → l.length % 2 = 0 → level (l ++ m) = level l ++ level m := by
  intro n
  induction n with
  | zero => intro l m h _; match l, h with | [], _ => simp [level]
  | succ n ih =>
    intro l m h he
    match l, h with
    | [], _ => simp [level]
    | [a], _ => simp at he
    | a :: b :: r, h =>
      simp only [List.length_cons] at h he
      simp only [List.cons_append, level]
      rw [ih r m (by omega) (by omega)]
theorem tree_level : ∀ (n : Nat) (xs : List ByteArray), xs.length = n → 2 ≤ n → tree xs = tree (level xs) := by
  intro n
  induction n using Nat.strongRecOn with
  | _ n ih =>
    intro xs hn h2
    by_cases h3 : n = 2
    · match xs, (hn.trans h3) with
      | [a, b], _ =>
        rw [tree_split [a, b] (by simp), show ([a, b] : List ByteArray).length = 2 from rfl, side_two, show ([a, b] : List ByteArray).take 1 = [a] from rfl, show ([a, b] : List ByteArray).drop 1 = [b] from rfl, tree_one, tree_one, show level [a, b] = [pairB a b] from by simp [level], tree_one]
    · have hl := side_lt xs.length (by omega)
      have hp := side_pos ((xs.length + 1) / 2)
      have hh := side_half xs.length (by omega)
      have hlev := level_len _ xs (Nat.le_refl _)
      have htl : (xs.take (side xs.length)).length = side xs.length := by rw [List.length_take]; omega
      have hdl : (xs.drop (side xs.length)).length = xs.length - side xs.length := List.length_drop
      have happ : level xs = level (xs.take (side xs.length)) ++ level (xs.drop (side xs.length)) := by
        conv => lhs; rw [← List.take_append_drop (side xs.length) xs]
        exact level_app _ _ _ (Nat.le_refl _) (by rw [htl]; omega)
      have htk := level_len _ (xs.take (side xs.length)) (Nat.le_refl _)
      rw [htl] at htk
      rw [tree_split xs (by omega), tree_split (level xs) (by omega), hlev]
      have e1 : (level xs).take (side ((xs.length + 1) / 2)) = level (xs.take (side xs.length)) := by
        rw [happ, List.take_left' (by omega)]
      have e2 : (level xs).drop (side ((xs.length + 1) / 2)) = level (xs.drop (side xs.length)) := by
        rw [happ, List.drop_left' (by omega)]
      rw [e1, e2, ih _ (by omega) (xs.take (side xs.length)) rfl (by omega)]
      by_cases hd : 2 ≤ (xs.drop (side xs.length)).length
      · rw [ih _ (by omega) (xs.drop (side xs.length)) rfl hd]
      · match hx : xs.drop (side xs.length), hdl with
        | [], hdl => simp at hdl; omega
        | [x], _ => rw [show level [x] = [x] from by simp [level]]
        | x :: y :: r, _ => rw [hx] at hd; simp at hd
end Go.Proofs.YtcdgdmhlbgbklaaGreatDoor.Dg
