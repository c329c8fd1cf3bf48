/- What the reader does at a packed action. -/
import Derived.ProofKit
import Derived.OpenShut
import Derived.ShutString
import Derived.ChangeOld
import Derived.SliceStrings
import Derived.Below
import Derived.Lib.SmallJoins
import Derived.Test.YtcdgdmhlbgbklaaGreatDoorTg11
namespace Go.Proofs.YtcdgdmhlbgbklaaGreatDoor.Ac
open Go.RowKit Go.Shelf

def pkLL (l : List (List UInt8)) : List UInt8 := pk l.length ++ pkAll l
def pkAL (cl : List (List UInt8)) (i : ByteArray) (ol : List (List UInt8)) (f : Nat) : List UInt8 := pkLL cl ++ (pkT i ++ (pkLL ol ++ pk f))

theorem grown_lt {w w' : World} {row : Option Nat} {k : Nat} (h : w.grownBy w' row) (hk : k < w.heap.size) : k < w'.heap.size := Nat.lt_of_lt_of_le hk h.size

set_option maxHeartbeats 4000000 in
set_option maxRecDepth 100000 in
theorem rd_action (b f : Nat) (s i : ByteArray) (cl ol : List (List UInt8)) (w : World) (r : List UInt8) (hs : s.size ≤ maxLen) (hcl : cl.length ≤ 2000) (hol : ol.length ≤ 2000) (tcl : ∀ t ∈ cl, t.length ≤ 281474976710656) (tol : ∀ t ∈ ol, t.length ≤ 281474976710656) (hi : i.size ≤ 281474976710656) (hf : f ≤ 9007199254740991)
    (h : s.data.toList = pkAL cl i ol f ++ r) (hcell : w.cell? ⟨b, 0, none⟩ = some (.string s)) (hfz : w.frozen? ⟨b, 0, none⟩ = false) :
    Calls Tryz.prog 38 #[.pointer (some ⟨b, 0, none⟩)] w fun e w' => ∃ ac cc ao co, e = .returned (Av (.slice ac cl.length cc) i (.slice ao ol.length co) f) ∧ w'.ownsRow w.heap.size 9 1 (.slice ac cl.length cc) cl.length (strs cl) ∧ w'.ownsRow w.heap.size 9 1 (.slice ao ol.length co) ol.length (strs ol) ∧
      (∃ s' : ByteArray, s'.data.toList = r ∧ s'.size ≤ maxLen ∧ w'.cell? ⟨b, 0, none⟩ = some (.string s')) ∧ w'.frozen? ⟨b, 0, none⟩ = false ∧ w.grownBy w' (some b) := by
  have hbl : b < w.heap.size := World.block_lt_of_cell? w ⟨b, 0, none⟩ hcell
  have hti := size_of (s := i) rfl
  have h' : s.data.toList = pk cl.length ++ (pkAll cl ++ (pk i.data.toList.length ++ (i.data.toList ++ (pk ol.length ++ (pkAll ol ++ (pk f ++ r)))))) := by
    rw [h]
    unfold pkAL pkLL pkT
    rw [hti]
    simp only [List.append_assoc]
  have HS : Hid _ := h'
  have HI : Hid (i.data.toList.length ≤ 281474976710656) := by show _ ≤ _; omega
  have TC : Hid _ := tcl
  have TO : Hid _ := tol
  have c0 : (w.alloc (.cells #[.slice none 0 0, .string ⟨#[]⟩, .slice none 0 0, .int .i64 0] 25)).cell? ⟨b, 0, none⟩ = some (.string s) := by rw [World.cell?_alloc_past _ _ _ hbl]; exact hcell
  have f0 : (w.alloc (.cells #[.slice none 0 0, .string ⟨#[]⟩, .slice none 0 0, .int .i64 0] 25)).frozen? ⟨b, 0, none⟩ = false := by
    rw [World.frozen?_of_block (w := w) (Below.heap_alloc w _ b hbl)]; exact hfz
  have C0 : Hid _ := c0
  have F0 : Hid _ := f0
  have hne : ¬ w.heap.size = b := by omega
  have hne' : ¬ b = w.heap.size := by omega
  have G0 : Hid (w.grownBy (w.alloc (.cells #[.slice none 0 0, .string ⟨#[]⟩, .slice none 0 0, .int .i64 0] 25)) (some b)) := World.grownBy_alloc w _ _
  have X0 : Hid _ := heap_alloc_new w (.cells #[.slice none 0 0, .string ⟨#[]⟩, .slice none 0 0, .int .i64 0] 25)
  clear h h' hti c0 f0 hfz hcell tcl tol
  go_enter Tryz.func38, Tryz.ntmps38
  go_wp2_with fail
  refine (rd_texts b s _ cl _ hs hcl TC.out HS.out C0.out F0.out).mono ?_
  rintro e w1 ⟨vc, rfl, hown1, ⟨s1, hs1, hz1, hc1⟩, hf1, hg1⟩
  obtain ⟨ac, cc, rfl⟩ := own_shape hown1
  have x1 := (hg1.block w.heap.size (by simp) (by simpa using hne)).trans X0.out
  have G1 : Hid (w.grownBy w1 (some b)) := grownBy_trans G0.out hg1
  have W1 : Hid (w1.ownsRow (w.heap.size + 1) 9 1 (.slice ac cl.length cc) cl.length (strs cl)) := by show World.ownsRow _ _ _ _ _ _ _; simpa using hown1
  have X1 : Hid _ := x1
  have S1 : Hid _ := hs1
  have C1 : Hid _ := hc1
  have F1 : Hid _ := hf1
  clear hs1 hc1 hf1 hg1 x1 hown1
  go_wp2_with fail
  refine (rd_text b s1 w1 i.data.toList _ hz1 HI.out S1.out C1.out F1.out).mono ?_
  rintro e w2 ⟨rfl, ⟨s2, hs2, hz2, hc2⟩, hf2, hg2⟩
  have x2 := (hg2.block w.heap.size (Array.getElem?_eq_some_iff.1 X1.out).1 (by simpa using hne)).trans X1.out
  have G2 : Hid (w.grownBy w2 (some b)) := grownBy_trans G1.out hg2
  have W2 : Hid (w2.ownsRow (w.heap.size + 1) 9 1 (.slice ac cl.length cc) cl.length (strs cl)) := W1.out.kept hg2 (Or.inr (fun e => by have := W1.out.lt b e; omega))
  have X2 : Hid _ := x2
  have S2 : Hid _ := hs2
  have C2 : Hid _ := hc2
  have F2 : Hid _ := hf2
  clear hs2 hc2 hf2 hg2 x2
  go_wp2_with fail
  refine (rd_texts b s2 w2 ol _ hz2 hol TO.out S2.out C2.out F2.out).mono ?_
  rintro e w3 ⟨vo, rfl, hown3, ⟨s3, hs3, hz3, hc3⟩, hf3, hg3⟩
  obtain ⟨ao, co, rfl⟩ := own_shape hown3
  have hs20 : w.heap.size + 1 ≤ w2.heap.size := by have := (Array.getElem?_eq_some_iff.1 X2.out).1; omega
  have x3 := (hg3.block w.heap.size (Array.getElem?_eq_some_iff.1 X2.out).1 (by simpa using hne)).trans X2.out
  have G3 : Hid (w.grownBy w3 (some b)) := grownBy_trans G2.out hg3
  have W3 : Hid (w3.ownsRow (w.heap.size + 1) 9 1 (.slice ac cl.length cc) cl.length (strs cl)) := W2.out.kept hg3 (Or.inr (fun e => by have := W2.out.lt b e; omega))
  have V3 : Hid (w3.ownsRow (w.heap.size + 1) 9 1 (.slice ao ol.length co) ol.length (strs ol)) := own_mono hown3 hs20
  have X3 : Hid _ := x3
  have S3 : Hid _ := hs3
  have C3 : Hid _ := hc3
  have F3 : Hid _ := hf3
  clear hs3 hc3 hf3 hg3 x3 hown3
  go_wp2_with fail
  refine (rd_number2 b s3 w3 f r hz3 hf S3.out C3.out F3.out).mono ?_
  rintro e w4 ⟨rfl, ⟨s4, hs4, hz4, hc4⟩, hf4, hg4⟩
  have x4 := (hg4.block w.heap.size (Array.getElem?_eq_some_iff.1 X3.out).1 (by simpa using hne)).trans X3.out
  have G4 : Hid (w.grownBy w4 (some b)) := grownBy_trans G3.out hg4
  have W4 : Hid (w4.ownsRow (w.heap.size + 1) 9 1 (.slice ac cl.length cc) cl.length (strs cl)) := W3.out.kept hg4 (Or.inr (fun e => by have := W3.out.lt b e; omega))
  have V4 : Hid (w4.ownsRow (w.heap.size + 1) 9 1 (.slice ao ol.length co) ol.length (strs ol)) := V3.out.kept hg4 (Or.inr (fun e => by have := V3.out.lt b e; omega))
  have q0 : w4.cell? ⟨w.heap.size, 0, none⟩ = some (.slice none 0 0) := by rw [Lib.cell_of_heap x4]; rfl
  have q1 : w4.cell? ⟨w.heap.size, 1, none⟩ = some (.string ⟨#[]⟩) := by rw [Lib.cell_of_heap x4]; rfl
  have q2 : w4.cell? ⟨w.heap.size, 2, none⟩ = some (.slice none 0 0) := by rw [Lib.cell_of_heap x4]; rfl
  have q3 : w4.cell? ⟨w.heap.size, 3, none⟩ = some (.int .i64 0) := by rw [Lib.cell_of_heap x4]; rfl
  have r0 : w4.frozen? ⟨w.heap.size, 0, none⟩ = false := Lib.frozen_of_heap x4 0
  have r1 : w4.frozen? ⟨w.heap.size, 1, none⟩ = false := Lib.frozen_of_heap x4 1
  have r2 : w4.frozen? ⟨w.heap.size, 2, none⟩ = false := Lib.frozen_of_heap x4 2
  have r3 : w4.frozen? ⟨w.heap.size, 3, none⟩ = false := Lib.frozen_of_heap x4 3
  have B4 : Hid (∀ v0 v1 v2 v3 : Value, Below w.heap.size w4 ((((w4.setCell ⟨w.heap.size, 0, none⟩ v0).setCell ⟨w.heap.size, 1, none⟩ v1).setCell ⟨w.heap.size, 2, none⟩ v2).setCell ⟨w.heap.size, 3, none⟩ v3)) := fun v0 v1 v2 v3 =>
    ((((Below.refl _ _).setCell (p := ⟨w.heap.size, 0, none⟩) (Nat.le_refl _) _).setCell (p := ⟨w.heap.size, 1, none⟩) (Nat.le_refl _) _).setCell (p := ⟨w.heap.size, 2, none⟩) (Nat.le_refl _) _).setCell (p := ⟨w.heap.size, 3, none⟩) (Nat.le_refl _) _
  have S4 : Hid _ := hs4
  have C4 : Hid _ := hc4
  have F4 : Hid _ := hf4
  clear hg4 x4 hs4 hc4 hf4
  go_wp2
  refine bodyPost_ret (v := Av (.slice ac cl.length cc) i (.slice ao ol.length co) f) (by simp [results, Tryz.results38, go_sem, q0, q1, q2, q3]) rfl ⟨ac, cc, ao, co, rfl, ?_, ?_, ⟨s4, S4.out, hz4, ?_⟩, ?_, ?_⟩
  · refine own_mono (base := w.heap.size + 1) ?_ (by omega)
    exact ownsRow_setCell_below (ownsRow_setCell_below (ownsRow_setCell_below (ownsRow_setCell_below W4.out (a := ⟨w.heap.size, 0, none⟩) (Nat.lt_succ_self _) _) (a := ⟨w.heap.size, 1, none⟩) (Nat.lt_succ_self _) _) (a := ⟨w.heap.size, 2, none⟩) (Nat.lt_succ_self _) _) (a := ⟨w.heap.size, 3, none⟩) (Nat.lt_succ_self _) _
  · refine own_mono (base := w.heap.size + 1) ?_ (by omega)
    exact ownsRow_setCell_below (ownsRow_setCell_below (ownsRow_setCell_below (ownsRow_setCell_below V4.out (a := ⟨w.heap.size, 0, none⟩) (Nat.lt_succ_self _) _) (a := ⟨w.heap.size, 1, none⟩) (Nat.lt_succ_self _) _) (a := ⟨w.heap.size, 2, none⟩) (Nat.lt_succ_self _) _) (a := ⟨w.heap.size, 3, none⟩) (Nat.lt_succ_self _) _
  · exact ((B4.out _ _ _ _).cell (p := ⟨b, 0, none⟩) hbl).trans C4.out
  · exact ((B4.out _ _ _ _).frozen (p := ⟨b, 0, none⟩) hbl).trans F4.out
  · have b4 := B4.out (.slice ac cl.length cc) (.string ⟨i.data⟩) (.slice ao ol.length co) (.int .i64 f)
    have g4 := G4.out
    exact ⟨b4.os.trans g4.os, b4.tape.trans g4.tape, b4.output.trans g4.output, Nat.le_trans g4.size b4.size, fun k hk hr => (b4.block k hk).trans (g4.block k hk hr)⟩

theorem catch_idle_a (p q : Addr) (w : World) :
    CallsD Tryz.prog 86 #[.pointer (some p), .pointer (some q)] .returning w fun e u' w' => e = .returned (.tuple #[]) ∧ u' = .returning ∧ w' = w := by
  refine callsD_of_wpS Tryz.func86 rfl fun c₀ cs hu => ?_
  apply wpS_seq
  apply wpS_region
  simp [wpOpsS, go_sem, recoverD, hu, Tryz.ntmps86, Exit.thenS]
  refine wpS_cond (t := false) (by simp [Act.eval, Array.replicate]) ?_
  simp only [Bool.false_eq_true, if_false]
  refine wpS_of_wp (wp_skip ?_)
  cases c₀
  simp_all [bodyPostS, results, Tryz.results86]

def mkB (l : List (List UInt8)) : List ByteArray := l.map fun t => ⟨t.toArray⟩

set_option maxHeartbeats 4000000 in
set_option maxRecDepth 100000 in
theorem whole_action (f : Nat) (s i : ByteArray) (cl ol : List (List UInt8)) (w : World) (hs : s.size ≤ maxLen) (hm : MaxIs w) (hok : aeC (mkB cl) i (mkB ol) f = 0) (h : s.data.toList = pkAL cl i ol f) :
    Calls Tryz.prog 37 #[.string s, .func (.func 38) #[] #[], .func (.func 34) #[] #[]] w fun e w' => ∃ ac cc ao co, e = .returned (.tuple #[Av (.slice ac cl.length cc) i (.slice ao ol.length co) f, .int .i64 0]) ∧ w'.ownsRow w.heap.size 9 1 (.slice ac cl.length cc) cl.length (strs cl) ∧ w'.ownsRow w.heap.size 9 1 (.slice ao ol.length co) ol.length (strs ol) ∧ Below w.heap.size w w' := by
  have hmf : ∀ (fn : Fn) (first cap : Array Value) (w : World), (Instr.makeFunc fn first cap).run Tryz.prog w = .ok (.func fn first cap) w := fun _ _ _ _ => rfl
  have H : Hid (s.data.toList = pkAL cl i ol f ++ []) := by show _ = _; rw [h]; simp
  have HM : Hid (MaxIs w) := hm
  have hlc : (mkB cl).length = cl.length := by simp [mkB]
  have hlo : (mkB ol).length = ol.length := by simp [mkB]
  have G : Hid (cl.length ≤ 60 ∧ ol.length ≤ 60 ∧ (∀ t ∈ cl, t.length ≤ 281474976710656) ∧ (∀ t ∈ ol, t.length ≤ 281474976710656) ∧ i.size ≤ 281474976710656 ∧ f ≤ 9007199254740991) := by
    obtain ⟨k1, k2, k3, k4, k5⟩ := aeC_fit hok
    obtain ⟨m1, m2, _⟩ := aeC_ok hok
    refine ⟨by omega, by omega, fun t ht => ?_, fun t ht => ?_, by omega, by omega⟩
    · have := k1.2 ⟨t.toArray⟩ (List.mem_map.2 ⟨t, ht, rfl⟩)
      rw [show (⟨t.toArray⟩ : ByteArray).size = t.length from size_of rfl] at this
      omega
    · have := k2.2 ⟨t.toArray⟩ (List.mem_map.2 ⟨t, ht, rfl⟩)
      rw [show (⟨t.toArray⟩ : ByteArray).size = t.length from size_of rfl] at this
      omega
  have HR : Hid (aeC (mkB cl) i (mkB ol) f = 0) := hok
  clear h hok hm
  go_enter_defers Tryz.func37, Tryz.ntmps37
  go_wp2_with fail
  refine (rd_action (w.heap.size + 1 + 1) f s i cl ol _ [] hs (Nat.le_trans G.out.1 (by decide)) (Nat.le_trans G.out.2.1 (by decide)) G.out.2.2.1 G.out.2.2.2.1 G.out.2.2.2.2.1 G.out.2.2.2.2.2 H.out (by simp [go_sem]) (by simp [go_sem])).mono ?_
  rintro e w1 ⟨ac, cc, ao, co, rfl, ow1, ov1, ⟨s1, hs1, _, hc1⟩, hf1, hg1⟩
  obtain rfl : s1 = ⟨#[]⟩ := bytes_eq hs1
  have xv := hg1.block w.heap.size (by simp; omega) (by simp; omega)
  have xe := hg1.block (w.heap.size + 1) (by simp) (by simp)
  rw [Below.heap_alloc _ _ _ (by simp; omega), Below.heap_alloc _ _ _ (by simp), heap_alloc_new] at xv
  have q0 : w1.cell? ⟨w.heap.size, 0, none⟩ = some (.slice none 0 0) := by rw [Lib.cell_of_heap xv]; rfl
  have q1 : w1.cell? ⟨w.heap.size, 1, none⟩ = some (.string ⟨#[]⟩) := by rw [Lib.cell_of_heap xv]; rfl
  have q2 : w1.cell? ⟨w.heap.size, 2, none⟩ = some (.slice none 0 0) := by rw [Lib.cell_of_heap xv]; rfl
  have q4 : w1.cell? ⟨w.heap.size, 3, none⟩ = some (.int .i64 0) := by rw [Lib.cell_of_heap xv]; rfl
  have r0 : w1.frozen? ⟨w.heap.size, 0, none⟩ = false := Lib.frozen_of_heap xv 0
  have r1 : w1.frozen? ⟨w.heap.size, 1, none⟩ = false := Lib.frozen_of_heap xv 1
  have r2 : w1.frozen? ⟨w.heap.size, 2, none⟩ = false := Lib.frozen_of_heap xv 2
  have r4 : w1.frozen? ⟨w.heap.size, 3, none⟩ = false := Lib.frozen_of_heap xv 3
  have q3 : w1.cell? ⟨w.heap.size + 1, 0, none⟩ = some (.int .i64 0) := hg1.cell (by simp [go_sem]) (by simp)
  have r3 : w1.frozen? ⟨w.heap.size + 1, 0, none⟩ = false := by
    rw [World.frozen?_of_block (hg1.block (w.heap.size + 1) (by simp) (by simp))]; simp [go_sem]
  have hsz1 : w.heap.size + 1 + 1 < w1.heap.size := by have := hg1.size; simp at this; omega
  have HB : Hid (Below w.heap.size w w1) := ((((Below.refl _ _).alloc (Nat.le_refl _) _).alloc (by simp) _).alloc (by simp; omega) _).grown hg1 (by simp; omega) (by intro k hk; cases hk; omega)
  have ow1' : w1.ownsRow (w.heap.size + 1 + 1 + 1) 9 1 (.slice ac cl.length cc) cl.length (strs cl) := by simpa using ow1
  have ov1' : w1.ownsRow (w.heap.size + 1 + 1 + 1) 9 1 (.slice ao ol.length co) ol.length (strs ol) := by simpa using ov1
  have OW : Hid (∀ a0 a1 a2 a3 : Value, ((((w1.setCell ⟨w.heap.size, 0, none⟩ a0).setCell ⟨w.heap.size, 1, none⟩ a1).setCell ⟨w.heap.size, 2, none⟩ a2).setCell ⟨w.heap.size, 3, none⟩ a3).ownsRow (w.heap.size + 1 + 1 + 1) 9 1 (.slice ac cl.length cc) cl.length (strs cl)) := fun a0 a1 a2 a3 =>
    ownsRow_setCell_below (ownsRow_setCell_below (ownsRow_setCell_below (ownsRow_setCell_below ow1' (a := ⟨w.heap.size, 0, none⟩) (by show w.heap.size < _; omega) _) (a := ⟨w.heap.size, 1, none⟩) (by show w.heap.size < _; omega) _) (a := ⟨w.heap.size, 2, none⟩) (by show w.heap.size < _; omega) _) (a := ⟨w.heap.size, 3, none⟩) (by show w.heap.size < _; omega) _
  have OV : Hid (∀ a0 a1 a2 a3 : Value, ((((w1.setCell ⟨w.heap.size, 0, none⟩ a0).setCell ⟨w.heap.size, 1, none⟩ a1).setCell ⟨w.heap.size, 2, none⟩ a2).setCell ⟨w.heap.size, 3, none⟩ a3).ownsRow (w.heap.size + 1 + 1 + 1) 9 1 (.slice ao ol.length co) ol.length (strs ol)) := fun a0 a1 a2 a3 =>
    ownsRow_setCell_below (ownsRow_setCell_below (ownsRow_setCell_below (ownsRow_setCell_below ov1' (a := ⟨w.heap.size, 0, none⟩) (by show w.heap.size < _; omega) _) (a := ⟨w.heap.size, 1, none⟩) (by show w.heap.size < _; omega) _) (a := ⟨w.heap.size, 2, none⟩) (by show w.heap.size < _; omega) _) (a := ⟨w.heap.size, 3, none⟩) (by show w.heap.size < _; omega) _
  have HB1 : Hid (∀ a0 a1 a2 a3 : Value, Below w.heap.size w ((((w1.setCell ⟨w.heap.size, 0, none⟩ a0).setCell ⟨w.heap.size, 1, none⟩ a1).setCell ⟨w.heap.size, 2, none⟩ a2).setCell ⟨w.heap.size, 3, none⟩ a3)) := fun a0 a1 a2 a3 =>
    (((HB.out.setCell (p := ⟨w.heap.size, 0, none⟩) (Nat.le_refl _) _).setCell (p := ⟨w.heap.size, 1, none⟩) (Nat.le_refl _) _).setCell (p := ⟨w.heap.size, 2, none⟩) (Nat.le_refl _) _).setCell (p := ⟨w.heap.size, 3, none⟩) (Nat.le_refl _) _
  clear xv xe hg1 hs1 hf1 H ow1 ov1 ow1' ov1'
  go_wp2_with fail
  refine (ae_any _ _ (mkB cl) (mkB ol) i f _ (own_texts (OW.out _ _ _ _) (by have := G.out.1; omega)) (own_texts (OV.out _ _ _ _) (by have := G.out.2.1; omega)) (HM.out.up (HB1.out _ _ _ _))).mono ?_
  rintro e w2 ⟨rfl, hb2⟩
  rw [HR.out]
  have s0 : w2.cell? ⟨w.heap.size, 0, none⟩ = some (.slice ac cl.length cc) := (hb2.cell (p := ⟨w.heap.size, 0, none⟩) (by simp; omega)).trans (by simp [go_sem, q0])
  have s1 : w2.cell? ⟨w.heap.size, 1, none⟩ = some (.string i) := (hb2.cell (p := ⟨w.heap.size, 1, none⟩) (by simp; omega)).trans (by simp [go_sem, q1])
  have s2 : w2.cell? ⟨w.heap.size, 2, none⟩ = some (.slice ao ol.length co) := (hb2.cell (p := ⟨w.heap.size, 2, none⟩) (by simp; omega)).trans (by simp [go_sem, q2])
  have s4 : w2.cell? ⟨w.heap.size, 3, none⟩ = some (.int .i64 f) := (hb2.cell (p := ⟨w.heap.size, 3, none⟩) (by simp; omega)).trans (by simp [go_sem, q4])
  have s3 : w2.cell? ⟨w.heap.size + 1, 0, none⟩ = some (.int .i64 0) := (hb2.cell (p := ⟨w.heap.size + 1, 0, none⟩) (by simp; omega)).trans (by simp [go_sem, q3])
  have u0 : w2.frozen? ⟨w.heap.size, 0, none⟩ = false := (hb2.frozen (p := ⟨w.heap.size, 0, none⟩) (by simp; omega)).trans (by simp [r0])
  have u1 : w2.frozen? ⟨w.heap.size, 1, none⟩ = false := (hb2.frozen (p := ⟨w.heap.size, 1, none⟩) (by simp; omega)).trans (by simp [r1])
  have u2 : w2.frozen? ⟨w.heap.size, 2, none⟩ = false := (hb2.frozen (p := ⟨w.heap.size, 2, none⟩) (by simp; omega)).trans (by simp [r2])
  have u4 : w2.frozen? ⟨w.heap.size, 3, none⟩ = false := (hb2.frozen (p := ⟨w.heap.size, 3, none⟩) (by simp; omega)).trans (by simp [r4])
  have u3 : w2.frozen? ⟨w.heap.size + 1, 0, none⟩ = false := (hb2.frozen (p := ⟨w.heap.size + 1, 0, none⟩) (by simp; omega)).trans (by simp [r3])
  have HB2 : Hid (Below w.heap.size w w2) := (HB1.out _ _ _ _).trans (hb2.mono (by simp; omega))
  have ow2 : w2.ownsRow (w.heap.size + 1 + 1 + 1) 9 1 (.slice ac cl.length cc) cl.length (strs cl) := (OW.out _ _ _ _).kept (grownBy_below (row := none) hb2) (by cases ac with | none => exact Or.inl rfl | some x => exact Or.inr (by simp [Value.ownBlock]))
  have ov2 : w2.ownsRow (w.heap.size + 1 + 1 + 1) 9 1 (.slice ao ol.length co) ol.length (strs ol) := (OV.out _ _ _ _).kept (grownBy_below (row := none) hb2) (by cases ao with | none => exact Or.inl rfl | some x => exact Or.inr (by simp [Value.ownBlock]))
  have FW : Hid (∀ {v : Value} {n : Nat} {xs : List Value} (a0 a1 a2 a3 a4 : Value), w2.ownsRow (w.heap.size + 1 + 1 + 1) 9 1 v n xs → (((((w2.setCell ⟨w.heap.size, 0, none⟩ a0).setCell ⟨w.heap.size, 1, none⟩ a1).setCell ⟨w.heap.size, 2, none⟩ a2).setCell ⟨w.heap.size, 3, none⟩ a3).setCell ⟨w.heap.size + 1, 0, none⟩ a4).ownsRow w.heap.size 9 1 v n xs) := fun a0 a1 a2 a3 a4 ho =>
    own_mono (ownsRow_setCell_below (ownsRow_setCell_below (ownsRow_setCell_below (ownsRow_setCell_below (ownsRow_setCell_below ho (a := ⟨w.heap.size, 0, none⟩) (by show w.heap.size < _; omega) _) (a := ⟨w.heap.size, 1, none⟩) (by show w.heap.size < _; omega) _) (a := ⟨w.heap.size, 2, none⟩) (by show w.heap.size < _; omega) _) (a := ⟨w.heap.size, 3, none⟩) (by show w.heap.size < _; omega) _) (a := ⟨w.heap.size + 1, 0, none⟩) (by show w.heap.size + 1 < _; omega) _) (by omega)
  have OW2 : Hid _ := ow2
  have OV2 : Hid _ := ov2
  clear hb2 q0 q1 q2 q3 q4 r0 r1 r2 r3 r4 ow2 ov2
  go_wp2
  refine leaves_cons (f := 86) (args := #[.pointer (some ⟨w.heap.size, 0, none⟩), .pointer (some ⟨w.heap.size + 1, 0, none⟩)]) (by simp) (by simp [go_sem]) ?_
  refine (catch_idle_a ⟨w.heap.size, 0, none⟩ ⟨w.heap.size + 1, 0, none⟩ _).mono ?_
  rintro e u' w'' ⟨rfl, rfl, rfl⟩
  simp [Leaves, settle, results, Tryz.results37, go_sem, s0, s1, s2, s3, s4]
  exact ⟨ac, cc, ao, co, ⟨⟨rfl, rfl⟩, rfl, rfl⟩, FW.out _ _ _ _ _ OW2.out, FW.out _ _ _ _ _ OV2.out, ((((HB2.out.setCell (p := ⟨w.heap.size, 0, none⟩) (Nat.le_refl _) _).setCell (p := ⟨w.heap.size, 1, none⟩) (Nat.le_refl _) _).setCell (p := ⟨w.heap.size, 2, none⟩) (Nat.le_refl _) _).setCell (p := ⟨w.heap.size, 3, none⟩) (Nat.le_refl _) _).setCell (p := ⟨w.heap.size + 1, 0, none⟩) (Nat.le_succ _) _⟩
end Go.Proofs.YtcdgdmhlbgbklaaGreatDoor.Ac

/- What ReadAction answers at a packed action, and the document's own SameAction. -/
namespace Go.Proofs.YtcdgdmhlbgbklaaGreatDoor.Ac
open Go.RowKit Go.Shelf

set_option maxHeartbeats 1000000 in
set_option maxRecDepth 100000 in
theorem ReadAction_pk (f : Nat) (s i : ByteArray) (cl ol : List (List UInt8)) (w : World) (hs : s.size ≤ maxLen) (hm : MaxIs w) (hok : aeC (mkB cl) i (mkB ol) f = 0) (h : s.data.toList = pkAL cl i ol f) :
    Calls Tryz.prog 14 #[.string s] w fun e w' => ∃ ac cc ao co, e = .returned (.tuple #[Av (.slice ac cl.length cc) i (.slice ao ol.length co) f, .int .i64 0]) ∧ IsTexts w' (.slice ac cl.length cc) (mkB cl) ∧ IsTexts w' (.slice ao ol.length co) (mkB ol) ∧ Below w.heap.size w w' := by
  have hb0 : Below w.heap.size w (w.alloc (.cells #[.slice none 0 0, .string ⟨#[]⟩, .slice none 0 0, .int .i64 0] 25)) := (Below.refl _ _).alloc (Nat.le_refl _) _
  have HM : Hid (MaxIs (w.alloc (.cells #[.slice none 0 0, .string ⟨#[]⟩, .slice none 0 0, .int .i64 0] 25))) := hm.up hb0
  have H : Hid _ := h
  have HK : Hid (aeC (mkB cl) i (mkB ol) f = 0) := hok
  have HN : Hid (cl.length ≤ 60 ∧ ol.length ≤ 60) := by
    obtain ⟨m1, m2, _⟩ := aeC_ok hok
    exact ⟨by simpa [mkB] using m1, by simpa [mkB] using m2⟩
  clear h hok hm hb0
  go_enter Tryz.func14, Tryz.ntmps14
  go_wp2_with fail
  refine (whole_action f s i cl ol _ hs HM.out HK.out H.out).mono ?_
  rintro e w1 ⟨ac, cc, ao, co, rfl, ow, ov, hb1⟩
  have q0 : w1.cell? ⟨w.heap.size, 0, none⟩ = some (.slice none 0 0) := (hb1.cell (p := ⟨w.heap.size, 0, none⟩) (by simp)).trans (by simp [go_sem])
  have q1 : w1.cell? ⟨w.heap.size, 1, none⟩ = some (.string ⟨#[]⟩) := (hb1.cell (p := ⟨w.heap.size, 1, none⟩) (by simp)).trans (by simp [go_sem])
  have q2 : w1.cell? ⟨w.heap.size, 2, none⟩ = some (.slice none 0 0) := (hb1.cell (p := ⟨w.heap.size, 2, none⟩) (by simp)).trans (by simp [go_sem])
  have q3 : w1.cell? ⟨w.heap.size, 3, none⟩ = some (.int .i64 0) := (hb1.cell (p := ⟨w.heap.size, 3, none⟩) (by simp)).trans (by simp [go_sem])
  have r0 : w1.frozen? ⟨w.heap.size, 0, none⟩ = false := (hb1.frozen (p := ⟨w.heap.size, 0, none⟩) (by simp)).trans (by simp [go_sem])
  have r1 : w1.frozen? ⟨w.heap.size, 1, none⟩ = false := (hb1.frozen (p := ⟨w.heap.size, 1, none⟩) (by simp)).trans (by simp [go_sem])
  have r2 : w1.frozen? ⟨w.heap.size, 2, none⟩ = false := (hb1.frozen (p := ⟨w.heap.size, 2, none⟩) (by simp)).trans (by simp [go_sem])
  have r3 : w1.frozen? ⟨w.heap.size, 3, none⟩ = false := (hb1.frozen (p := ⟨w.heap.size, 3, none⟩) (by simp)).trans (by simp [go_sem])
  have HB1 : Hid (Below w.heap.size w w1) := ((Below.refl _ _).alloc (Nat.le_refl _) _).trans (hb1.mono (by simp))
  have FW : Hid (∀ {v : Value} {n : Nat} {xs : List Value} (a0 a1 a2 a3 : Value), w1.ownsRow (w.heap.size + 1) 9 1 v n xs → ((((w1.setCell ⟨w.heap.size, 0, none⟩ a0).setCell ⟨w.heap.size, 1, none⟩ a1).setCell ⟨w.heap.size, 2, none⟩ a2).setCell ⟨w.heap.size, 3, none⟩ a3).ownsRow (w.heap.size + 1) 9 1 v n xs) := fun a0 a1 a2 a3 ho =>
    ownsRow_setCell_below (ownsRow_setCell_below (ownsRow_setCell_below (ownsRow_setCell_below ho (a := ⟨w.heap.size, 0, none⟩) (Nat.lt_succ_self _) _) (a := ⟨w.heap.size, 1, none⟩) (Nat.lt_succ_self _) _) (a := ⟨w.heap.size, 2, none⟩) (Nat.lt_succ_self _) _) (a := ⟨w.heap.size, 3, none⟩) (Nat.lt_succ_self _) _
  have OW : Hid (w1.ownsRow (w.heap.size + 1) 9 1 (.slice ac cl.length cc) cl.length (strs cl)) := by show World.ownsRow _ _ _ _ _ _ _; simpa using ow
  have OV : Hid (w1.ownsRow (w.heap.size + 1) 9 1 (.slice ao ol.length co) ol.length (strs ol)) := by show World.ownsRow _ _ _ _ _ _ _; simpa using ov
  clear hb1 ow ov
  go_wp2
  refine bodyPost_ret (v := .tuple #[Av (.slice ac cl.length cc) i (.slice ao ol.length co) f, .int .i64 0]) (by simp [results, Tryz.results14, go_sem, q0, q1, q2, q3]) rfl ⟨ac, cc, ao, co, rfl, own_texts (FW.out _ _ _ _ OW.out) (by have := HN.out.1; omega), own_texts (FW.out _ _ _ _ OV.out) (by have := HN.out.2; omega), (((HB1.out.setCell (p := ⟨w.heap.size, 0, none⟩) (Nat.le_refl _) _).setCell (p := ⟨w.heap.size, 1, none⟩) (Nat.le_refl _) _).setCell (p := ⟨w.heap.size, 2, none⟩) (Nat.le_refl _) _).setCell (p := ⟨w.heap.size, 3, none⟩) (Nat.le_refl _) _⟩

theorem drewN_below (w : World) (n : Nat) : Below w.heap.size w (w.drewN n) := ⟨rfl, rfl, rfl, Nat.le_refl _, fun _ _ => rfl⟩

set_option maxHeartbeats 2000000 in
set_option maxRecDepth 100000 in
theorem sa_any (c o c' o' : Value) (cs os cs' os' : List ByteArray) (i i' : ByteArray) (f f' : Int) (w : World) (hc : IsTexts w c cs) (ho : IsTexts w o os) (hc' : IsTexts w c' cs') (ho' : IsTexts w o' os') :
    Calls Tryz.prog 15 #[Av c i o f, Av c' i' o' f'] w fun e w' => e = .returned (.bool (decide (cs = cs' ∧ i = i' ∧ os = os' ∧ f = f'))) ∧ Below w.heap.size w w' := by
  have hb0 : Below w.heap.size w ((w.alloc (.cells #[c, .string i, o, .int .i64 f] 25)).alloc (.cells #[c', .string i', o', .int .i64 f'] 25)) := ((Below.refl _ _).alloc (Nat.le_refl _) _).alloc (by simp) _
  have HC : Hid _ := hc.up hb0
  have HO : Hid _ := ho.up hb0
  have HC' : Hid _ := hc'.up hb0
  have HO' : Hid _ := ho'.up hb0
  have HB0 : Hid _ := hb0
  clear hb0
  obtain ⟨_, ac, cc, rfl, _⟩ := hc
  obtain ⟨_, ao, co, rfl, _⟩ := ho
  obtain ⟨_, ac', cc', rfl, _⟩ := hc'
  obtain ⟨_, ao', co', rfl, _⟩ := ho'
  have S1 : Hid (Calls Tryz.prog 9 #[.slice ac cs.length cc, .slice ac' cs'.length cc'] ((w.alloc (.cells #[.slice ac cs.length cc, .string i, .slice ao os.length co, .int .i64 f] 25)).alloc (.cells #[.slice ac' cs'.length cc', .string i', .slice ao' os'.length co', .int .i64 f'] 25)) fun e w' => e = .returned (.bool (decide (cs = cs'))) ∧ Below (w.heap.size + 1 + 1) ((w.alloc (.cells #[.slice ac cs.length cc, .string i, .slice ao os.length co, .int .i64 f] 25)).alloc (.cells #[.slice ac' cs'.length cc', .string i', .slice ao' os'.length co', .int .i64 f'] 25)) w') := by
    show Calls _ _ _ _ _
    refine (same_any ((w.alloc (.cells #[.slice ac cs.length cc, .string i, .slice ao os.length co, .int .i64 f] 25)).alloc (.cells #[.slice ac' cs'.length cc', .string i', .slice ao' os'.length co', .int .i64 f'] 25)) _ _ cs cs' HC.out HC'.out).mono ?_
    rintro e w' ⟨rfl, n, rfl⟩
    exact ⟨rfl, by have := drewN_below ((w.alloc (.cells #[.slice ac cs.length cc, .string i, .slice ao os.length co, .int .i64 f] 25)).alloc (.cells #[.slice ac' cs'.length cc', .string i', .slice ao' os'.length co', .int .i64 f'] 25)) n; simpa using this⟩
  by_cases g1 : cs = cs'
  · by_cases g2 : i = i'
    · by_cases g3 : os = os'
      · have HR : Hid (decide (cs = cs' ∧ i = i' ∧ os = os' ∧ f = f') = (f == f')) := by show _ = _; simp [g1, g2, g3, Bool.beq_eq_decide_eq]
        have h1 : decide (cs = cs') = true := by simpa using g1
        have h2 : (i.toList == i'.toList) = true := by rw [g2]; simp
        have h3 : decide (os = os') = true := by simpa using g3
        clear g1 g2 g3
        go_enter Tryz.func15, Tryz.ntmps15
        go_wp2_with fail
        refine S1.out.mono ?_
        rintro e w1 ⟨rfl, hb1⟩
        have B1 : Hid (Below w.heap.size w w1) := HB0.out.trans (hb1.mono (by omega))
        have O1 : Hid (IsTexts w1 (.slice ao os.length co) os) := IsTexts.up HO.out (by simpa using hb1)
        have O1' : Hid (IsTexts w1 (.slice ao' os'.length co') os') := IsTexts.up HO'.out (by simpa using hb1)
        have q1 : w1.cell? ⟨w.heap.size, 1, none⟩ = some (.string i) := (hb1.cell (p := ⟨w.heap.size, 1, none⟩) (by show w.heap.size < _; omega)).trans (by rw [World.cell?_alloc_past _ _ _ (by simp)]; simp [go_sem])
        have q2 : w1.cell? ⟨w.heap.size, 2, none⟩ = some (.slice ao os.length co) := (hb1.cell (p := ⟨w.heap.size, 2, none⟩) (by show w.heap.size < _; omega)).trans (by rw [World.cell?_alloc_past _ _ _ (by simp)]; simp [go_sem])
        have q3 : w1.cell? ⟨w.heap.size, 3, none⟩ = some (.int .i64 f) := (hb1.cell (p := ⟨w.heap.size, 3, none⟩) (by show w.heap.size < _; omega)).trans (by rw [World.cell?_alloc_past _ _ _ (by simp)]; simp [go_sem])
        have t1 : w1.cell? ⟨w.heap.size + 1, 1, none⟩ = some (.string i') := (hb1.cell (p := ⟨w.heap.size + 1, 1, none⟩) (by show w.heap.size + 1 < _; omega)).trans (by simp [go_sem])
        have t2 : w1.cell? ⟨w.heap.size + 1, 2, none⟩ = some (.slice ao' os'.length co') := (hb1.cell (p := ⟨w.heap.size + 1, 2, none⟩) (by show w.heap.size + 1 < _; omega)).trans (by simp [go_sem])
        have t3 : w1.cell? ⟨w.heap.size + 1, 3, none⟩ = some (.int .i64 f') := (hb1.cell (p := ⟨w.heap.size + 1, 3, none⟩) (by show w.heap.size + 1 < _; omega)).trans (by simp [go_sem])
        have hs1 : w.heap.size + 1 < w1.heap.size := by have := hb1.size; simp at this; omega
        clear hb1
        rw [h1]
        go_wp2_with fail
        refine (same_any w1 _ _ os os' O1.out O1'.out).mono ?_
        rintro e w2 ⟨rfl, n, rfl⟩
        have B2 : Hid (Below w.heap.size w (w1.drewN n)) := B1.out.trans ((drewN_below w1 n).mono B1.out.size)
        rw [h3]
        go_wp2
        go_ret
        exact ⟨by rw [HR.out]; rfl, B2.out⟩
      · have HR : Hid (decide (cs = cs' ∧ i = i' ∧ os = os' ∧ f = f') = false) := by show _ = _; simp [g3]
        have h1 : decide (cs = cs') = true := by simpa using g1
        have h2 : (i.toList == i'.toList) = true := by rw [g2]; simp
        have h3 : decide (os = os') = false := by simpa using g3
        clear g1 g2 g3
        go_enter Tryz.func15, Tryz.ntmps15
        go_wp2_with fail
        refine S1.out.mono ?_
        rintro e w1 ⟨rfl, hb1⟩
        have B1 : Hid (Below w.heap.size w w1) := HB0.out.trans (hb1.mono (by omega))
        have O1 : Hid (IsTexts w1 (.slice ao os.length co) os) := IsTexts.up HO.out (by simpa using hb1)
        have O1' : Hid (IsTexts w1 (.slice ao' os'.length co') os') := IsTexts.up HO'.out (by simpa using hb1)
        have q1 : w1.cell? ⟨w.heap.size, 1, none⟩ = some (.string i) := (hb1.cell (p := ⟨w.heap.size, 1, none⟩) (by show w.heap.size < _; omega)).trans (by rw [World.cell?_alloc_past _ _ _ (by simp)]; simp [go_sem])
        have q2 : w1.cell? ⟨w.heap.size, 2, none⟩ = some (.slice ao os.length co) := (hb1.cell (p := ⟨w.heap.size, 2, none⟩) (by show w.heap.size < _; omega)).trans (by rw [World.cell?_alloc_past _ _ _ (by simp)]; simp [go_sem])
        have q3 : w1.cell? ⟨w.heap.size, 3, none⟩ = some (.int .i64 f) := (hb1.cell (p := ⟨w.heap.size, 3, none⟩) (by show w.heap.size < _; omega)).trans (by rw [World.cell?_alloc_past _ _ _ (by simp)]; simp [go_sem])
        have t1 : w1.cell? ⟨w.heap.size + 1, 1, none⟩ = some (.string i') := (hb1.cell (p := ⟨w.heap.size + 1, 1, none⟩) (by show w.heap.size + 1 < _; omega)).trans (by simp [go_sem])
        have t2 : w1.cell? ⟨w.heap.size + 1, 2, none⟩ = some (.slice ao' os'.length co') := (hb1.cell (p := ⟨w.heap.size + 1, 2, none⟩) (by show w.heap.size + 1 < _; omega)).trans (by simp [go_sem])
        have t3 : w1.cell? ⟨w.heap.size + 1, 3, none⟩ = some (.int .i64 f') := (hb1.cell (p := ⟨w.heap.size + 1, 3, none⟩) (by show w.heap.size + 1 < _; omega)).trans (by simp [go_sem])
        have hs1 : w.heap.size + 1 < w1.heap.size := by have := hb1.size; simp at this; omega
        clear hb1
        rw [h1]
        go_wp2_with fail
        refine (same_any w1 _ _ os os' O1.out O1'.out).mono ?_
        rintro e w2 ⟨rfl, n, rfl⟩
        have B2 : Hid (Below w.heap.size w (w1.drewN n)) := B1.out.trans ((drewN_below w1 n).mono B1.out.size)
        rw [h3]
        go_wp2
        go_ret
        exact ⟨by rw [HR.out]; rfl, B2.out⟩
    · have HR : Hid (decide (cs = cs' ∧ i = i' ∧ os = os' ∧ f = f') = false) := by show _ = _; simp [g2]
      have h1 : decide (cs = cs') = true := by simpa using g1
      have h2 : (i.toList == i'.toList) = false := by
        rw [beq_eq_false_iff_ne, Lib.toList_data, Lib.toList_data]
        intro h
        exact g2 (by rw [bytes_eq (s := i) rfl, bytes_eq (s := i') rfl, h])
      clear g1 g2
      go_enter Tryz.func15, Tryz.ntmps15
      go_wp2_with fail
      refine S1.out.mono ?_
      rintro e w1 ⟨rfl, hb1⟩
      have B1 : Hid (Below w.heap.size w w1) := HB0.out.trans (hb1.mono (by omega))
      have O1 : Hid (IsTexts w1 (.slice ao os.length co) os) := IsTexts.up HO.out (by simpa using hb1)
      have O1' : Hid (IsTexts w1 (.slice ao' os'.length co') os') := IsTexts.up HO'.out (by simpa using hb1)
      have q1 : w1.cell? ⟨w.heap.size, 1, none⟩ = some (.string i) := (hb1.cell (p := ⟨w.heap.size, 1, none⟩) (by show w.heap.size < _; omega)).trans (by rw [World.cell?_alloc_past _ _ _ (by simp)]; simp [go_sem])
      have q2 : w1.cell? ⟨w.heap.size, 2, none⟩ = some (.slice ao os.length co) := (hb1.cell (p := ⟨w.heap.size, 2, none⟩) (by show w.heap.size < _; omega)).trans (by rw [World.cell?_alloc_past _ _ _ (by simp)]; simp [go_sem])
      have q3 : w1.cell? ⟨w.heap.size, 3, none⟩ = some (.int .i64 f) := (hb1.cell (p := ⟨w.heap.size, 3, none⟩) (by show w.heap.size < _; omega)).trans (by rw [World.cell?_alloc_past _ _ _ (by simp)]; simp [go_sem])
      have t1 : w1.cell? ⟨w.heap.size + 1, 1, none⟩ = some (.string i') := (hb1.cell (p := ⟨w.heap.size + 1, 1, none⟩) (by show w.heap.size + 1 < _; omega)).trans (by simp [go_sem])
      have t2 : w1.cell? ⟨w.heap.size + 1, 2, none⟩ = some (.slice ao' os'.length co') := (hb1.cell (p := ⟨w.heap.size + 1, 2, none⟩) (by show w.heap.size + 1 < _; omega)).trans (by simp [go_sem])
      have t3 : w1.cell? ⟨w.heap.size + 1, 3, none⟩ = some (.int .i64 f') := (hb1.cell (p := ⟨w.heap.size + 1, 3, none⟩) (by show w.heap.size + 1 < _; omega)).trans (by simp [go_sem])
      have hs1 : w.heap.size + 1 < w1.heap.size := by have := hb1.size; simp at this; omega
      clear hb1
      rw [h1]
      go_wp2
      go_ret
      exact ⟨by rw [HR.out]; rfl, B1.out⟩
  · have HR : Hid (decide (cs = cs' ∧ i = i' ∧ os = os' ∧ f = f') = false) := by show _ = _; simp [g1]
    have h1 : decide (cs = cs') = false := by simpa using g1
    clear g1
    go_enter Tryz.func15, Tryz.ntmps15
    go_wp2_with fail
    refine S1.out.mono ?_
    rintro e w1 ⟨rfl, hb1⟩
    have B1 : Hid (Below w.heap.size w w1) := HB0.out.trans (hb1.mono (by omega))
    clear hb1
    rw [h1]
    go_wp2
    go_ret
    exact ⟨by rw [HR.out]; rfl, B1.out⟩
end Go.Proofs.YtcdgdmhlbgbklaaGreatDoor.Ac

/- What the document's own CheckAction and PackAction answer. -/
namespace Go.Proofs.YtcdgdmhlbgbklaaGreatDoor.Ac
open Go.RowKit Go.Shelf

theorem okList_60 {cs : List ByteArray} : okList 60 cs ↔ ¬ 60 < cs.length ∧ ¬ longB cs = true := by
  constructor
  · rintro ⟨h1, h2⟩
    refine ⟨by omega, fun h => ?_⟩
    obtain ⟨s, hs, h⟩ := longB_yes h
    have := h2 s hs
    omega
  · rintro ⟨h1, h2⟩
    exact ⟨by omega, longB_no (by simpa using h2)⟩
end Go.Proofs.YtcdgdmhlbgbklaaGreatDoor.Ac

/- A slice of texts that came in as an argument. -/
namespace Go.Proofs.YtcdgdmhlbgbklaaGreatDoor.Ac
open Go.ChangeShapes Go.WideShapes Go.ChangeAt Go.RowKit Go.Shelf
open Go.ChangeMaps (open_string shut_string)

theorem bytesS : Tryz.prog.bytesOf 9 = 16 := by kernel_rfl

set_option maxRecDepth 100000 in
/-- A slice of texts that came in. -/
theorem arg_texts {H : Type} {enc : TypeId × Value → H} {W : World} {v : Value} {d : DataW H} {p : List MemPlace} {base : Nat}
    (hv : Value.okWide Tryz.prog W .any base 22 v) (h : DataW.Trod enc Tryz.prog W 0 (fun _ => true) true 22 v d p) (hr : ∀ elems sp, d = .slice elems sp → elems.length ≤ 4611686018427387904) : ∃ ss, IsTexts W v ss := by
  obtain ⟨a, len, cap, rfl⟩ := okWide_slice Tryz.underlying22 hv
  obtain ⟨fuel, hf⟩ := h
  rcases open_strings Tryz.underlying22 Tryz.underlying9 (by kernel_rfl) hf with ⟨hcs, _⟩ | ⟨x, l, c, ss, hcs, _, hl, hm, hz, hx, hcell, hws⟩
  · simp [Value.cells] at hcs
    obtain ⟨rfl, rfl, rfl⟩ := hcs
    exact ⟨[], by decide, none, 0, rfl, Or.inl rfl⟩
  · simp [Value.cells] at hcs
    obtain ⟨rfl, rfl, rfl⟩ := hcs
    have hz' : ss.length = cap := by simpa using hz
    have hlen : (ss.take len).length = len := by rw [List.length_take]; omega
    have hb : len ≤ 4611686018427387904 := by
      have := hr _ _ (congrArg Prod.fst hx)
      simp [Go.ChangeShapes.strs] at this
      omega
    refine ⟨ss.take len, by rw [hlen]; exact hb, some x, cap, by rw [hlen], ?_⟩
    by_cases h0 : len = 0
    · exact Or.inl (by rw [h0]; rfl)
    · obtain ⟨b, off, spot⟩ := x
      have hspot : spot = none := by simpa [Addr.add] using World.cell?_spot (hcell 0 (by omega))
      subst hspot
      refine Or.inr ⟨b, off, rfl, fun j hj => ?_⟩
      rw [hlen] at hj
      rw [← Go.WideShapes.add_plain, hcell j (by omega)]
      simp [List.getD, List.getElem?_eq_getElem (show j < ss.length by omega)]

theorem arg_len {H : Type} {ts : List TypeId} {ds : List (DataW H)} (hsz : (DataW.weightsEach Tryz.prog ts ds).all (· ≤ reachBytes) = true) (j : Nat) (d : DataW H) (ht : ts[j]? = some 22) (hd : ds[j]? = some d) :
    ∀ elems sp, d = .slice elems sp → elems.length ≤ 4611686018427387904 := fun elems sp he => by
  have h1 := sized_slice hsz (j := j) (t := 22) ht (by rw [hd, he]) Tryz.underlying22
  have h2 := reachBytes_lt
  rw [bytesS] at h1
  omega
end Go.Proofs.YtcdgdmhlbgbklaaGreatDoor.Ac

/- An action that came in as an argument. -/
namespace Go.Proofs.YtcdgdmhlbgbklaaGreatDoor.Ac
open Go.ChangeShapes Go.WideShapes Go.ChangeAt Go.RowKit Go.Shelf Go.Joins
open Go.ChangeMaps (open_string shut_string)

theorem cellsA : Tryz.prog.cellsOf 25 = 4 := by kernel_rfl

set_option maxRecDepth 100000 in
/-- A slice of texts that stands in a field. -/
theorem field_texts {H : Type} {enc : TypeId × Value → H} {W : World} {v : Value} {n : Nat} {y : DataW H × List MemPlace}
    (hf : DataW.trod enc Tryz.prog W 0 (fun _ => true) true n 22 [v] = some y) (hr : ∀ elems sp, y.1 = .slice elems sp → elems.length ≤ 4611686018427387904) : ∃ ss, IsTexts W v ss := by
  rcases open_strings Tryz.underlying22 Tryz.underlying9 (by kernel_rfl) hf with ⟨hcs, _⟩ | ⟨x, l, c, ss, hcs, _, hl, hm, hz, hx, hcell, hws⟩
  · obtain rfl : v = .slice none 0 0 := by simpa using hcs
    exact ⟨[], by decide, none, 0, rfl, Or.inl rfl⟩
  · obtain rfl : v = .slice (some x) l c := by simpa using hcs
    have hz' : ss.length = c := by simpa using hz
    have hlen : (ss.take l).length = l := by rw [List.length_take]; omega
    have hb : l ≤ 4611686018427387904 := by
      have := hr _ _ (congrArg Prod.fst hx)
      simp [Go.ChangeShapes.strs] at this
      omega
    refine ⟨ss.take l, by rw [hlen]; exact hb, some x, c, by rw [hlen], ?_⟩
    by_cases h0 : l = 0
    · exact Or.inl (by rw [h0]; rfl)
    · obtain ⟨b, off, spot⟩ := x
      have hspot : spot = none := by simpa [Addr.add] using World.cell?_spot (hcell 0 (by omega))
      subst hspot
      refine Or.inr ⟨b, off, rfl, fun j hj => ?_⟩
      rw [hlen] at hj
      rw [← Go.WideShapes.add_plain, hcell j (by omega)]
      simp [List.getD, List.getElem?_eq_getElem (show j < ss.length by omega)]

set_option maxRecDepth 100000 in
theorem arg_action {H : Type} {enc : TypeId × Value → H} {W : World} {v : Value} {d : DataW H} {p : List MemPlace} {base : Nat}
    (hv : Value.okWide Tryz.prog W .any base 25 v) (h : DataW.Trod enc Tryz.prog W 0 (fun _ => true) true 25 v d p) (hw : ∀ n ∈ d.weights Tryz.prog 25, n ≤ reachBytes) :
    ∃ c i o f cs os, v = Av c i o f ∧ IsTexts W c cs ∧ IsTexts W o os ∧ i.size ≤ maxLen := by
  obtain ⟨c0, c1, c2, c3, y0, y1, y2, y3, m, rfl, rfl, rfl, hy0, hy1, hy2, hy3⟩ := open_agg4 Tryz.underlying25 (by kernel_rfl) cellsA hv h
  have hsz : (DataW.weightsEach Tryz.prog [22, 9, 22, 3] [y0.1, y1.1, y2.1, y3.1]).all (· ≤ reachBytes) = true := by
    rw [List.all_eq_true]
    intro n hn
    have e : (DataW.agg [y0.1, y1.1, y2.1, y3.1]).weights Tryz.prog 25 = DataW.weightsEach Tryz.prog [22, 9, 22, 3] [y0.1, y1.1, y2.1, y3.1] := by
      unfold DataW.weights
      rw [Tryz.underlying25]
      rfl
    simpa using hw n (by rw [e]; exact hn)
  obtain ⟨cs, i0⟩ := field_texts hy0 (arg_len hsz 0 y0.1 rfl rfl)
  obtain ⟨os, i2⟩ := field_texts hy2 (arg_len hsz 2 y2.1 rfl rfl)
  obtain ⟨s, e1, _, hs⟩ := DataW.trod_string Tryz.underlying9 hy1
  obtain ⟨b, e3, _, _⟩ := DataW.trod_int Tryz.underlying3 hy3
  simp at e1 e3
  subst e1 e3
  exact ⟨c0, s, c2, b, cs, os, rfl, i0, i2, hs⟩
end Go.Proofs.YtcdgdmhlbgbklaaGreatDoor.Ac

/- Actions that are read as they were packed; where an action lies; what the laws of actions lean on. -/
namespace Go.Proofs.YtcdgdmhlbgbklaaGreatDoor.Ac
open Go.RowKit Go.Shelf

theorem pkAL_map (cs os : List ByteArray) (i : ByteArray) (f : Nat) : pkAL (cs.map fun s => s.data.toList) i (os.map fun s => s.data.toList) f = pkA cs i os f := by
  unfold pkAL pkLL pkA pkL
  rw [pkAll_map, pkAll_map, List.length_map, List.length_map]
theorem pkA_inj {cs os cs' os' : List ByteArray} {i i' : ByteArray} {f f' : Nat} (h : pkA cs i os f = pkA cs' i' os' f') : cs = cs' ∧ i = i' ∧ os = os' ∧ f = f' := by
  unfold pkA pkL at h
  simp only [List.append_assoc] at h
  obtain ⟨e1, h1⟩ := pk_inj _ _ _ (Nat.le_refl _) _ _ h
  obtain ⟨e2, h2⟩ := pkSS_inj cs cs' _ _ e1 h1
  obtain ⟨e3, h3⟩ := pkT_inj i i' _ _ h2
  obtain ⟨e4, h4⟩ := pk_inj _ _ _ (Nat.le_refl _) _ _ h3
  obtain ⟨e5, h5⟩ := pkSS_inj os os' _ _ e4 h4
  have e6 := pk_inj f f f' (Nat.le_refl _) [] [] (by simpa using h5)
  exact ⟨e2, e3, e5, e6.1⟩

theorem ReadAction_cs (f : Nat) (i : ByteArray) (cs os : List ByteArray) (w : World) (hm : MaxIs w) (hok : aeC cs i os f = 0) :
    Calls Tryz.prog 14 #[.string ⟨(pkA cs i os f).toArray⟩] w fun e w' => ∃ ac cc ao co, e = .returned (.tuple #[Av (.slice ac cs.length cc) i (.slice ao os.length co) f, .int .i64 0]) ∧ IsTexts w' (.slice ac cs.length cc) cs ∧ IsTexts w' (.slice ao os.length co) os ∧ Below w.heap.size w w' := by
  have e1 : mkB (cs.map fun s => s.data.toList) = cs := map_bytes cs
  have e2 : mkB (os.map fun s => s.data.toList) = os := map_bytes os
  obtain ⟨k1, k2, k3, _, k5⟩ := aeC_fit hok
  have hl := pkA_len cs os i f k1 k2 k3 (by omega)
  have h := ReadAction_pk f ⟨(pkA cs i os f).toArray⟩ i (cs.map fun s => s.data.toList) (os.map fun s => s.data.toList) w (by rw [show (⟨(pkA cs i os f).toArray⟩ : ByteArray).size = (pkA cs i os f).length from size_of rfl]; unfold maxLen; omega) hm (by rw [e1, e2]; exact hok) (by rw [pkAL_map])
  rw [e1, e2, List.length_map, List.length_map] at h
  exact h

/-- An action lies in block p. -/
def ActAt (w : World) (p : Nat) (c : Value) (i : ByteArray) (o : Value) (f : Int) : Prop := w.cell? ⟨p, 0, none⟩ = some c ∧ w.cell? ⟨p, 1, none⟩ = some (.string i) ∧ w.cell? ⟨p, 2, none⟩ = some o ∧ w.cell? ⟨p, 3, none⟩ = some (.int .i64 f)
theorem ActAt.up {B : Nat} {w w' : World} {p : Nat} {c : Value} {i : ByteArray} {o : Value} {f : Int} (h : ActAt w p c i o f) (hb : Below B w w') (hp : p < B) : ActAt w' p c i o f :=
  ⟨(hb.cell (p := ⟨p, 0, none⟩) hp).trans h.1, (hb.cell (p := ⟨p, 1, none⟩) hp).trans h.2.1, (hb.cell (p := ⟨p, 2, none⟩) hp).trans h.2.2.1, (hb.cell (p := ⟨p, 3, none⟩) hp).trans h.2.2.2⟩
theorem ActAt.new (w : World) (c : Value) (i : ByteArray) (o : Value) (f : Int) : ActAt (w.alloc (.cells #[c, .string i, o, .int .i64 f] 25)) w.heap.size c i o f := by
  have h := heap_alloc_new w (.cells #[c, .string i, o, .int .i64 f] 25)
  refine ⟨?_, ?_, ?_, ?_⟩ <;> (rw [Lib.cell_of_heap h]; rfl)
end Go.Proofs.YtcdgdmhlbgbklaaGreatDoor.Ac

/- What ReadAction answers at a packed action: its lists are rows of one's own. -/
namespace Go.Proofs.YtcdgdmhlbgbklaaGreatDoor.Ac
open Go.RowKit Go.Shelf

set_option maxHeartbeats 1000000 in
set_option maxRecDepth 100000 in
theorem ReadAction_rw (f : Nat) (s i : ByteArray) (cl ol : List (List UInt8)) (w : World) (hs : s.size ≤ maxLen) (hm : MaxIs w) (hok : aeC (mkB cl) i (mkB ol) f = 0) (h : s.data.toList = pkAL cl i ol f) :
    Calls Tryz.prog 14 #[.string s] w fun e w' => ∃ ac cc ao co, e = .returned (.tuple #[Av (.slice ac cl.length cc) i (.slice ao ol.length co) f, .int .i64 0]) ∧ IsTexts w' (.slice ac cl.length cc) (mkB cl) ∧ IsTexts w' (.slice ao ol.length co) (mkB ol) ∧ w'.ownsRow (w.heap.size + 1) 9 1 (.slice ac cl.length cc) cl.length (strs cl) ∧ w'.ownsRow (w.heap.size + 1) 9 1 (.slice ao ol.length co) ol.length (strs ol) ∧ Below w.heap.size w w' := by
  have hb0 : Below w.heap.size w (w.alloc (.cells #[.slice none 0 0, .string ⟨#[]⟩, .slice none 0 0, .int .i64 0] 25)) := (Below.refl _ _).alloc (Nat.le_refl _) _
  have HM : Hid (MaxIs (w.alloc (.cells #[.slice none 0 0, .string ⟨#[]⟩, .slice none 0 0, .int .i64 0] 25))) := hm.up hb0
  have H : Hid _ := h
  have HK : Hid (aeC (mkB cl) i (mkB ol) f = 0) := hok
  have HN : Hid (cl.length ≤ 60 ∧ ol.length ≤ 60) := by
    obtain ⟨m1, m2, _⟩ := aeC_ok hok
    exact ⟨by simpa [mkB] using m1, by simpa [mkB] using m2⟩
  clear h hok hm hb0
  go_enter Tryz.func14, Tryz.ntmps14
  go_wp2_with fail
  refine (whole_action f s i cl ol _ hs HM.out HK.out H.out).mono ?_
  rintro e w1 ⟨ac, cc, ao, co, rfl, ow, ov, hb1⟩
  have q0 : w1.cell? ⟨w.heap.size, 0, none⟩ = some (.slice none 0 0) := (hb1.cell (p := ⟨w.heap.size, 0, none⟩) (by simp)).trans (by simp [go_sem])
  have q1 : w1.cell? ⟨w.heap.size, 1, none⟩ = some (.string ⟨#[]⟩) := (hb1.cell (p := ⟨w.heap.size, 1, none⟩) (by simp)).trans (by simp [go_sem])
  have q2 : w1.cell? ⟨w.heap.size, 2, none⟩ = some (.slice none 0 0) := (hb1.cell (p := ⟨w.heap.size, 2, none⟩) (by simp)).trans (by simp [go_sem])
  have q3 : w1.cell? ⟨w.heap.size, 3, none⟩ = some (.int .i64 0) := (hb1.cell (p := ⟨w.heap.size, 3, none⟩) (by simp)).trans (by simp [go_sem])
  have r0 : w1.frozen? ⟨w.heap.size, 0, none⟩ = false := (hb1.frozen (p := ⟨w.heap.size, 0, none⟩) (by simp)).trans (by simp [go_sem])
  have r1 : w1.frozen? ⟨w.heap.size, 1, none⟩ = false := (hb1.frozen (p := ⟨w.heap.size, 1, none⟩) (by simp)).trans (by simp [go_sem])
  have r2 : w1.frozen? ⟨w.heap.size, 2, none⟩ = false := (hb1.frozen (p := ⟨w.heap.size, 2, none⟩) (by simp)).trans (by simp [go_sem])
  have r3 : w1.frozen? ⟨w.heap.size, 3, none⟩ = false := (hb1.frozen (p := ⟨w.heap.size, 3, none⟩) (by simp)).trans (by simp [go_sem])
  have HB1 : Hid (Below w.heap.size w w1) := ((Below.refl _ _).alloc (Nat.le_refl _) _).trans (hb1.mono (by simp))
  have FW : Hid (∀ {v : Value} {n : Nat} {xs : List Value} (a0 a1 a2 a3 : Value), w1.ownsRow (w.heap.size + 1) 9 1 v n xs → ((((w1.setCell ⟨w.heap.size, 0, none⟩ a0).setCell ⟨w.heap.size, 1, none⟩ a1).setCell ⟨w.heap.size, 2, none⟩ a2).setCell ⟨w.heap.size, 3, none⟩ a3).ownsRow (w.heap.size + 1) 9 1 v n xs) := fun a0 a1 a2 a3 ho =>
    ownsRow_setCell_below (ownsRow_setCell_below (ownsRow_setCell_below (ownsRow_setCell_below ho (a := ⟨w.heap.size, 0, none⟩) (Nat.lt_succ_self _) _) (a := ⟨w.heap.size, 1, none⟩) (Nat.lt_succ_self _) _) (a := ⟨w.heap.size, 2, none⟩) (Nat.lt_succ_self _) _) (a := ⟨w.heap.size, 3, none⟩) (Nat.lt_succ_self _) _
  have OW : Hid (w1.ownsRow (w.heap.size + 1) 9 1 (.slice ac cl.length cc) cl.length (strs cl)) := by show World.ownsRow _ _ _ _ _ _ _; simpa using ow
  have OV : Hid (w1.ownsRow (w.heap.size + 1) 9 1 (.slice ao ol.length co) ol.length (strs ol)) := by show World.ownsRow _ _ _ _ _ _ _; simpa using ov
  clear hb1 ow ov
  go_wp2
  refine bodyPost_ret (v := .tuple #[Av (.slice ac cl.length cc) i (.slice ao ol.length co) f, .int .i64 0]) (by simp [results, Tryz.results14, go_sem, q0, q1, q2, q3]) rfl ⟨ac, cc, ao, co, rfl, own_texts (FW.out _ _ _ _ OW.out) (by have := HN.out.1; omega), own_texts (FW.out _ _ _ _ OV.out) (by have := HN.out.2; omega), FW.out _ _ _ _ OW.out, FW.out _ _ _ _ OV.out, (((HB1.out.setCell (p := ⟨w.heap.size, 0, none⟩) (Nat.le_refl _) _).setCell (p := ⟨w.heap.size, 1, none⟩) (Nat.le_refl _) _).setCell (p := ⟨w.heap.size, 2, none⟩) (Nat.le_refl _) _).setCell (p := ⟨w.heap.size, 3, none⟩) (Nat.le_refl _) _⟩

theorem ReadAction_own (f : Nat) (i : ByteArray) (cs os : List ByteArray) (w : World) (hm : MaxIs w) (hok : aeC cs i os f = 0) :
    Calls Tryz.prog 14 #[.string ⟨(pkA cs i os f).toArray⟩] w fun e w' => ∃ ac cc ao co, e = .returned (.tuple #[Av (.slice ac cs.length cc) i (.slice ao os.length co) f, .int .i64 0]) ∧ IsTexts w' (.slice ac cs.length cc) cs ∧ IsTexts w' (.slice ao os.length co) os ∧
      (∃ S, w'.ownsRow w.heap.size 9 1 (.slice ac cs.length cc) cs.length S) ∧ (∃ S, w'.ownsRow w.heap.size 9 1 (.slice ao os.length co) os.length S) ∧ Below w.heap.size w w' := by
  have e1 : mkB (cs.map fun s => s.data.toList) = cs := map_bytes cs
  have e2 : mkB (os.map fun s => s.data.toList) = os := map_bytes os
  obtain ⟨k1, k2, k3, _, k5⟩ := aeC_fit hok
  have hl := pkA_len cs os i f k1 k2 k3 (by omega)
  have h := ReadAction_rw f ⟨(pkA cs i os f).toArray⟩ i (cs.map fun s => s.data.toList) (os.map fun s => s.data.toList) w (by rw [show (⟨(pkA cs i os f).toArray⟩ : ByteArray).size = (pkA cs i os f).length from size_of rfl]; unfold maxLen; omega) hm (by rw [e1, e2]; exact hok) (by rw [pkAL_map])
  rw [e1, e2, List.length_map, List.length_map] at h
  refine h.mono ?_
  rintro e w' ⟨ac, cc, ao, co, rfl, h1, h2, h3, h4, h5⟩
  exact ⟨ac, cc, ao, co, rfl, h1, h2, ⟨_, own_mono h3 (Nat.le_succ _)⟩, ⟨_, own_mono h4 (Nat.le_succ _)⟩, h5⟩
end Go.Proofs.YtcdgdmhlbgbklaaGreatDoor.Ac
