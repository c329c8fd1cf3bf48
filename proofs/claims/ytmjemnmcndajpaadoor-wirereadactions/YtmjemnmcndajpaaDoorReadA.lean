/- What the reader does at a packed action. -/
import Derived.Test.YtmjemnmcndajpaaDoorPackA
import Derived.Test.YtmjemnmcndajpaaDoorReadR
import Derived.Test.YtmjemnmcndajpaaDoorTexts
import Derived.Test.YtmjemnmcndajpaaDoorInj
namespace Go.Proofs.YtmjemnmcndajpaaDoor
open Go.RowKit Go.Shelf

def pkLL (l : List (List UInt8)) : List UInt8 := pk l.length ++ pkAll l
def pkAL (cl : List (List UInt8)) (i : ByteArray) (ol : List (List UInt8)) (f : Nat) : List UInt8 := pkLL cl ++ (pkT i ++ (pkLL ol ++ pk f))

theorem grown_lt {w w' : World} {row : Option Nat} {k : Nat} (h : w.grownBy w' row) (hk : k < w.heap.size) : k < w'.heap.size := Nat.lt_of_lt_of_le hk h.size

set_option maxHeartbeats 4000000 in
set_option maxRecDepth 100000 in
theorem rd_action (b f : Nat) (s i : ByteArray) (cl ol : List (List UInt8)) (w : World) (r : List UInt8) (hs : s.size ≤ maxLen) (hcl : cl.length ≤ 2000) (hol : ol.length ≤ 2000) (tcl : ∀ t ∈ cl, t.length ≤ 281474976710656) (tol : ∀ t ∈ ol, t.length ≤ 281474976710656) (hi : i.size ≤ 281474976710656) (hf : f ≤ 9007199254740991)
    (h : s.data.toList = pkAL cl i ol f ++ r) (hcell : w.cell? ⟨b, 0, none⟩ = some (.string s)) (hfz : w.frozen? ⟨b, 0, none⟩ = false) :
    Calls Tryd.prog 35 #[.pointer (some ⟨b, 0, none⟩)] w fun e w' => ∃ ac cc ao co, e = .returned (Av (.slice ac cl.length cc) i (.slice ao ol.length co) f) ∧ w'.ownsRow w.heap.size 9 1 (.slice ac cl.length cc) cl.length (strs cl) ∧ w'.ownsRow w.heap.size 9 1 (.slice ao ol.length co) ol.length (strs ol) ∧
      (∃ s' : ByteArray, s'.data.toList = r ∧ s'.size ≤ maxLen ∧ w'.cell? ⟨b, 0, none⟩ = some (.string s')) ∧ w'.frozen? ⟨b, 0, none⟩ = false ∧ w.grownBy w' (some b) := by
  have hbl : b < w.heap.size := World.block_lt_of_cell? w ⟨b, 0, none⟩ hcell
  have hti := size_of (s := i) rfl
  have h' : s.data.toList = pk cl.length ++ (pkAll cl ++ (pk i.data.toList.length ++ (i.data.toList ++ (pk ol.length ++ (pkAll ol ++ (pk f ++ r)))))) := by
    rw [h]
    unfold pkAL pkLL pkT
    rw [hti]
    simp only [List.append_assoc]
  have HS : Hid _ := h'
  have HI : Hid (i.data.toList.length ≤ 281474976710656) := by show _ ≤ _; omega
  have TC : Hid _ := tcl
  have TO : Hid _ := tol
  have c0 : (w.alloc (.cells #[.slice none 0 0, .string ⟨#[]⟩, .slice none 0 0, .int .i64 0] 26)).cell? ⟨b, 0, none⟩ = some (.string s) := by rw [World.cell?_alloc_past _ _ _ hbl]; exact hcell
  have f0 : (w.alloc (.cells #[.slice none 0 0, .string ⟨#[]⟩, .slice none 0 0, .int .i64 0] 26)).frozen? ⟨b, 0, none⟩ = false := by
    rw [World.frozen?_of_block (w := w) (Below.heap_alloc w _ b hbl)]; exact hfz
  have C0 : Hid _ := c0
  have F0 : Hid _ := f0
  have hne : ¬ w.heap.size = b := by omega
  have hne' : ¬ b = w.heap.size := by omega
  have G0 : Hid (w.grownBy (w.alloc (.cells #[.slice none 0 0, .string ⟨#[]⟩, .slice none 0 0, .int .i64 0] 26)) (some b)) := World.grownBy_alloc w _ _
  have X0 : Hid _ := heap_alloc_new w (.cells #[.slice none 0 0, .string ⟨#[]⟩, .slice none 0 0, .int .i64 0] 26)
  clear h h' hti c0 f0 hfz hcell tcl tol
  go_enter Tryd.func35, Tryd.ntmps35
  go_wp2_with fail
  refine (rd_texts b s _ cl _ hs hcl TC.out HS.out C0.out F0.out).mono ?_
  rintro e w1 ⟨vc, rfl, hown1, ⟨s1, hs1, hz1, hc1⟩, hf1, hg1⟩
  obtain ⟨ac, cc, rfl⟩ := own_shape hown1
  have x1 := (hg1.block w.heap.size (by simp) (by simpa using hne)).trans X0.out
  have G1 : Hid (w.grownBy w1 (some b)) := grownBy_trans G0.out hg1
  have W1 : Hid (w1.ownsRow (w.heap.size + 1) 9 1 (.slice ac cl.length cc) cl.length (strs cl)) := by show World.ownsRow _ _ _ _ _ _ _; simpa using hown1
  have X1 : Hid _ := x1
  have S1 : Hid _ := hs1
  have C1 : Hid _ := hc1
  have F1 : Hid _ := hf1
  clear hs1 hc1 hf1 hg1 x1 hown1
  go_wp2_with fail
  refine (rd_text b s1 w1 i.data.toList _ hz1 HI.out S1.out C1.out F1.out).mono ?_
  rintro e w2 ⟨rfl, ⟨s2, hs2, hz2, hc2⟩, hf2, hg2⟩
  have x2 := (hg2.block w.heap.size (Array.getElem?_eq_some_iff.1 X1.out).1 (by simpa using hne)).trans X1.out
  have G2 : Hid (w.grownBy w2 (some b)) := grownBy_trans G1.out hg2
  have W2 : Hid (w2.ownsRow (w.heap.size + 1) 9 1 (.slice ac cl.length cc) cl.length (strs cl)) := W1.out.kept hg2 (Or.inr (fun e => by have := W1.out.lt b e; omega))
  have X2 : Hid _ := x2
  have S2 : Hid _ := hs2
  have C2 : Hid _ := hc2
  have F2 : Hid _ := hf2
  clear hs2 hc2 hf2 hg2 x2
  go_wp2_with fail
  refine (rd_texts b s2 w2 ol _ hz2 hol TO.out S2.out C2.out F2.out).mono ?_
  rintro e w3 ⟨vo, rfl, hown3, ⟨s3, hs3, hz3, hc3⟩, hf3, hg3⟩
  obtain ⟨ao, co, rfl⟩ := own_shape hown3
  have hs20 : w.heap.size + 1 ≤ w2.heap.size := by have := (Array.getElem?_eq_some_iff.1 X2.out).1; omega
  have x3 := (hg3.block w.heap.size (Array.getElem?_eq_some_iff.1 X2.out).1 (by simpa using hne)).trans X2.out
  have G3 : Hid (w.grownBy w3 (some b)) := grownBy_trans G2.out hg3
  have W3 : Hid (w3.ownsRow (w.heap.size + 1) 9 1 (.slice ac cl.length cc) cl.length (strs cl)) := W2.out.kept hg3 (Or.inr (fun e => by have := W2.out.lt b e; omega))
  have V3 : Hid (w3.ownsRow (w.heap.size + 1) 9 1 (.slice ao ol.length co) ol.length (strs ol)) := own_mono hown3 hs20
  have X3 : Hid _ := x3
  have S3 : Hid _ := hs3
  have C3 : Hid _ := hc3
  have F3 : Hid _ := hf3
  clear hs3 hc3 hf3 hg3 x3 hown3
  go_wp2_with fail
  refine (rd_number2 b s3 w3 f r hz3 hf S3.out C3.out F3.out).mono ?_
  rintro e w4 ⟨rfl, ⟨s4, hs4, hz4, hc4⟩, hf4, hg4⟩
  have x4 := (hg4.block w.heap.size (Array.getElem?_eq_some_iff.1 X3.out).1 (by simpa using hne)).trans X3.out
  have G4 : Hid (w.grownBy w4 (some b)) := grownBy_trans G3.out hg4
  have W4 : Hid (w4.ownsRow (w.heap.size + 1) 9 1 (.slice ac cl.length cc) cl.length (strs cl)) := W3.out.kept hg4 (Or.inr (fun e => by have := W3.out.lt b e; omega))
  have V4 : Hid (w4.ownsRow (w.heap.size + 1) 9 1 (.slice ao ol.length co) ol.length (strs ol)) := V3.out.kept hg4 (Or.inr (fun e => by have := V3.out.lt b e; omega))
  have q0 : w4.cell? ⟨w.heap.size, 0, none⟩ = some (.slice none 0 0) := by rw [Lib.cell_of_heap x4]; rfl
  have q1 : w4.cell? ⟨w.heap.size, 1, none⟩ = some (.string ⟨#[]⟩) := by rw [Lib.cell_of_heap x4]; rfl
  have q2 : w4.cell? ⟨w.heap.size, 2, none⟩ = some (.slice none 0 0) := by rw [Lib.cell_of_heap x4]; rfl
  have q3 : w4.cell? ⟨w.heap.size, 3, none⟩ = some (.int .i64 0) := by rw [Lib.cell_of_heap x4]; rfl
  have r0 : w4.frozen? ⟨w.heap.size, 0, none⟩ = false := Lib.frozen_of_heap x4 0
  have r1 : w4.frozen? ⟨w.heap.size, 1, none⟩ = false := Lib.frozen_of_heap x4 1
  have r2 : w4.frozen? ⟨w.heap.size, 2, none⟩ = false := Lib.frozen_of_heap x4 2
  have r3 : w4.frozen? ⟨w.heap.size, 3, none⟩ = false := Lib.frozen_of_heap x4 3
  have B4 : Hid (∀ v0 v1 v2 v3 : Value, Below w.heap.size w4 ((((w4.setCell ⟨w.heap.size, 0, none⟩ v0).setCell ⟨w.heap.size, 1, none⟩ v1).setCell ⟨w.heap.size, 2, none⟩ v2).setCell ⟨w.heap.size, 3, none⟩ v3)) := fun v0 v1 v2 v3 =>
    ((((Below.refl _ _).setCell (p := ⟨w.heap.size, 0, none⟩) (Nat.le_refl _) _).setCell (p := ⟨w.heap.size, 1, none⟩) (Nat.le_refl _) _).setCell (p := ⟨w.heap.size, 2, none⟩) (Nat.le_refl _) _).setCell (p := ⟨w.heap.size, 3, none⟩) (Nat.le_refl _) _
  have S4 : Hid _ := hs4
  have C4 : Hid _ := hc4
  have F4 : Hid _ := hf4
  clear hg4 x4 hs4 hc4 hf4
  go_wp2
  refine bodyPost_ret (v := Av (.slice ac cl.length cc) i (.slice ao ol.length co) f) (by simp [results, Tryd.results35, go_sem, q0, q1, q2, q3]) rfl ⟨ac, cc, ao, co, rfl, ?_, ?_, ⟨s4, S4.out, hz4, ?_⟩, ?_, ?_⟩
  · refine own_mono (base := w.heap.size + 1) ?_ (by omega)
    exact ownsRow_setCell_below (ownsRow_setCell_below (ownsRow_setCell_below (ownsRow_setCell_below W4.out (a := ⟨w.heap.size, 0, none⟩) (Nat.lt_succ_self _) _) (a := ⟨w.heap.size, 1, none⟩) (Nat.lt_succ_self _) _) (a := ⟨w.heap.size, 2, none⟩) (Nat.lt_succ_self _) _) (a := ⟨w.heap.size, 3, none⟩) (Nat.lt_succ_self _) _
  · refine own_mono (base := w.heap.size + 1) ?_ (by omega)
    exact ownsRow_setCell_below (ownsRow_setCell_below (ownsRow_setCell_below (ownsRow_setCell_below V4.out (a := ⟨w.heap.size, 0, none⟩) (Nat.lt_succ_self _) _) (a := ⟨w.heap.size, 1, none⟩) (Nat.lt_succ_self _) _) (a := ⟨w.heap.size, 2, none⟩) (Nat.lt_succ_self _) _) (a := ⟨w.heap.size, 3, none⟩) (Nat.lt_succ_self _) _
  · exact ((B4.out _ _ _ _).cell (p := ⟨b, 0, none⟩) hbl).trans C4.out
  · exact ((B4.out _ _ _ _).frozen (p := ⟨b, 0, none⟩) hbl).trans F4.out
  · have b4 := B4.out (.slice ac cl.length cc) (.string ⟨i.data⟩) (.slice ao ol.length co) (.int .i64 f)
    have g4 := G4.out
    exact ⟨b4.os.trans g4.os, b4.tape.trans g4.tape, b4.output.trans g4.output, Nat.le_trans g4.size b4.size, fun k hk hr => (b4.block k hk).trans (g4.block k hk hr)⟩

theorem catch_idle_a (p q : Addr) (w : World) :
    CallsD Tryd.prog 55 #[.pointer (some p), .pointer (some q)] .returning w fun e u' w' => e = .returned (.tuple #[]) ∧ u' = .returning ∧ w' = w := by
  refine callsD_of_wpS Tryd.func55 rfl fun c₀ cs hu => ?_
  apply wpS_seq
  apply wpS_region
  simp [wpOpsS, go_sem, recoverD, hu, Tryd.ntmps55, Exit.thenS]
  refine wpS_cond (t := false) (by simp [Act.eval, Array.replicate]) ?_
  simp only [Bool.false_eq_true, if_false]
  refine wpS_of_wp (wp_skip ?_)
  cases c₀
  simp_all [bodyPostS, results, Tryd.results55]

def mkB (l : List (List UInt8)) : List ByteArray := l.map fun t => ⟨t.toArray⟩

set_option maxHeartbeats 4000000 in
set_option maxRecDepth 100000 in
theorem whole_action (f : Nat) (s i : ByteArray) (cl ol : List (List UInt8)) (w : World) (hs : s.size ≤ maxLen) (hm : MaxIs w) (hok : aeC (mkB cl) i (mkB ol) f = 0) (h : s.data.toList = pkAL cl i ol f) :
    Calls Tryd.prog 34 #[.string s, .func (.func 35) #[] #[], .func (.func 24) #[] #[]] w fun e w' => ∃ ac cc ao co, e = .returned (.tuple #[Av (.slice ac cl.length cc) i (.slice ao ol.length co) f, .int .i64 0]) ∧ w'.ownsRow w.heap.size 9 1 (.slice ac cl.length cc) cl.length (strs cl) ∧ w'.ownsRow w.heap.size 9 1 (.slice ao ol.length co) ol.length (strs ol) ∧ Below w.heap.size w w' := by
  have hmf : ∀ (fn : Fn) (first cap : Array Value) (w : World), (Instr.makeFunc fn first cap).run Tryd.prog w = .ok (.func fn first cap) w := fun _ _ _ _ => rfl
  have H : Hid (s.data.toList = pkAL cl i ol f ++ []) := by show _ = _; rw [h]; simp
  have HM : Hid (MaxIs w) := hm
  have hlc : (mkB cl).length = cl.length := by simp [mkB]
  have hlo : (mkB ol).length = ol.length := by simp [mkB]
  have G : Hid (cl.length ≤ 60 ∧ ol.length ≤ 60 ∧ (∀ t ∈ cl, t.length ≤ 281474976710656) ∧ (∀ t ∈ ol, t.length ≤ 281474976710656) ∧ i.size ≤ 281474976710656 ∧ f ≤ 9007199254740991) := by
    obtain ⟨k1, k2, k3, k4, k5⟩ := aeC_fit hok
    obtain ⟨m1, m2, _⟩ := aeC_ok hok
    refine ⟨by omega, by omega, fun t ht => ?_, fun t ht => ?_, by omega, by omega⟩
    · have := k1.2 ⟨t.toArray⟩ (List.mem_map.2 ⟨t, ht, rfl⟩)
      rw [show (⟨t.toArray⟩ : ByteArray).size = t.length from size_of rfl] at this
      omega
    · have := k2.2 ⟨t.toArray⟩ (List.mem_map.2 ⟨t, ht, rfl⟩)
      rw [show (⟨t.toArray⟩ : ByteArray).size = t.length from size_of rfl] at this
      omega
  have HR : Hid (aeC (mkB cl) i (mkB ol) f = 0) := hok
  clear h hok hm
  go_enter_defers Tryd.func34, Tryd.ntmps34
  go_wp2_with fail
  refine (rd_action (w.heap.size + 1 + 1) f s i cl ol _ [] hs (Nat.le_trans G.out.1 (by decide)) (Nat.le_trans G.out.2.1 (by decide)) G.out.2.2.1 G.out.2.2.2.1 G.out.2.2.2.2.1 G.out.2.2.2.2.2 H.out (by simp [go_sem]) (by simp [go_sem])).mono ?_
  rintro e w1 ⟨ac, cc, ao, co, rfl, ow1, ov1, ⟨s1, hs1, _, hc1⟩, hf1, hg1⟩
  obtain rfl : s1 = ⟨#[]⟩ := bytes_eq hs1
  have xv := hg1.block w.heap.size (by simp; omega) (by simp; omega)
  have xe := hg1.block (w.heap.size + 1) (by simp) (by simp)
  rw [Below.heap_alloc _ _ _ (by simp; omega), Below.heap_alloc _ _ _ (by simp), heap_alloc_new] at xv
  have q0 : w1.cell? ⟨w.heap.size, 0, none⟩ = some (.slice none 0 0) := by rw [Lib.cell_of_heap xv]; rfl
  have q1 : w1.cell? ⟨w.heap.size, 1, none⟩ = some (.string ⟨#[]⟩) := by rw [Lib.cell_of_heap xv]; rfl
  have q2 : w1.cell? ⟨w.heap.size, 2, none⟩ = some (.slice none 0 0) := by rw [Lib.cell_of_heap xv]; rfl
  have q4 : w1.cell? ⟨w.heap.size, 3, none⟩ = some (.int .i64 0) := by rw [Lib.cell_of_heap xv]; rfl
  have r0 : w1.frozen? ⟨w.heap.size, 0, none⟩ = false := Lib.frozen_of_heap xv 0
  have r1 : w1.frozen? ⟨w.heap.size, 1, none⟩ = false := Lib.frozen_of_heap xv 1
  have r2 : w1.frozen? ⟨w.heap.size, 2, none⟩ = false := Lib.frozen_of_heap xv 2
  have r4 : w1.frozen? ⟨w.heap.size, 3, none⟩ = false := Lib.frozen_of_heap xv 3
  have q3 : w1.cell? ⟨w.heap.size + 1, 0, none⟩ = some (.int .i64 0) := hg1.cell (by simp [go_sem]) (by simp)
  have r3 : w1.frozen? ⟨w.heap.size + 1, 0, none⟩ = false := by
    rw [World.frozen?_of_block (hg1.block (w.heap.size + 1) (by simp) (by simp))]; simp [go_sem]
  have hsz1 : w.heap.size + 1 + 1 < w1.heap.size := by have := hg1.size; simp at this; omega
  have HB : Hid (Below w.heap.size w w1) := ((((Below.refl _ _).alloc (Nat.le_refl _) _).alloc (by simp) _).alloc (by simp; omega) _).grown hg1 (by simp; omega) (by intro k hk; cases hk; omega)
  have ow1' : w1.ownsRow (w.heap.size + 1 + 1 + 1) 9 1 (.slice ac cl.length cc) cl.length (strs cl) := by simpa using ow1
  have ov1' : w1.ownsRow (w.heap.size + 1 + 1 + 1) 9 1 (.slice ao ol.length co) ol.length (strs ol) := by simpa using ov1
  have OW : Hid (∀ a0 a1 a2 a3 : Value, ((((w1.setCell ⟨w.heap.size, 0, none⟩ a0).setCell ⟨w.heap.size, 1, none⟩ a1).setCell ⟨w.heap.size, 2, none⟩ a2).setCell ⟨w.heap.size, 3, none⟩ a3).ownsRow (w.heap.size + 1 + 1 + 1) 9 1 (.slice ac cl.length cc) cl.length (strs cl)) := fun a0 a1 a2 a3 =>
    ownsRow_setCell_below (ownsRow_setCell_below (ownsRow_setCell_below (ownsRow_setCell_below ow1' (a := ⟨w.heap.size, 0, none⟩) (by show w.heap.size < _; omega) _) (a := ⟨w.heap.size, 1, none⟩) (by show w.heap.size < _; omega) _) (a := ⟨w.heap.size, 2, none⟩) (by show w.heap.size < _; omega) _) (a := ⟨w.heap.size, 3, none⟩) (by show w.heap.size < _; omega) _
  have OV : Hid (∀ a0 a1 a2 a3 : Value, ((((w1.setCell ⟨w.heap.size, 0, none⟩ a0).setCell ⟨w.heap.size, 1, none⟩ a1).setCell ⟨w.heap.size, 2, none⟩ a2).setCell ⟨w.heap.size, 3, none⟩ a3).ownsRow (w.heap.size + 1 + 1 + 1) 9 1 (.slice ao ol.length co) ol.length (strs ol)) := fun a0 a1 a2 a3 =>
    ownsRow_setCell_below (ownsRow_setCell_below (ownsRow_setCell_below (ownsRow_setCell_below ov1' (a := ⟨w.heap.size, 0, none⟩) (by show w.heap.size < _; omega) _) (a := ⟨w.heap.size, 1, none⟩) (by show w.heap.size < _; omega) _) (a := ⟨w.heap.size, 2, none⟩) (by show w.heap.size < _; omega) _) (a := ⟨w.heap.size, 3, none⟩) (by show w.heap.size < _; omega) _
  have HB1 : Hid (∀ a0 a1 a2 a3 : Value, Below w.heap.size w ((((w1.setCell ⟨w.heap.size, 0, none⟩ a0).setCell ⟨w.heap.size, 1, none⟩ a1).setCell ⟨w.heap.size, 2, none⟩ a2).setCell ⟨w.heap.size, 3, none⟩ a3)) := fun a0 a1 a2 a3 =>
    (((HB.out.setCell (p := ⟨w.heap.size, 0, none⟩) (Nat.le_refl _) _).setCell (p := ⟨w.heap.size, 1, none⟩) (Nat.le_refl _) _).setCell (p := ⟨w.heap.size, 2, none⟩) (Nat.le_refl _) _).setCell (p := ⟨w.heap.size, 3, none⟩) (Nat.le_refl _) _
  clear xv xe hg1 hs1 hf1 H ow1 ov1 ow1' ov1'
  go_wp2_with fail
  refine (ae_any _ _ (mkB cl) (mkB ol) i f _ (own_texts (OW.out _ _ _ _) (by have := G.out.1; omega)) (own_texts (OV.out _ _ _ _) (by have := G.out.2.1; omega)) (HM.out.up (HB1.out _ _ _ _))).mono ?_
  rintro e w2 ⟨rfl, hb2⟩
  rw [HR.out]
  have s0 : w2.cell? ⟨w.heap.size, 0, none⟩ = some (.slice ac cl.length cc) := (hb2.cell (p := ⟨w.heap.size, 0, none⟩) (by simp; omega)).trans (by simp [go_sem, q0])
  have s1 : w2.cell? ⟨w.heap.size, 1, none⟩ = some (.string i) := (hb2.cell (p := ⟨w.heap.size, 1, none⟩) (by simp; omega)).trans (by simp [go_sem, q1])
  have s2 : w2.cell? ⟨w.heap.size, 2, none⟩ = some (.slice ao ol.length co) := (hb2.cell (p := ⟨w.heap.size, 2, none⟩) (by simp; omega)).trans (by simp [go_sem, q2])
  have s4 : w2.cell? ⟨w.heap.size, 3, none⟩ = some (.int .i64 f) := (hb2.cell (p := ⟨w.heap.size, 3, none⟩) (by simp; omega)).trans (by simp [go_sem, q4])
  have s3 : w2.cell? ⟨w.heap.size + 1, 0, none⟩ = some (.int .i64 0) := (hb2.cell (p := ⟨w.heap.size + 1, 0, none⟩) (by simp; omega)).trans (by simp [go_sem, q3])
  have u0 : w2.frozen? ⟨w.heap.size, 0, none⟩ = false := (hb2.frozen (p := ⟨w.heap.size, 0, none⟩) (by simp; omega)).trans (by simp [r0])
  have u1 : w2.frozen? ⟨w.heap.size, 1, none⟩ = false := (hb2.frozen (p := ⟨w.heap.size, 1, none⟩) (by simp; omega)).trans (by simp [r1])
  have u2 : w2.frozen? ⟨w.heap.size, 2, none⟩ = false := (hb2.frozen (p := ⟨w.heap.size, 2, none⟩) (by simp; omega)).trans (by simp [r2])
  have u4 : w2.frozen? ⟨w.heap.size, 3, none⟩ = false := (hb2.frozen (p := ⟨w.heap.size, 3, none⟩) (by simp; omega)).trans (by simp [r4])
  have u3 : w2.frozen? ⟨w.heap.size + 1, 0, none⟩ = false := (hb2.frozen (p := ⟨w.heap.size + 1, 0, none⟩) (by simp; omega)).trans (by simp [r3])
  have HB2 : Hid (Below w.heap.size w w2) := (HB1.out _ _ _ _).trans (hb2.mono (by simp; omega))
  have ow2 : w2.ownsRow (w.heap.size + 1 + 1 + 1) 9 1 (.slice ac cl.length cc) cl.length (strs cl) := (OW.out _ _ _ _).kept (grownBy_below (row := none) hb2) (by cases ac with | none => exact Or.inl rfl | some x => exact Or.inr (by simp [Value.ownBlock]))
  have ov2 : w2.ownsRow (w.heap.size + 1 + 1 + 1) 9 1 (.slice ao ol.length co) ol.length (strs ol) := (OV.out _ _ _ _).kept (grownBy_below (row := none) hb2) (by cases ao with | none => exact Or.inl rfl | some x => exact Or.inr (by simp [Value.ownBlock]))
  have FW : Hid (∀ {v : Value} {n : Nat} {xs : List Value} (a0 a1 a2 a3 a4 : Value), w2.ownsRow (w.heap.size + 1 + 1 + 1) 9 1 v n xs → (((((w2.setCell ⟨w.heap.size, 0, none⟩ a0).setCell ⟨w.heap.size, 1, none⟩ a1).setCell ⟨w.heap.size, 2, none⟩ a2).setCell ⟨w.heap.size, 3, none⟩ a3).setCell ⟨w.heap.size + 1, 0, none⟩ a4).ownsRow w.heap.size 9 1 v n xs) := fun a0 a1 a2 a3 a4 ho =>
    own_mono (ownsRow_setCell_below (ownsRow_setCell_below (ownsRow_setCell_below (ownsRow_setCell_below (ownsRow_setCell_below ho (a := ⟨w.heap.size, 0, none⟩) (by show w.heap.size < _; omega) _) (a := ⟨w.heap.size, 1, none⟩) (by show w.heap.size < _; omega) _) (a := ⟨w.heap.size, 2, none⟩) (by show w.heap.size < _; omega) _) (a := ⟨w.heap.size, 3, none⟩) (by show w.heap.size < _; omega) _) (a := ⟨w.heap.size + 1, 0, none⟩) (by show w.heap.size + 1 < _; omega) _) (by omega)
  have OW2 : Hid _ := ow2
  have OV2 : Hid _ := ov2
  clear hb2 q0 q1 q2 q3 q4 r0 r1 r2 r3 r4 ow2 ov2
  go_wp2
  refine leaves_cons (f := 55) (args := #[.pointer (some ⟨w.heap.size, 0, none⟩), .pointer (some ⟨w.heap.size + 1, 0, none⟩)]) (by simp) (by simp [go_sem]) ?_
  refine (catch_idle_a ⟨w.heap.size, 0, none⟩ ⟨w.heap.size + 1, 0, none⟩ _).mono ?_
  rintro e u' w'' ⟨rfl, rfl, rfl⟩
  simp [Leaves, settle, results, Tryd.results34, go_sem, s0, s1, s2, s3, s4]
  exact ⟨ac, cc, ao, co, ⟨⟨rfl, rfl⟩, rfl, rfl⟩, FW.out _ _ _ _ _ OW2.out, FW.out _ _ _ _ _ OV2.out, ((((HB2.out.setCell (p := ⟨w.heap.size, 0, none⟩) (Nat.le_refl _) _).setCell (p := ⟨w.heap.size, 1, none⟩) (Nat.le_refl _) _).setCell (p := ⟨w.heap.size, 2, none⟩) (Nat.le_refl _) _).setCell (p := ⟨w.heap.size, 3, none⟩) (Nat.le_refl _) _).setCell (p := ⟨w.heap.size + 1, 0, none⟩) (Nat.le_succ _) _⟩
end Go.Proofs.YtmjemnmcndajpaaDoor
