/- What ReadResult answers at a packed result. -/
import Derived.Test.YtligalcphlfmcadPackR
import Derived.Defers
import Derived.Recover
import Derived.Laws.Pointers
namespace Go.Proofs.Ytligalcphlfmcad
open Go.RowKit Go.Shelf

theorem rd_number2 (b : Nat) (s : ByteArray) (w : World) (n : Nat) (r : List UInt8) (hs : s.size ≤ maxLen) (hn : n ≤ 9007199254740991) (h : s.data.toList = pk n ++ r)
    (hc : w.cell? ⟨b, 0, none⟩ = some (.string s)) (hf : w.frozen? ⟨b, 0, none⟩ = false) :
    Calls Try.prog 42 #[.pointer (some ⟨b, 0, none⟩)] w fun e w' => e = .returned (.int .i64 n) ∧ (∃ s' : ByteArray, s'.data.toList = r ∧ s'.size ≤ maxLen ∧ w'.cell? ⟨b, 0, none⟩ = some (.string s')) ∧ w'.frozen? ⟨b, 0, none⟩ = false ∧ w.grownBy w' (some b) := by
  refine (rd_number b s w n r hs hn h hc hf).mono ?_
  rintro e w' ⟨rfl, s', h1, h2, rfl⟩
  exact ⟨rfl, ⟨s', h1, h2, World.cell?_setCell_same' _ _ _ (by rw [hc]; rfl)⟩, by rw [World.frozen?_setCell]; exact hf, grownBy_set w b 0 _⟩

set_option maxHeartbeats 2000000 in
set_option maxRecDepth 100000 in
theorem rd_result (b c d : Nat) (s t : ByteArray) (w : World) (r : List UInt8) (hs : s.size ≤ maxLen) (hc : c ≤ 9007199254740991) (hd : d ≤ 9007199254740991) (ht : t.size ≤ 281474976710656) (h : s.data.toList = pkR c t d ++ r)
    (hcell : w.cell? ⟨b, 0, none⟩ = some (.string s)) (hf : w.frozen? ⟨b, 0, none⟩ = false) :
    Calls Try.prog 20 #[.pointer (some ⟨b, 0, none⟩)] w fun e w' => e = .returned (Rv c t d) ∧ (∃ s' : ByteArray, s'.data.toList = r ∧ s'.size ≤ maxLen ∧ w'.cell? ⟨b, 0, none⟩ = some (.string s')) ∧ w'.frozen? ⟨b, 0, none⟩ = false ∧ w.grownBy w' (some b) := by
  have hbl : b < w.heap.size := World.block_lt_of_cell? w ⟨b, 0, none⟩ hcell
  have hts := size_of (s := t) rfl
  have h' : s.data.toList = pk c ++ (pk t.data.toList.length ++ (t.data.toList ++ (pk d ++ r))) := by
    rw [h]
    unfold pkR pkT
    rw [hts]
    simp only [List.append_assoc]
  have HS : Hid _ := h'
  have HT : Hid (t.data.toList.length ≤ 281474976710656) := by show _ ≤ _; omega
  have c0 : (w.alloc (.cells #[.int .i64 0, .string ⟨#[]⟩, .int .i64 0] 23)).cell? ⟨b, 0, none⟩ = some (.string s) := by rw [World.cell?_alloc_past _ _ _ hbl]; exact hcell
  have f0 : (w.alloc (.cells #[.int .i64 0, .string ⟨#[]⟩, .int .i64 0] 23)).frozen? ⟨b, 0, none⟩ = false := by
    rw [World.frozen?_of_block (w := w) (Below.heap_alloc w _ b hbl)]; exact hf
  have C0 : Hid _ := c0
  have F0 : Hid _ := f0
  have hne : ¬ w.heap.size = b := by omega
  have hne' : ¬ b = w.heap.size := by omega
  have G0 : Hid (w.grownBy (w.alloc (.cells #[.int .i64 0, .string ⟨#[]⟩, .int .i64 0] 23)) (some b)) := World.grownBy_alloc w _ _
  have X0 : Hid _ := heap_alloc_new w (.cells #[.int .i64 0, .string ⟨#[]⟩, .int .i64 0] 23)
  clear h h' hts c0 f0 hf hcell
  go_enter Try.func20, Try.ntmps20
  go_wp2_with fail
  refine (rd_number2 b s _ c _ hs hc HS.out C0.out F0.out).mono ?_
  rintro e w1 ⟨rfl, ⟨s1, hs1, hz1, hc1⟩, hf1, hg1⟩
  have x1 := (hg1.block w.heap.size (by simp) (by simpa using hne)).trans X0.out
  have G1 : Hid (w.grownBy w1 (some b)) := grownBy_trans G0.out hg1
  have X1 : Hid _ := x1
  have S1 : Hid _ := hs1
  have C1 : Hid _ := hc1
  have F1 : Hid _ := hf1
  clear hs1 hc1 hf1 hg1 x1
  go_wp2_with fail
  refine (rd_text b s1 w1 t.data.toList _ hz1 HT.out S1.out C1.out F1.out).mono ?_
  rintro e w2 ⟨rfl, ⟨s2, hs2, hz2, hc2⟩, hf2, hg2⟩
  have x2 := (hg2.block w.heap.size (by have := G1.out.size; have h := Array.getElem?_eq_some_iff.1 X1.out; exact h.1) (by simpa using hne)).trans X1.out
  have G2 : Hid (w.grownBy w2 (some b)) := grownBy_trans G1.out hg2
  have X2 : Hid _ := x2
  have S2 : Hid _ := hs2
  have C2 : Hid _ := hc2
  have F2 : Hid _ := hf2
  clear hs2 hc2 hf2 hg2 x2
  go_wp2_with fail
  refine (rd_number2 b s2 w2 d r hz2 hd S2.out C2.out F2.out).mono ?_
  rintro e w3 ⟨rfl, ⟨s3, hs3, hz3, hc3⟩, hf3, hg3⟩
  have x3 := (hg3.block w.heap.size (by have h := Array.getElem?_eq_some_iff.1 X2.out; exact h.1) (by simpa using hne)).trans X2.out
  have G3 : Hid (w.grownBy w3 (some b)) := grownBy_trans G2.out hg3
  have q0 : w3.cell? ⟨w.heap.size, 0, none⟩ = some (.int .i64 0) := by rw [Lib.cell_of_heap x3]; rfl
  have q1 : w3.cell? ⟨w.heap.size, 1, none⟩ = some (.string ⟨#[]⟩) := by rw [Lib.cell_of_heap x3]; rfl
  have q2 : w3.cell? ⟨w.heap.size, 2, none⟩ = some (.int .i64 0) := by rw [Lib.cell_of_heap x3]; rfl
  have r0 : w3.frozen? ⟨w.heap.size, 0, none⟩ = false := Lib.frozen_of_heap x3 0
  have r1 : w3.frozen? ⟨w.heap.size, 1, none⟩ = false := Lib.frozen_of_heap x3 1
  have r2 : w3.frozen? ⟨w.heap.size, 2, none⟩ = false := Lib.frozen_of_heap x3 2
  have B4 : Hid (∀ v0 v1 v2 : Value, Below w.heap.size w3 (((w3.setCell ⟨w.heap.size, 0, none⟩ v0).setCell ⟨w.heap.size, 1, none⟩ v1).setCell ⟨w.heap.size, 2, none⟩ v2)) := fun v0 v1 v2 =>
    (((Below.refl _ _).setCell (p := ⟨w.heap.size, 0, none⟩) (Nat.le_refl _) _).setCell (p := ⟨w.heap.size, 1, none⟩) (Nat.le_refl _) _).setCell (p := ⟨w.heap.size, 2, none⟩) (Nat.le_refl _) _
  have S3 : Hid _ := hs3
  have C3 : Hid _ := hc3
  have F3 : Hid _ := hf3
  clear hg3 x3 hs3 hc3 hf3
  go_wp2
  refine bodyPost_ret (v := Rv c t d) (by simp [results, Try.results20, go_sem, q0, q1, q2]) rfl ⟨rfl, ⟨s3, S3.out, hz3, ?_⟩, ?_, ?_⟩
  · exact ((B4.out _ _ _).cell (p := ⟨b, 0, none⟩) hbl).trans C3.out
  · exact ((B4.out _ _ _).frozen (p := ⟨b, 0, none⟩) hbl).trans F3.out
  · have b4 := B4.out (.int .i64 c) (.string ⟨t.data⟩) (.int .i64 d)
    have g3 := G3.out
    exact ⟨b4.os.trans g3.os, b4.tape.trans g3.tape, b4.output.trans g3.output, Nat.le_trans g3.size b4.size, fun k hk hr => (b4.block k hk).trans (g3.block k hk hr)⟩

set_option maxHeartbeats 1000000 in
theorem catch_idle_r (p q : Addr) (w : World) :
    CallsD Try.prog 40 #[.pointer (some p), .pointer (some q)] .returning w fun e u' w' => e = .returned (.tuple #[]) ∧ u' = .returning ∧ w' = w := by
  refine callsD_of_wpS Try.func40 rfl fun c₀ cs hu => ?_
  apply wpS_seq
  apply wpS_region
  simp [wpOpsS, go_sem, recoverD, hu, Try.ntmps40, Exit.thenS]
  refine wpS_cond (t := false) (by simp [Act.eval, Array.replicate]) ?_
  simp only [Bool.false_eq_true, if_false]
  refine wpS_of_wp (wp_skip ?_)
  cases c₀
  simp_all [bodyPostS, results, Try.results40]

set_option maxHeartbeats 4000000 in
set_option maxRecDepth 100000 in
theorem whole_result (c d : Nat) (s t : ByteArray) (w : World) (hs : s.size ≤ maxLen) (hok : okR c t d) (h : s.data.toList = pkR c t d) :
    Calls Try.prog 19 #[.string s, .func (.func 20) #[] #[], .func (.func 21) #[] #[]] w fun e w' => e = .returned (.tuple #[Rv c t d, .int .i64 0]) ∧ Below w.heap.size w w' := by
  have hmf : ∀ (fn : Fn) (first cap : Array Value) (w : World), (Instr.makeFunc fn first cap).run Try.prog w = .ok (.func fn first cap) w := fun _ _ _ _ => rfl
  have H : Hid (s.data.toList = pkR c t d ++ []) := by show _ = _; rw [h]; simp
  have g1 := noN_false hok.1
  have g2 := noN_false hok.2.1
  have g3 := digOk_size hok.2.2
  have G : Hid (c ≤ 9007199254740991 ∧ d ≤ 9007199254740991 ∧ t.size ≤ 100000) := ⟨by omega, by omega, by omega⟩
  have HR : Hid (reC c t d = 0) := reC_ok c d t hok
  clear h g1 g2 g3 hok
  go_enter_defers Try.func19, Try.ntmps19
  go_wp2_with fail
  refine (rd_result (w.heap.size + 1 + 1) c d s t _ [] hs G.out.1 G.out.2.1 (Nat.le_trans G.out.2.2 (by decide)) H.out (by simp [go_sem]) (by simp [go_sem])).mono ?_
  rintro e w1 ⟨rfl, ⟨s1, hs1, _, hc1⟩, hf1, hg1⟩
  obtain rfl : s1 = ⟨#[]⟩ := bytes_eq hs1
  have xv := hg1.block w.heap.size (by simp; omega) (by simp; omega)
  have xe := hg1.block (w.heap.size + 1) (by simp) (by simp)
  rw [Below.heap_alloc _ _ _ (by simp; omega), Below.heap_alloc _ _ _ (by simp), heap_alloc_new] at xv
  rw [Below.heap_alloc _ _ _ (by simp), show w.heap.size + 1 = (w.alloc (.cells #[.int .i64 0, .string ⟨#[]⟩, .int .i64 0] 23)).heap.size from by simp, heap_alloc_new] at xe
  have q0 : w1.cell? ⟨w.heap.size, 0, none⟩ = some (.int .i64 0) := by rw [Lib.cell_of_heap xv]; rfl
  have q1 : w1.cell? ⟨w.heap.size, 1, none⟩ = some (.string ⟨#[]⟩) := by rw [Lib.cell_of_heap xv]; rfl
  have q2 : w1.cell? ⟨w.heap.size, 2, none⟩ = some (.int .i64 0) := by rw [Lib.cell_of_heap xv]; rfl
  have r0 : w1.frozen? ⟨w.heap.size, 0, none⟩ = false := Lib.frozen_of_heap xv 0
  have r1 : w1.frozen? ⟨w.heap.size, 1, none⟩ = false := Lib.frozen_of_heap xv 1
  have r2 : w1.frozen? ⟨w.heap.size, 2, none⟩ = false := Lib.frozen_of_heap xv 2
  have q3 : w1.cell? ⟨w.heap.size + 1, 0, none⟩ = some (.int .i64 0) := hg1.cell (by simp [go_sem]) (by simp)
  have r3 : w1.frozen? ⟨w.heap.size + 1, 0, none⟩ = false := by
    rw [World.frozen?_of_block (hg1.block (w.heap.size + 1) (by simp) (by simp))]; simp [go_sem]
  have hsz1 : w.heap.size + 1 + 1 < w1.heap.size := by have := hg1.size; simp at this; omega
  have HB : Hid (Below w.heap.size w w1) := ((((Below.refl _ _).alloc (Nat.le_refl _) _).alloc (by simp) _).alloc (by simp; omega) _).grown hg1 (by simp; omega) (by intro k hk; cases hk; omega)
  clear xv xe hg1 hs1 hf1 H
  go_wp2_with fail
  refine (re_code c d t _).mono ?_
  rintro e w2 ⟨rfl, hb2⟩
  rw [HR.out]
  have s0 : w2.cell? ⟨w.heap.size, 0, none⟩ = some (.int .i64 c) := (hb2.cell (p := ⟨w.heap.size, 0, none⟩) (by simp; omega)).trans (by simp [go_sem, q0])
  have s1 : w2.cell? ⟨w.heap.size, 1, none⟩ = some (.string t) := (hb2.cell (p := ⟨w.heap.size, 1, none⟩) (by simp; omega)).trans (by simp [go_sem, q1])
  have s2 : w2.cell? ⟨w.heap.size, 2, none⟩ = some (.int .i64 d) := (hb2.cell (p := ⟨w.heap.size, 2, none⟩) (by simp; omega)).trans (by simp [go_sem, q2])
  have s3 : w2.cell? ⟨w.heap.size + 1, 0, none⟩ = some (.int .i64 0) := (hb2.cell (p := ⟨w.heap.size + 1, 0, none⟩) (by simp; omega)).trans (by simp [go_sem, q3])
  have u0 : w2.frozen? ⟨w.heap.size, 0, none⟩ = false := (hb2.frozen (p := ⟨w.heap.size, 0, none⟩) (by simp; omega)).trans (by simp [r0])
  have u1 : w2.frozen? ⟨w.heap.size, 1, none⟩ = false := (hb2.frozen (p := ⟨w.heap.size, 1, none⟩) (by simp; omega)).trans (by simp [r1])
  have u2 : w2.frozen? ⟨w.heap.size, 2, none⟩ = false := (hb2.frozen (p := ⟨w.heap.size, 2, none⟩) (by simp; omega)).trans (by simp [r2])
  have u3 : w2.frozen? ⟨w.heap.size + 1, 0, none⟩ = false := (hb2.frozen (p := ⟨w.heap.size + 1, 0, none⟩) (by simp; omega)).trans (by simp [r3])
  have HB2 : Hid (Below w.heap.size w w2) := (((HB.out.setCell (p := ⟨w.heap.size, 0, none⟩) (Nat.le_refl _) _).setCell (p := ⟨w.heap.size, 1, none⟩) (Nat.le_refl _) _).setCell (p := ⟨w.heap.size, 2, none⟩) (Nat.le_refl _) _).trans (hb2.mono (by simp; omega))
  clear hb2 q0 q1 q2 q3 r0 r1 r2 r3
  go_wp2
  refine leaves_cons (f := 40) (args := #[.pointer (some ⟨w.heap.size, 0, none⟩), .pointer (some ⟨w.heap.size + 1, 0, none⟩)]) (by simp) (by simp [go_sem]) ?_
  refine (catch_idle_r ⟨w.heap.size, 0, none⟩ ⟨w.heap.size + 1, 0, none⟩ _).mono ?_
  rintro e u' w'' ⟨rfl, rfl, rfl⟩
  simp [Leaves, settle, results, Try.results19, go_sem, s0, s1, s2, s3]
  exact (((HB2.out.setCell (p := ⟨w.heap.size, 0, none⟩) (Nat.le_refl _) _).setCell (p := ⟨w.heap.size, 1, none⟩) (Nat.le_refl _) _).setCell (p := ⟨w.heap.size, 2, none⟩) (Nat.le_refl _) _).setCell (p := ⟨w.heap.size + 1, 0, none⟩) (Nat.le_succ _) _

set_option maxHeartbeats 1000000 in
set_option maxRecDepth 100000 in
theorem ReadResult_pk (c d : Nat) (s t : ByteArray) (w : World) (hs : s.size ≤ maxLen) (hok : okR c t d) (h : s.data.toList = pkR c t d) :
    Calls Try.prog 7 #[.string s] w fun e w' => e = .returned (.tuple #[Rv c t d, .int .i64 0]) ∧ Below w.heap.size w w' := by
  have H : Hid _ := h
  have HK : Hid (okR c t d) := hok
  clear h hok
  go_enter Try.func7, Try.ntmps7
  go_wp2_with fail
  refine (whole_result c d s t _ hs HK.out H.out).mono ?_
  rintro e w1 ⟨rfl, hb1⟩
  have q0 : w1.cell? ⟨w.heap.size, 0, none⟩ = some (.int .i64 0) := (hb1.cell (p := ⟨w.heap.size, 0, none⟩) (by simp)).trans (by simp [go_sem])
  have q1 : w1.cell? ⟨w.heap.size, 1, none⟩ = some (.string ⟨#[]⟩) := (hb1.cell (p := ⟨w.heap.size, 1, none⟩) (by simp)).trans (by simp [go_sem])
  have q2 : w1.cell? ⟨w.heap.size, 2, none⟩ = some (.int .i64 0) := (hb1.cell (p := ⟨w.heap.size, 2, none⟩) (by simp)).trans (by simp [go_sem])
  have r0 : w1.frozen? ⟨w.heap.size, 0, none⟩ = false := (hb1.frozen (p := ⟨w.heap.size, 0, none⟩) (by simp)).trans (by simp [go_sem])
  have r1 : w1.frozen? ⟨w.heap.size, 1, none⟩ = false := (hb1.frozen (p := ⟨w.heap.size, 1, none⟩) (by simp)).trans (by simp [go_sem])
  have r2 : w1.frozen? ⟨w.heap.size, 2, none⟩ = false := (hb1.frozen (p := ⟨w.heap.size, 2, none⟩) (by simp)).trans (by simp [go_sem])
  have HB1 : Hid (Below w.heap.size w w1) := ((Below.refl _ _).alloc (Nat.le_refl _) _).trans (hb1.mono (by simp))
  clear hb1
  go_wp2
  exact bodyPost_ret (v := .tuple #[Rv c t d, .int .i64 0]) (by simp [results, Try.results7, go_sem, q0, q1, q2]) rfl ⟨rfl, ((HB1.out.setCell (p := ⟨w.heap.size, 0, none⟩) (Nat.le_refl _) _).setCell (p := ⟨w.heap.size, 1, none⟩) (Nat.le_refl _) _).setCell (p := ⟨w.heap.size, 2, none⟩) (Nat.le_refl _) _⟩
end Go.Proofs.Ytligalcphlfmcad
