/- What ReadResult answers where the text is of no result. -/
import Derived.Test.YtligalcphlfmcadRdNo
import Derived.Test.YtligalcphlfmcadReadR
namespace Go.Proofs.Ytligalcphlfmcad
open Go.RowKit Go.Shelf

/-- No packed result (whatever its text) stands at the beginning. -/
def NoRes (s : ByteArray) : Prop := ¬ ∃ (c d : Nat) (t : ByteArray) (r : List UInt8), c ≤ 9007199254740991 ∧ d ≤ 9007199254740991 ∧ s.data.toList = pkR c t d ++ r

set_option maxHeartbeats 2000000 in
set_option maxRecDepth 100000 in
theorem rd_result_no (b : Nat) (s : ByteArray) (w : World) (hs : s.size ≤ 140737488355328) (hno : NoRes s) (hc : w.cell? ⟨b, 0, none⟩ = some (.string s)) (hf : w.frozen? ⟨b, 0, none⟩ = false) :
    Calls Try.prog 20 #[.pointer (some ⟨b, 0, none⟩)] w fun e w' => e = PE ∧ w.grownBy w' (some b) := by
  have hsm : s.size ≤ maxLen := by unfold maxLen; omega
  have hbl : b < w.heap.size := World.block_lt_of_cell? w ⟨b, 0, none⟩ hc
  have C0 : Hid ((w.alloc (.cells #[.int .i64 0, .string ⟨#[]⟩, .int .i64 0] 23)).cell? ⟨b, 0, none⟩ = some (.string s)) := by show _ = _; rw [World.cell?_alloc_past _ _ _ hbl]; exact hc
  have F0 : Hid ((w.alloc (.cells #[.int .i64 0, .string ⟨#[]⟩, .int .i64 0] 23)).frozen? ⟨b, 0, none⟩ = false) := by
    show _ = _
    rw [World.frozen?_of_block (w := w) (Below.heap_alloc w _ b hbl)]; exact hf
  have G0 : Hid (w.grownBy (w.alloc (.cells #[.int .i64 0, .string ⟨#[]⟩, .int .i64 0] 23)) (some b)) := World.grownBy_alloc w _ _
  clear hc hf
  by_cases hn : NoNum s
  · have HN : Hid (NoNum s) := hn
    clear hn hno
    go_enter Try.func20, Try.ntmps20
    go_wp2_with fail
    refine (rd_number_no b s _ hsm HN.out C0.out).mono ?_
    rintro e w1 ⟨rfl, rfl⟩
    go_wp2
    exact ⟨rfl, rfl, G0.out⟩
  obtain ⟨c, r1, hc1, hr1⟩ := Classical.not_not.1 hn
  have R1 : Hid _ := hr1
  clear hn
  have hs1 : ∀ s1 : ByteArray, s1.data.toList = r1 → s1.size ≤ 140737488355328 := fun s1 h => by
    have e1 := size_of hr1
    have e2 := size_of h
    rw [List.length_append] at e1
    omega
  have S1 : Hid _ := hs1
  have HNO : Hid (NoRes s) := hno
  clear hr1 hs1 hno
  by_cases hnt : NoText ⟨r1.toArray⟩
  · have HT : Hid (∀ s1 : ByteArray, s1.data.toList = r1 → NoText s1) := fun s1 h => by rw [bytes_eq h]; exact hnt
    clear hnt
    go_enter Try.func20, Try.ntmps20
    go_wp2_with fail
    refine (rd_number2 b s _ c r1 hsm hc1 R1.out C0.out F0.out).mono ?_
    rintro e w1 ⟨rfl, ⟨s1, hs1, hz1, hc1'⟩, hf1, hg1⟩
    have G1 : Hid (w.grownBy w1 (some b)) := grownBy_trans G0.out hg1
    have E1 : Hid _ := hs1
    clear hg1 hs1
    go_wp2_with fail
    refine (rd_text_no b s1 w1 hz1 (HT.out s1 E1.out) hc1' hf1).mono ?_
    rintro e w2 ⟨rfl, hg2⟩
    have G2 : Hid (w.grownBy w2 (some b)) := grownBy_trans G1.out hg2
    clear hg2
    go_wp2
    exact ⟨rfl, rfl, G2.out⟩
  obtain ⟨t, r2, ht1, ht2⟩ := Classical.not_not.1 hnt
  have T2 : Hid (r1 = pk t.length ++ (t ++ r2)) := ht2
  have hle1 : t.length ≤ 281474976710656 := by
    have h1 := S1.out ⟨r1.toArray⟩ rfl
    have h2 := size_of ht2
    simp only [List.length_append] at h2
    omega
  clear hnt ht2
  by_cases hn2 : NoNum ⟨r2.toArray⟩
  · have HN2 : Hid (∀ s2 : ByteArray, s2.data.toList = r2 → NoNum s2) := fun s2 h => by rw [bytes_eq h]; exact hn2
    clear hn2
    go_enter Try.func20, Try.ntmps20
    go_wp2_with fail
    refine (rd_number2 b s _ c r1 hsm hc1 R1.out C0.out F0.out).mono ?_
    rintro e w1 ⟨rfl, ⟨s1, hs1, hz1, hc1'⟩, hf1, hg1⟩
    have G1 : Hid (w.grownBy w1 (some b)) := grownBy_trans G0.out hg1
    have E1 : Hid (s1.data.toList = pk t.length ++ (t ++ r2)) := by show _ = _; rw [hs1, T2.out]
    clear hg1 hs1
    go_wp2_with fail
    refine (rd_text b s1 w1 t r2 hz1 hle1 E1.out hc1' hf1).mono ?_
    rintro e w2 ⟨rfl, ⟨s2, hs2, hz2, hc2⟩, hf2, hg2⟩
    have G2 : Hid (w.grownBy w2 (some b)) := grownBy_trans G1.out hg2
    have E2 : Hid _ := hs2
    clear hg2 hs2
    go_wp2_with fail
    refine (rd_number_no b s2 w2 hz2 (HN2.out s2 E2.out) hc2).mono ?_
    rintro e w3 ⟨rfl, rfl⟩
    go_wp2
    exact ⟨rfl, rfl, G2.out⟩
  obtain ⟨d, r3, hd1, hd2⟩ := Classical.not_not.1 hn2
  exfalso
  refine HNO.out ⟨c, d, ⟨t.toArray⟩, r3, hc1, hd1, ?_⟩
  have hd2' : r2 = pk d ++ r3 := hd2
  rw [R1.out, T2.out, hd2']
  unfold pkR pkT
  rw [show (⟨t.toArray⟩ : ByteArray).size = t.length from size_of rfl]
  simp only [List.append_assoc]

/-- What the closure leaves behind a panic. -/
def Cleared (B pb qb : Nat) (w w' : World) : Prop := w'.cell? ⟨pb, 0, none⟩ = some (.int .i64 0) ∧ w'.cell? ⟨pb, 1, none⟩ = some (.string ⟨#[]⟩) ∧ w'.cell? ⟨pb, 2, none⟩ = some (.int .i64 0) ∧ w'.cell? ⟨qb, 0, none⟩ = some (.int .i64 1) ∧ Below B w w'

set_option maxHeartbeats 2000000 in
set_option maxRecDepth 100000 in
theorem catch_pan_r (B pb qb : Nat) (x0 x1 x2 y : Value) (u : TypeId) (pv : Value) (older : List PanicEntry) (w : World) (h0 : w.cell? ⟨pb, 0, none⟩ = some x0) (h1 : w.cell? ⟨pb, 1, none⟩ = some x1) (h2 : w.cell? ⟨pb, 2, none⟩ = some x2)
    (f0 : w.frozen? ⟨pb, 0, none⟩ = false) (f1 : w.frozen? ⟨pb, 1, none⟩ = false) (f2 : w.frozen? ⟨pb, 2, none⟩ = false) (hq : w.cell? ⟨qb, 0, none⟩ = some y) (hqf : w.frozen? ⟨qb, 0, none⟩ = false) (_hpq : ¬ pb = qb) (hB : B ≤ pb) (hB2 : B ≤ qb) :
    CallsD Try.prog 40 #[.pointer (some ⟨pb, 0, none⟩), .pointer (some ⟨qb, 0, none⟩)] (.panicking ({ v := .iface u pv, recovered := false } :: older)) w fun e u' w' =>
      e = .returned (.tuple #[]) ∧ u' = .panicking ({ v := .iface u pv, recovered := true } :: older) ∧ Cleared B pb qb w w' := by
  have hpl : pb < w.heap.size := World.block_lt_of_cell? w ⟨pb, 0, none⟩ h0
  have hql : qb < w.heap.size := World.block_lt_of_cell? w ⟨qb, 0, none⟩ hq
  have hn1 : ¬ pb = w.heap.size := by omega
  have hn2 : ¬ qb = w.heap.size := by omega
  refine callsD_of_wpS Try.func40 rfl fun c₀ cs hu => ?_
  apply wpS_seq
  apply wpS_region
  simp [wpOpsS, go_sem, recoverD, hu, Try.ntmps40, Exit.thenS]
  refine wpS_cond (t := true) (by simp [Act.eval, Array.replicate]) ?_
  simp only [if_true]
  apply wpS_seq
  apply wpS_region
  simp [wpOpsS, go_sem, Exit.thenS]
  apply wpS_region
  simp [wpOpsS, go_sem, h0, h1, h2, f0, f1, f2, hqf, hq, World.cell?_alloc_past, hpl, hql, bodyPostS, results, Try.results40]
  refine ⟨?_, ?_, ?_, ?_, ?_⟩
  · rw [World.cell?_alloc_past _ _ _ (by simpa using hpl)]; simp [go_sem, h0]
  · rw [World.cell?_alloc_past _ _ _ (by simpa using hpl)]; simp [go_sem, h1]
  · rw [World.cell?_alloc_past _ _ _ (by simpa using hpl)]; simp [go_sem, h2]
  · rw [World.cell?_alloc_past _ _ _ (by simpa using hql)]; simp [go_sem, hq]
  · exact (((((Below.refl B w).setCell (p := ⟨pb, 0, none⟩) hB _).setCell (p := ⟨pb, 1, none⟩) hB _).setCell (p := ⟨pb, 2, none⟩) hB _).setCell (p := ⟨qb, 0, none⟩) hB2 _).alloc (by simp; omega) _

/-- The door behind a panic: the closure recovers, and no result and ErrForm are answered. -/
theorem door_pan_r (w w1 : World) (tmps : Array Value) (hb : Below w.heap.size w w1) (ht6 : tmps[6]?.getD undef = .pointer (some ⟨w.heap.size, 0, none⟩)) (ht7 : tmps[7]?.getD undef = .pointer (some ⟨w.heap.size + 1, 0, none⟩)) (x0 x1 x2 y : Value)
    (h0 : w1.cell? ⟨w.heap.size, 0, none⟩ = some x0) (h1 : w1.cell? ⟨w.heap.size, 1, none⟩ = some x1) (h2 : w1.cell? ⟨w.heap.size, 2, none⟩ = some x2)
    (f0 : w1.frozen? ⟨w.heap.size, 0, none⟩ = false) (f1 : w1.frozen? ⟨w.heap.size, 1, none⟩ = false) (f2 : w1.frozen? ⟨w.heap.size, 2, none⟩ = false) (hq : w1.cell? ⟨w.heap.size + 1, 0, none⟩ = some y) (hqf : w1.frozen? ⟨w.heap.size + 1, 0, none⟩ = false) :
    bodyPostD Try.prog Try.f19 (fun e w' => e = .returned (.tuple #[Rv 0 ⟨#[]⟩ 0, .int .i64 1]) ∧ Below w.heap.size w w') (Exit.panic [{ v := .iface 24 (.int .i64 1), recovered := false }])
      { tmps := tmps, defers := [{ target := Target.fn (Fn.func 40) #[.pointer (some ⟨w.heap.size, 0, none⟩), .pointer (some ⟨w.heap.size + 1, 0, none⟩)], args := #[] }] } w1 := by
  refine leaves_cons (f := 40) (args := #[.pointer (some ⟨w.heap.size, 0, none⟩), .pointer (some ⟨w.heap.size + 1, 0, none⟩)]) (by simp) (by simp [go_sem]) ?_
  refine (catch_pan_r w.heap.size w.heap.size (w.heap.size + 1) x0 x1 x2 y 24 (.int .i64 1) [] _ h0 h1 h2 f0 f1 f2 hq hqf (by omega) (Nat.le_refl _) (Nat.le_succ _)).mono ?_
  rintro e u' w2 ⟨rfl, rfl, q0, q1, q2, q3, hb2⟩
  simp [Leaves, settle, results, Try.results19, go_sem, q0, q1, q2, q3, ht6, ht7]
  exact hb.trans hb2

def NoResult (s : ByteArray) : Prop := ¬ ∃ (c d : Nat) (t : ByteArray), okR c t d ∧ s.data.toList = pkR c t d

set_option maxHeartbeats 4000000 in
set_option maxRecDepth 100000 in
theorem whole_result_no (s : ByteArray) (w : World) (hs : s.size ≤ 140737488355328) (hno : NoResult s) :
    Calls Try.prog 19 #[.string s, .func (.func 20) #[] #[], .func (.func 21) #[] #[]] w fun e w' => e = .returned (.tuple #[Rv 0 ⟨#[]⟩ 0, .int .i64 1]) ∧ Below w.heap.size w w' := by
  have hmf : ∀ (fn : Fn) (first cap : Array Value) (w : World), (Instr.makeFunc fn first cap).run Try.prog w = .ok (.func fn first cap) w := fun _ _ _ _ => rfl
  have hsm : s.size ≤ maxLen := by unfold maxLen; omega
  by_cases hl : NoRes s
  · have HL : Hid (NoRes s) := hl
    clear hl hno
    go_enter_defers Try.func19, Try.ntmps19
    go_wp2_with fail
    refine (rd_result_no (w.heap.size + 1 + 1) s _ hs HL.out (by simp [go_sem]) (by simp [go_sem])).mono ?_
    rintro e w1 ⟨rfl, hg1⟩
    have xv := hg1.block w.heap.size (by simp; omega) (by simp; omega)
    rw [Below.heap_alloc _ _ _ (by simp; omega), Below.heap_alloc _ _ _ (by simp), heap_alloc_new] at xv
    have q0 : w1.cell? ⟨w.heap.size, 0, none⟩ = some (.int .i64 0) := by rw [Lib.cell_of_heap xv]; rfl
    have q1 : w1.cell? ⟨w.heap.size, 1, none⟩ = some (.string ⟨#[]⟩) := by rw [Lib.cell_of_heap xv]; rfl
    have q2 : w1.cell? ⟨w.heap.size, 2, none⟩ = some (.int .i64 0) := by rw [Lib.cell_of_heap xv]; rfl
    have r0 : w1.frozen? ⟨w.heap.size, 0, none⟩ = false := Lib.frozen_of_heap xv 0
    have r1 : w1.frozen? ⟨w.heap.size, 1, none⟩ = false := Lib.frozen_of_heap xv 1
    have r2 : w1.frozen? ⟨w.heap.size, 2, none⟩ = false := Lib.frozen_of_heap xv 2
    have q3 : w1.cell? ⟨w.heap.size + 1, 0, none⟩ = some (.int .i64 0) := hg1.cell (by simp [go_sem]) (by simp)
    have r3 : w1.frozen? ⟨w.heap.size + 1, 0, none⟩ = false := by
      rw [World.frozen?_of_block (hg1.block (w.heap.size + 1) (by simp) (by simp))]; simp [go_sem]
    have HB : Hid (Below w.heap.size w w1) := ((((Below.refl _ _).alloc (Nat.le_refl _) _).alloc (by simp) _).alloc (by simp; omega) _).grown hg1 (by simp; omega) (by intro k hk; cases hk; omega)
    clear hg1 xv
    go_wp2
    exact door_pan_r w w1 _ HB.out rfl rfl _ _ _ _ q0 q1 q2 r0 r1 r2 q3 r3
  obtain ⟨c, d, t, r, hc1, hd1, hr⟩ := Classical.not_not.1 hl
  have HR : Hid (s.data.toList = pkR c t d ++ r) := hr
  have HC : Hid (r = [] → ¬ okR c t d) := fun h0 hok => hno ⟨c, d, t, hok, by rw [hr, h0]; simp⟩
  have htl : t.size ≤ 281474976710656 := by
    have h2 := size_of hr
    have h3 := size_of (s := t) rfl
    simp only [pkR, pkT, List.length_append] at h2
    omega
  clear hl hno hr
  go_enter_defers Try.func19, Try.ntmps19
  go_wp2_with fail
  refine (rd_result (w.heap.size + 1 + 1) c d s t _ r hsm hc1 hd1 htl HR.out (by simp [go_sem]) (by simp [go_sem])).mono ?_
  rintro e w1 ⟨rfl, ⟨s1, hs1, _, hc1'⟩, hf1, hg1⟩
  have xv := hg1.block w.heap.size (by simp; omega) (by simp; omega)
  rw [Below.heap_alloc _ _ _ (by simp; omega), Below.heap_alloc _ _ _ (by simp), heap_alloc_new] at xv
  have q0 : w1.cell? ⟨w.heap.size, 0, none⟩ = some (.int .i64 0) := by rw [Lib.cell_of_heap xv]; rfl
  have q1 : w1.cell? ⟨w.heap.size, 1, none⟩ = some (.string ⟨#[]⟩) := by rw [Lib.cell_of_heap xv]; rfl
  have q2 : w1.cell? ⟨w.heap.size, 2, none⟩ = some (.int .i64 0) := by rw [Lib.cell_of_heap xv]; rfl
  have r0 : w1.frozen? ⟨w.heap.size, 0, none⟩ = false := Lib.frozen_of_heap xv 0
  have r1 : w1.frozen? ⟨w.heap.size, 1, none⟩ = false := Lib.frozen_of_heap xv 1
  have r2 : w1.frozen? ⟨w.heap.size, 2, none⟩ = false := Lib.frozen_of_heap xv 2
  have q3 : w1.cell? ⟨w.heap.size + 1, 0, none⟩ = some (.int .i64 0) := hg1.cell (by simp [go_sem]) (by simp)
  have r3 : w1.frozen? ⟨w.heap.size + 1, 0, none⟩ = false := by
    rw [World.frozen?_of_block (hg1.block (w.heap.size + 1) (by simp) (by simp))]; simp [go_sem]
  have hsz1 : w.heap.size + 1 + 1 < w1.heap.size := by have := hg1.size; simp at this; omega
  have HB : Hid (Below w.heap.size w w1) := ((((Below.refl _ _).alloc (Nat.le_refl _) _).alloc (by simp) _).alloc (by simp; omega) _).grown hg1 (by simp; omega) (by intro k hk; cases hk; omega)
  have HB1 : Hid (Below w.heap.size w (((w1.setCell ⟨w.heap.size, 0, none⟩ (.int .i64 c)).setCell ⟨w.heap.size, 1, none⟩ (.string t)).setCell ⟨w.heap.size, 2, none⟩ (.int .i64 d))) := ((HB.out.setCell (p := ⟨w.heap.size, 0, none⟩) (Nat.le_refl _) _).setCell (p := ⟨w.heap.size, 1, none⟩) (Nat.le_refl _) _).setCell (p := ⟨w.heap.size, 2, none⟩) (Nat.le_refl _) _
  clear xv hg1 hf1
  by_cases h0 : r = []
  · have HK : Hid (¬ okR c t d) := HC.out h0
    have hne := reC_ne c d t (HC.out h0)
    obtain rfl : s1 = ⟨#[]⟩ := bytes_eq (hs1.trans h0)
    clear hs1 HC h0 HR
    go_wp2_with fail
    refine (re_code c d t _).mono ?_
    rintro e w2 ⟨rfl, hb2⟩
    have s0 : w2.cell? ⟨w.heap.size, 0, none⟩ = some (.int .i64 c) := (hb2.cell (p := ⟨w.heap.size, 0, none⟩) (by simp; omega)).trans (by simp [go_sem, q0])
    have s1 : w2.cell? ⟨w.heap.size, 1, none⟩ = some (.string t) := (hb2.cell (p := ⟨w.heap.size, 1, none⟩) (by simp; omega)).trans (by simp [go_sem, q1])
    have s2 : w2.cell? ⟨w.heap.size, 2, none⟩ = some (.int .i64 d) := (hb2.cell (p := ⟨w.heap.size, 2, none⟩) (by simp; omega)).trans (by simp [go_sem, q2])
    have s3 : w2.cell? ⟨w.heap.size + 1, 0, none⟩ = some (.int .i64 0) := (hb2.cell (p := ⟨w.heap.size + 1, 0, none⟩) (by simp; omega)).trans (by simp [go_sem, q3])
    have u0 : w2.frozen? ⟨w.heap.size, 0, none⟩ = false := (hb2.frozen (p := ⟨w.heap.size, 0, none⟩) (by simp; omega)).trans (by simp [r0])
    have u1 : w2.frozen? ⟨w.heap.size, 1, none⟩ = false := (hb2.frozen (p := ⟨w.heap.size, 1, none⟩) (by simp; omega)).trans (by simp [r1])
    have u2 : w2.frozen? ⟨w.heap.size, 2, none⟩ = false := (hb2.frozen (p := ⟨w.heap.size, 2, none⟩) (by simp; omega)).trans (by simp [r2])
    have u3 : w2.frozen? ⟨w.heap.size + 1, 0, none⟩ = false := (hb2.frozen (p := ⟨w.heap.size + 1, 0, none⟩) (by simp; omega)).trans (by simp [r3])
    have HB2 : Hid (Below w.heap.size w w2) := HB1.out.trans (hb2.mono (by simp; omega))
    clear hb2 q0 q1 q2 q3 r0 r1 r2 r3
    generalize reC c t d = rc at hne ⊢
    go_wp2_with fail
    refine (giveUp_any _).mono ?_
    rintro e w3 ⟨rfl, rfl⟩
    go_wp2
    exact door_pan_r w w3 _ HB2.out rfl rfl _ _ _ _ s0 s1 s2 u0 u1 u2 s3 u3
  · have hne2 : s1.toList.isEmpty = false := by
      rw [Lib.toList_data, hs1]
      cases r
      · exact absurd rfl h0
      · rfl
    have hne : (s1.toList == []) = false := by
      rw [beq_eq_false_iff_ne, Lib.toList_data, hs1]
      exact h0
    clear hs1 h0 HC HR
    go_wp2_with fail
    refine (giveUp_any _).mono ?_
    rintro e w3 ⟨rfl, rfl⟩
    have k0 : (((w1.setCell ⟨w.heap.size, 0, none⟩ (.int .i64 c)).setCell ⟨w.heap.size, 1, none⟩ (.string t)).setCell ⟨w.heap.size, 2, none⟩ (.int .i64 d)).cell? ⟨w.heap.size, 0, none⟩ = some (.int .i64 c) := by simp [go_sem, q0]
    have k1 : (((w1.setCell ⟨w.heap.size, 0, none⟩ (.int .i64 c)).setCell ⟨w.heap.size, 1, none⟩ (.string t)).setCell ⟨w.heap.size, 2, none⟩ (.int .i64 d)).cell? ⟨w.heap.size, 1, none⟩ = some (.string t) := by simp [go_sem, q1]
    have k2 : (((w1.setCell ⟨w.heap.size, 0, none⟩ (.int .i64 c)).setCell ⟨w.heap.size, 1, none⟩ (.string t)).setCell ⟨w.heap.size, 2, none⟩ (.int .i64 d)).cell? ⟨w.heap.size, 2, none⟩ = some (.int .i64 d) := by simp [go_sem, q2]
    have k3 : (((w1.setCell ⟨w.heap.size, 0, none⟩ (.int .i64 c)).setCell ⟨w.heap.size, 1, none⟩ (.string t)).setCell ⟨w.heap.size, 2, none⟩ (.int .i64 d)).cell? ⟨w.heap.size + 1, 0, none⟩ = some (.int .i64 0) := by simp [go_sem, q3]
    go_wp2
    exact door_pan_r w _ _ HB1.out rfl rfl _ _ _ _ k0 k1 k2 (by simp [r0]) (by simp [r1]) (by simp [r2]) k3 (by simp [r3])

set_option maxHeartbeats 1000000 in
set_option maxRecDepth 100000 in
theorem ReadResult_no (s : ByteArray) (w : World) (hs : s.size ≤ 140737488355328) (hno : NoResult s) :
    Calls Try.prog 7 #[.string s] w fun e w' => e = .returned (.tuple #[Rv 0 ⟨#[]⟩ 0, .int .i64 1]) ∧ Below w.heap.size w w' := by
  have HN : Hid (NoResult s) := hno
  clear hno
  go_enter Try.func7, Try.ntmps7
  go_wp2_with fail
  refine (whole_result_no s _ hs HN.out).mono ?_
  rintro e w1 ⟨rfl, hb1⟩
  have q0 : w1.cell? ⟨w.heap.size, 0, none⟩ = some (.int .i64 0) := (hb1.cell (p := ⟨w.heap.size, 0, none⟩) (by simp)).trans (by simp [go_sem])
  have q1 : w1.cell? ⟨w.heap.size, 1, none⟩ = some (.string ⟨#[]⟩) := (hb1.cell (p := ⟨w.heap.size, 1, none⟩) (by simp)).trans (by simp [go_sem])
  have q2 : w1.cell? ⟨w.heap.size, 2, none⟩ = some (.int .i64 0) := (hb1.cell (p := ⟨w.heap.size, 2, none⟩) (by simp)).trans (by simp [go_sem])
  have r0 : w1.frozen? ⟨w.heap.size, 0, none⟩ = false := (hb1.frozen (p := ⟨w.heap.size, 0, none⟩) (by simp)).trans (by simp [go_sem])
  have r1 : w1.frozen? ⟨w.heap.size, 1, none⟩ = false := (hb1.frozen (p := ⟨w.heap.size, 1, none⟩) (by simp)).trans (by simp [go_sem])
  have r2 : w1.frozen? ⟨w.heap.size, 2, none⟩ = false := (hb1.frozen (p := ⟨w.heap.size, 2, none⟩) (by simp)).trans (by simp [go_sem])
  have HB1 : Hid (Below w.heap.size w w1) := ((Below.refl _ _).alloc (Nat.le_refl _) _).trans (hb1.mono (by simp))
  clear hb1
  go_wp2
  exact bodyPost_ret (v := .tuple #[Rv 0 ⟨#[]⟩ 0, .int .i64 1]) (by simp [results, Try.results7, go_sem, q0, q1, q2]) rfl ⟨rfl, ((HB1.out.setCell (p := ⟨w.heap.size, 0, none⟩) (Nat.le_refl _) _).setCell (p := ⟨w.heap.size, 1, none⟩) (Nat.le_refl _) _).setCell (p := ⟨w.heap.size, 2, none⟩) (Nat.le_refl _) _⟩
end Go.Proofs.Ytligalcphlfmcad
