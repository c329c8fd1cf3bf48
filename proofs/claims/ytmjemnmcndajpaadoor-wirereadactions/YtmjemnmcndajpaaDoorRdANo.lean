/- What ReadAction answers where the text is of no action. -/
import Derived.Test.YtmjemnmcndajpaaDoorRdNo
import Derived.Test.YtmjemnmcndajpaaDoorSameA
namespace Go.Proofs.YtmjemnmcndajpaaDoor
open Go.RowKit Go.Shelf

/-- No packed action (whatever its texts) stands at the beginning. -/
def NoAct (s : ByteArray) : Prop := ¬ ∃ (cl ol : List (List UInt8)) (i : ByteArray) (f : Nat) (r : List UInt8), cl.length ≤ 2000 ∧ ol.length ≤ 2000 ∧ f ≤ 9007199254740991 ∧ s.data.toList = pkAL cl i ol f ++ r

theorem pkAll_mem2 (l : List (List UInt8)) : ∀ t ∈ l, t.length ≤ (pkAll l).length := by
  induction l with
  | nil => intro t ht; cases ht
  | cons x l ih =>
    intro t ht
    simp only [pkAll, List.length_append]
    rcases List.mem_cons.1 ht with rfl | ht
    · omega
    · have := ih t ht
      omega

set_option maxHeartbeats 4000000 in
set_option maxRecDepth 100000 in
theorem rd_action_no (b : Nat) (s : ByteArray) (w : World) (hs : s.size ≤ 140737488355328) (hno : NoAct s) (hc : w.cell? ⟨b, 0, none⟩ = some (.string s)) (hf : w.frozen? ⟨b, 0, none⟩ = false) :
    Calls Tryd.prog 35 #[.pointer (some ⟨b, 0, none⟩)] w fun e w' => e = PE ∧ w.grownBy w' (some b) := by
  have hsm : s.size ≤ maxLen := by unfold maxLen; omega
  have hbl : b < w.heap.size := World.block_lt_of_cell? w ⟨b, 0, none⟩ hc
  have C0 : Hid ((w.alloc (.cells #[.slice none 0 0, .string ⟨#[]⟩, .slice none 0 0, .int .i64 0] 26)).cell? ⟨b, 0, none⟩ = some (.string s)) := by show _ = _; rw [World.cell?_alloc_past _ _ _ hbl]; exact hc
  have F0 : Hid ((w.alloc (.cells #[.slice none 0 0, .string ⟨#[]⟩, .slice none 0 0, .int .i64 0] 26)).frozen? ⟨b, 0, none⟩ = false) := by
    show _ = _
    rw [World.frozen?_of_block (w := w) (Below.heap_alloc w _ b hbl)]; exact hf
  have G0 : Hid (w.grownBy (w.alloc (.cells #[.slice none 0 0, .string ⟨#[]⟩, .slice none 0 0, .int .i64 0] 26)) (some b)) := World.grownBy_alloc w _ _
  clear hc hf
  by_cases hn : NoList s
  · have HN : Hid (NoList s) := hn
    clear hn hno
    go_enter Tryd.func35, Tryd.ntmps35
    go_wp2_with fail
    refine (rd_texts_no b s _ hs HN.out C0.out F0.out).mono ?_
    rintro e w1 ⟨rfl, hg1⟩
    have G1 : Hid (w.grownBy w1 (some b)) := grownBy_trans G0.out hg1
    clear hg1
    go_wp2
    exact ⟨rfl, rfl, G1.out⟩
  obtain ⟨cl, r1, hc2, hr1⟩ := Classical.not_not.1 hn
  have R1 : Hid (s.data.toList = pk cl.length ++ (pkAll cl ++ r1)) := hr1
  have l1 : (pkAll cl).length + r1.length ≤ 140737488355328 := by
    have h2 := size_of hr1
    simp only [List.length_append] at h2
    omega
  have TC : Hid (∀ t ∈ cl, t.length ≤ 281474976710656) := fun t ht => by have := pkAll_mem2 cl t ht; omega
  have HNO : Hid (NoAct s) := hno
  clear hn hr1 hno
  by_cases hn2 : NoText ⟨r1.toArray⟩
  · have HN : Hid (∀ s1 : ByteArray, s1.data.toList = r1 → NoText s1) := fun s1 h => by rw [bytes_eq h]; exact hn2
    clear hn2
    go_enter Tryd.func35, Tryd.ntmps35
    go_wp2_with fail
    refine (rd_texts b s _ cl r1 hsm hc2 TC.out R1.out C0.out F0.out).mono ?_
    rintro e w1 ⟨v1, rfl, hown1, ⟨s1, hs1, hz1, hc1'⟩, hf1, hg1⟩
    obtain ⟨a1, k1, rfl⟩ := own_shape hown1
    have G1 : Hid (w.grownBy w1 (some b)) := grownBy_trans G0.out hg1
    have E1 : Hid (s1.data.toList = r1) := hs1
    clear hg1 hs1 hown1
    go_wp2_with fail
    refine (rd_text_no b s1 w1 hz1 (HN.out s1 E1.out) hc1' hf1).mono ?_
    rintro e w2 ⟨rfl, hg2⟩
    have G2 : Hid (w.grownBy w2 (some b)) := grownBy_trans G1.out hg2
    clear hg2
    go_wp2
    exact ⟨rfl, rfl, G2.out⟩
  obtain ⟨i, r2, _, hr2⟩ := Classical.not_not.1 hn2
  have R2 : Hid (r1 = pk i.length ++ (i ++ r2)) := hr2
  have l2 : i.length + r2.length ≤ 140737488355328 := by
    have h2 : r1.length = _ := congrArg List.length (show r1 = pk i.length ++ (i ++ r2) from hr2)
    simp only [List.length_append] at h2
    omega
  have hi1 : i.length ≤ 281474976710656 := by omega
  clear hn2 hr2
  by_cases hn3 : NoList ⟨r2.toArray⟩
  · have HN : Hid (∀ s2 : ByteArray, s2.data.toList = r2 → NoList s2 ∧ s2.size ≤ 140737488355328) := fun s2 h => by
      refine ⟨by rw [bytes_eq h]; exact hn3, ?_⟩
      rw [size_of h]
      omega
    clear hn3
    go_enter Tryd.func35, Tryd.ntmps35
    go_wp2_with fail
    refine (rd_texts b s _ cl r1 hsm hc2 TC.out R1.out C0.out F0.out).mono ?_
    rintro e w1 ⟨v1, rfl, hown1, ⟨s1, hs1, hz1, hc1'⟩, hf1, hg1⟩
    obtain ⟨a1, k1, rfl⟩ := own_shape hown1
    have G1 : Hid (w.grownBy w1 (some b)) := grownBy_trans G0.out hg1
    have E1 : Hid (s1.data.toList = r1) := hs1
    clear hg1 hs1 hown1
    go_wp2_with fail
    refine (rd_text b s1 w1 i r2 hz1 hi1 (E1.out.trans R2.out) hc1' hf1).mono ?_
    rintro e w2 ⟨rfl, ⟨s2, hs2, hz2, hc2'⟩, hf2, hg2⟩
    have G2 : Hid (w.grownBy w2 (some b)) := grownBy_trans G1.out hg2
    have E2 : Hid (s2.data.toList = r2) := hs2
    clear hg2 hs2
    go_wp2_with fail
    refine (rd_texts_no b s2 w2 (HN.out s2 E2.out).2 (HN.out s2 E2.out).1 hc2' hf2).mono ?_
    rintro e w3 ⟨rfl, hg3⟩
    have G3 : Hid (w.grownBy w3 (some b)) := grownBy_trans G2.out hg3
    clear hg3
    go_wp2
    exact ⟨rfl, rfl, G3.out⟩
  obtain ⟨ol, r3, ho2, hr3⟩ := Classical.not_not.1 hn3
  have R3 : Hid (r2 = pk ol.length ++ (pkAll ol ++ r3)) := hr3
  have TO : Hid (∀ t ∈ ol, t.length ≤ 281474976710656) := fun t ht => by
    have := pkAll_mem2 ol t ht
    have h2 : r2.length = _ := congrArg List.length (show r2 = pk ol.length ++ (pkAll ol ++ r3) from hr3)
    simp only [List.length_append] at h2
    omega
  clear hn3 hr3
  by_cases hn4 : NoNum ⟨r3.toArray⟩
  · have HN : Hid (∀ s3 : ByteArray, s3.data.toList = r3 → NoNum s3) := fun s3 h => by rw [bytes_eq h]; exact hn4
    clear hn4
    go_enter Tryd.func35, Tryd.ntmps35
    go_wp2_with fail
    refine (rd_texts b s _ cl r1 hsm hc2 TC.out R1.out C0.out F0.out).mono ?_
    rintro e w1 ⟨v1, rfl, hown1, ⟨s1, hs1, hz1, hc1'⟩, hf1, hg1⟩
    obtain ⟨a1, k1, rfl⟩ := own_shape hown1
    have G1 : Hid (w.grownBy w1 (some b)) := grownBy_trans G0.out hg1
    have E1 : Hid (s1.data.toList = r1) := hs1
    clear hg1 hs1 hown1
    go_wp2_with fail
    refine (rd_text b s1 w1 i r2 hz1 hi1 (E1.out.trans R2.out) hc1' hf1).mono ?_
    rintro e w2 ⟨rfl, ⟨s2, hs2, hz2, hc2'⟩, hf2, hg2⟩
    have G2 : Hid (w.grownBy w2 (some b)) := grownBy_trans G1.out hg2
    have E2 : Hid (s2.data.toList = r2) := hs2
    clear hg2 hs2
    go_wp2_with fail
    refine (rd_texts b s2 w2 ol r3 hz2 ho2 TO.out (E2.out.trans R3.out) hc2' hf2).mono ?_
    rintro e w3 ⟨v3, rfl, hown3, ⟨s3, hs3, hz3, hc3'⟩, hf3, hg3⟩
    obtain ⟨a3, k3, rfl⟩ := own_shape hown3
    have G3 : Hid (w.grownBy w3 (some b)) := grownBy_trans G2.out hg3
    have E3 : Hid (s3.data.toList = r3) := hs3
    clear hg3 hs3 hown3
    go_wp2_with fail
    refine (rd_number_no b s3 w3 hz3 (HN.out s3 E3.out) hc3').mono ?_
    rintro e w4 ⟨rfl, rfl⟩
    go_wp2
    exact ⟨rfl, rfl, G3.out⟩
  obtain ⟨f, r4, hf4, hr4⟩ := Classical.not_not.1 hn4
  exfalso
  refine HNO.out ⟨cl, ol, ⟨i.toArray⟩, f, r4, hc2, ho2, hf4, ?_⟩
  have hr4' : r3 = pk f ++ r4 := hr4
  rw [R1.out, R2.out, R3.out, hr4']
  unfold pkAL pkLL pkT
  rw [show (⟨i.toArray⟩ : ByteArray).size = i.length from size_of rfl]
  simp only [List.append_assoc]

/-- What the closure leaves behind a panic. -/
def ClearedA (B pb qb : Nat) (w w' : World) : Prop := w'.cell? ⟨pb, 0, none⟩ = some (.slice none 0 0) ∧ w'.cell? ⟨pb, 1, none⟩ = some (.string ⟨#[]⟩) ∧ w'.cell? ⟨pb, 2, none⟩ = some (.slice none 0 0) ∧ w'.cell? ⟨pb, 3, none⟩ = some (.int .i64 0) ∧ w'.cell? ⟨qb, 0, none⟩ = some (.int .i64 1) ∧ Below B w w'

set_option maxHeartbeats 2000000 in
set_option maxRecDepth 100000 in
theorem catch_pan_a (B pb qb : Nat) (x0 x1 x2 x3 y : Value) (u : TypeId) (pv : Value) (older : List PanicEntry) (w : World) (h0 : w.cell? ⟨pb, 0, none⟩ = some x0) (h1 : w.cell? ⟨pb, 1, none⟩ = some x1) (h2 : w.cell? ⟨pb, 2, none⟩ = some x2) (h3 : w.cell? ⟨pb, 3, none⟩ = some x3)
    (f0 : w.frozen? ⟨pb, 0, none⟩ = false) (f1 : w.frozen? ⟨pb, 1, none⟩ = false) (f2 : w.frozen? ⟨pb, 2, none⟩ = false) (f3 : w.frozen? ⟨pb, 3, none⟩ = false) (hq : w.cell? ⟨qb, 0, none⟩ = some y) (hqf : w.frozen? ⟨qb, 0, none⟩ = false) (_hpq : ¬ pb = qb) (hB : B ≤ pb) (hB2 : B ≤ qb) :
    CallsD Tryd.prog 55 #[.pointer (some ⟨pb, 0, none⟩), .pointer (some ⟨qb, 0, none⟩)] (.panicking ({ v := .iface u pv, recovered := false } :: older)) w fun e u' w' =>
      e = .returned (.tuple #[]) ∧ u' = .panicking ({ v := .iface u pv, recovered := true } :: older) ∧ ClearedA B pb qb w w' := by
  have hpl : pb < w.heap.size := World.block_lt_of_cell? w ⟨pb, 0, none⟩ h0
  have hql : qb < w.heap.size := World.block_lt_of_cell? w ⟨qb, 0, none⟩ hq
  have hn1 : ¬ pb = w.heap.size := by omega
  have hn2 : ¬ qb = w.heap.size := by omega
  refine callsD_of_wpS Tryd.func55 rfl fun c₀ cs hu => ?_
  apply wpS_seq
  apply wpS_region
  simp [wpOpsS, go_sem, recoverD, hu, Tryd.ntmps55, Exit.thenS]
  refine wpS_cond (t := true) (by simp [Act.eval, Array.replicate]) ?_
  simp only [if_true]
  apply wpS_seq
  apply wpS_region
  simp [wpOpsS, go_sem, Exit.thenS]
  apply wpS_region
  simp [wpOpsS, go_sem, h0, h1, h2, h3, f0, f1, f2, f3, hqf, hq, World.cell?_alloc_past, hpl, hql, bodyPostS, results, Tryd.results55]
  refine ⟨?_, ?_, ?_, ?_, ?_, ?_⟩
  · rw [World.cell?_alloc_past _ _ _ (by simpa using hpl)]; simp [go_sem, h0]
  · rw [World.cell?_alloc_past _ _ _ (by simpa using hpl)]; simp [go_sem, h1]
  · rw [World.cell?_alloc_past _ _ _ (by simpa using hpl)]; simp [go_sem, h2]
  · rw [World.cell?_alloc_past _ _ _ (by simpa using hpl)]; simp [go_sem, h3]
  · rw [World.cell?_alloc_past _ _ _ (by simpa using hql)]; simp [go_sem, hq]
  · exact ((((((Below.refl B w).setCell (p := ⟨pb, 0, none⟩) hB _).setCell (p := ⟨pb, 1, none⟩) hB _).setCell (p := ⟨pb, 2, none⟩) hB _).setCell (p := ⟨pb, 3, none⟩) hB _).setCell (p := ⟨qb, 0, none⟩) hB2 _).alloc (by simp; omega) _

/-- The door behind a panic: the closure recovers, and no action and ErrForm are answered. -/
theorem door_pan_a (w w1 : World) (tmps : Array Value) (hb : Below w.heap.size w w1) (ht6 : tmps[6]?.getD undef = .pointer (some ⟨w.heap.size, 0, none⟩)) (ht7 : tmps[7]?.getD undef = .pointer (some ⟨w.heap.size + 1, 0, none⟩)) (x0 x1 x2 x3 y : Value)
    (h0 : w1.cell? ⟨w.heap.size, 0, none⟩ = some x0) (h1 : w1.cell? ⟨w.heap.size, 1, none⟩ = some x1) (h2 : w1.cell? ⟨w.heap.size, 2, none⟩ = some x2) (h3 : w1.cell? ⟨w.heap.size, 3, none⟩ = some x3)
    (f0 : w1.frozen? ⟨w.heap.size, 0, none⟩ = false) (f1 : w1.frozen? ⟨w.heap.size, 1, none⟩ = false) (f2 : w1.frozen? ⟨w.heap.size, 2, none⟩ = false) (f3 : w1.frozen? ⟨w.heap.size, 3, none⟩ = false) (hq : w1.cell? ⟨w.heap.size + 1, 0, none⟩ = some y) (hqf : w1.frozen? ⟨w.heap.size + 1, 0, none⟩ = false) :
    bodyPostD Tryd.prog Tryd.f34 (fun e w' => e = .returned (.tuple #[Av (.slice none 0 0) ⟨#[]⟩ (.slice none 0 0) 0, .int .i64 1]) ∧ Below w.heap.size w w') (Exit.panic [{ v := .iface 27 (.int .i64 1), recovered := false }])
      { tmps := tmps, defers := [{ target := Target.fn (Fn.func 55) #[.pointer (some ⟨w.heap.size, 0, none⟩), .pointer (some ⟨w.heap.size + 1, 0, none⟩)], args := #[] }] } w1 := by
  refine leaves_cons (f := 55) (args := #[.pointer (some ⟨w.heap.size, 0, none⟩), .pointer (some ⟨w.heap.size + 1, 0, none⟩)]) (by simp) (by simp [go_sem]) ?_
  refine (catch_pan_a w.heap.size w.heap.size (w.heap.size + 1) x0 x1 x2 x3 y 27 (.int .i64 1) [] _ h0 h1 h2 h3 f0 f1 f2 f3 hq hqf (by omega) (Nat.le_refl _) (Nat.le_succ _)).mono ?_
  rintro e u' w2 ⟨rfl, rfl, q0, q1, q2, q3, q4, hb2⟩
  simp [Leaves, settle, results, Tryd.results34, go_sem, q0, q1, q2, q3, q4, ht6, ht7]
  exact hb.trans hb2

def NoAction (s : ByteArray) : Prop := ¬ ∃ (cs os : List ByteArray) (i : ByteArray) (f : Nat), aeC cs i os f = 0 ∧ s.data.toList = pkA cs i os f
theorem pkA_mkB (cl ol : List (List UInt8)) (i : ByteArray) (f : Nat) : pkA (mkB cl) i (mkB ol) f = pkAL cl i ol f := by
  have h : ∀ l : List (List UInt8), pkL (mkB l) = pkLL l := fun l => by
    unfold pkL pkLL
    rw [← pkAll_map, show (mkB l).map (fun s => s.data.toList) = l from by simp [mkB, Function.comp_def], show (mkB l).length = l.length from by simp [mkB]]
  unfold pkA pkAL
  rw [h, h]

set_option maxHeartbeats 4000000 in
set_option maxRecDepth 100000 in
theorem whole_action_no (s : ByteArray) (w : World) (hs : s.size ≤ 140737488355328) (hm : MaxIs w) (hno : NoAction s) :
    Calls Tryd.prog 34 #[.string s, .func (.func 35) #[] #[], .func (.func 24) #[] #[]] w fun e w' => e = .returned (.tuple #[Av (.slice none 0 0) ⟨#[]⟩ (.slice none 0 0) 0, .int .i64 1]) ∧ Below w.heap.size w w' := by
  have hmf : ∀ (fn : Fn) (first cap : Array Value) (w : World), (Instr.makeFunc fn first cap).run Tryd.prog w = .ok (.func fn first cap) w := fun _ _ _ _ => rfl
  have hsm : s.size ≤ maxLen := by unfold maxLen; omega
  have HM : Hid (MaxIs w) := hm
  clear hm
  by_cases hl : NoAct s
  · have HL : Hid (NoAct s) := hl
    clear hl hno
    go_enter_defers Tryd.func34, Tryd.ntmps34
    go_wp2_with fail
    refine (rd_action_no (w.heap.size + 1 + 1) s _ hs HL.out (by simp [go_sem]) (by simp [go_sem])).mono ?_
    rintro e w1 ⟨rfl, hg1⟩
    have xv := hg1.block w.heap.size (by simp; omega) (by simp; omega)
    rw [Below.heap_alloc _ _ _ (by simp; omega), Below.heap_alloc _ _ _ (by simp), heap_alloc_new] at xv
    have q0 : w1.cell? ⟨w.heap.size, 0, none⟩ = some (.slice none 0 0) := by rw [Lib.cell_of_heap xv]; rfl
    have q1 : w1.cell? ⟨w.heap.size, 1, none⟩ = some (.string ⟨#[]⟩) := by rw [Lib.cell_of_heap xv]; rfl
    have q2 : w1.cell? ⟨w.heap.size, 2, none⟩ = some (.slice none 0 0) := by rw [Lib.cell_of_heap xv]; rfl
    have q4 : w1.cell? ⟨w.heap.size, 3, none⟩ = some (.int .i64 0) := by rw [Lib.cell_of_heap xv]; rfl
    have r0 : w1.frozen? ⟨w.heap.size, 0, none⟩ = false := Lib.frozen_of_heap xv 0
    have r1 : w1.frozen? ⟨w.heap.size, 1, none⟩ = false := Lib.frozen_of_heap xv 1
    have r2 : w1.frozen? ⟨w.heap.size, 2, none⟩ = false := Lib.frozen_of_heap xv 2
    have r4 : w1.frozen? ⟨w.heap.size, 3, none⟩ = false := Lib.frozen_of_heap xv 3
    have q3 : w1.cell? ⟨w.heap.size + 1, 0, none⟩ = some (.int .i64 0) := hg1.cell (by simp [go_sem]) (by simp)
    have r3 : w1.frozen? ⟨w.heap.size + 1, 0, none⟩ = false := by
      rw [World.frozen?_of_block (hg1.block (w.heap.size + 1) (by simp) (by simp))]; simp [go_sem]
    have HB : Hid (Below w.heap.size w w1) := ((((Below.refl _ _).alloc (Nat.le_refl _) _).alloc (by simp) _).alloc (by simp; omega) _).grown hg1 (by simp; omega) (by intro k hk; cases hk; omega)
    clear hg1 xv
    go_wp2
    exact door_pan_a w w1 _ HB.out rfl rfl _ _ _ _ _ q0 q1 q2 q4 r0 r1 r2 r4 q3 r3
  obtain ⟨cl, ol, i, f, r, hcl, hol, hf9, hr⟩ := Classical.not_not.1 hl
  have HR : Hid (s.data.toList = pkAL cl i ol f ++ r) := hr
  have HC : Hid (r = [] → aeC (mkB cl) i (mkB ol) f ≠ 0) := fun h0 hok => hno ⟨mkB cl, mkB ol, i, f, hok, by rw [hr, h0, pkA_mkB]; simp⟩
  have htl : i.size ≤ 281474976710656 ∧ (∀ t ∈ cl, t.length ≤ 281474976710656) ∧ (∀ t ∈ ol, t.length ≤ 281474976710656) := by
    have h2 := size_of hr
    have h3 := size_of (s := i) rfl
    simp only [pkAL, pkLL, pkT, List.length_append] at h2
    refine ⟨by omega, fun t ht => ?_, fun t ht => ?_⟩
    · have := pkAll_mem2 cl t ht; omega
    · have := pkAll_mem2 ol t ht; omega
  have HT : Hid _ := htl
  clear hl hno hr htl
  go_enter_defers Tryd.func34, Tryd.ntmps34
  go_wp2_with fail
  refine (rd_action (w.heap.size + 1 + 1) f s i cl ol _ r hsm hcl hol HT.out.2.1 HT.out.2.2 HT.out.1 hf9 HR.out (by simp [go_sem]) (by simp [go_sem])).mono ?_
  rintro e w1 ⟨ac, cc, ao, co, rfl, ow1, ov1, ⟨s1, hs1, _, hc1⟩, hf1, hg1⟩
  have xv := hg1.block w.heap.size (by simp; omega) (by simp; omega)
  rw [Below.heap_alloc _ _ _ (by simp; omega), Below.heap_alloc _ _ _ (by simp), heap_alloc_new] at xv
  have q0 : w1.cell? ⟨w.heap.size, 0, none⟩ = some (.slice none 0 0) := by rw [Lib.cell_of_heap xv]; rfl
  have q1 : w1.cell? ⟨w.heap.size, 1, none⟩ = some (.string ⟨#[]⟩) := by rw [Lib.cell_of_heap xv]; rfl
  have q2 : w1.cell? ⟨w.heap.size, 2, none⟩ = some (.slice none 0 0) := by rw [Lib.cell_of_heap xv]; rfl
  have q4 : w1.cell? ⟨w.heap.size, 3, none⟩ = some (.int .i64 0) := by rw [Lib.cell_of_heap xv]; rfl
  have r0 : w1.frozen? ⟨w.heap.size, 0, none⟩ = false := Lib.frozen_of_heap xv 0
  have r1 : w1.frozen? ⟨w.heap.size, 1, none⟩ = false := Lib.frozen_of_heap xv 1
  have r2 : w1.frozen? ⟨w.heap.size, 2, none⟩ = false := Lib.frozen_of_heap xv 2
  have r4 : w1.frozen? ⟨w.heap.size, 3, none⟩ = false := Lib.frozen_of_heap xv 3
  have q3 : w1.cell? ⟨w.heap.size + 1, 0, none⟩ = some (.int .i64 0) := hg1.cell (by simp [go_sem]) (by simp)
  have r3 : w1.frozen? ⟨w.heap.size + 1, 0, none⟩ = false := by
    rw [World.frozen?_of_block (hg1.block (w.heap.size + 1) (by simp) (by simp))]; simp [go_sem]
  have hsz1 : w.heap.size + 1 + 1 < w1.heap.size := by have := hg1.size; simp at this; omega
  have HB : Hid (Below w.heap.size w w1) := ((((Below.refl _ _).alloc (Nat.le_refl _) _).alloc (by simp) _).alloc (by simp; omega) _).grown hg1 (by simp; omega) (by intro k hk; cases hk; omega)
  have ow1' : w1.ownsRow (w.heap.size + 1 + 1 + 1) 9 1 (.slice ac cl.length cc) cl.length (strs cl) := by simpa using ow1
  have ov1' : w1.ownsRow (w.heap.size + 1 + 1 + 1) 9 1 (.slice ao ol.length co) ol.length (strs ol) := by simpa using ov1
  have OW : Hid (∀ a0 a1 a2 a3 : Value, ((((w1.setCell ⟨w.heap.size, 0, none⟩ a0).setCell ⟨w.heap.size, 1, none⟩ a1).setCell ⟨w.heap.size, 2, none⟩ a2).setCell ⟨w.heap.size, 3, none⟩ a3).ownsRow (w.heap.size + 1 + 1 + 1) 9 1 (.slice ac cl.length cc) cl.length (strs cl)) := fun a0 a1 a2 a3 =>
    ownsRow_setCell_below (ownsRow_setCell_below (ownsRow_setCell_below (ownsRow_setCell_below ow1' (a := ⟨w.heap.size, 0, none⟩) (by show w.heap.size < _; omega) _) (a := ⟨w.heap.size, 1, none⟩) (by show w.heap.size < _; omega) _) (a := ⟨w.heap.size, 2, none⟩) (by show w.heap.size < _; omega) _) (a := ⟨w.heap.size, 3, none⟩) (by show w.heap.size < _; omega) _
  have OV : Hid (∀ a0 a1 a2 a3 : Value, ((((w1.setCell ⟨w.heap.size, 0, none⟩ a0).setCell ⟨w.heap.size, 1, none⟩ a1).setCell ⟨w.heap.size, 2, none⟩ a2).setCell ⟨w.heap.size, 3, none⟩ a3).ownsRow (w.heap.size + 1 + 1 + 1) 9 1 (.slice ao ol.length co) ol.length (strs ol)) := fun a0 a1 a2 a3 =>
    ownsRow_setCell_below (ownsRow_setCell_below (ownsRow_setCell_below (ownsRow_setCell_below ov1' (a := ⟨w.heap.size, 0, none⟩) (by show w.heap.size < _; omega) _) (a := ⟨w.heap.size, 1, none⟩) (by show w.heap.size < _; omega) _) (a := ⟨w.heap.size, 2, none⟩) (by show w.heap.size < _; omega) _) (a := ⟨w.heap.size, 3, none⟩) (by show w.heap.size < _; omega) _
  have HB1 : Hid (∀ a0 a1 a2 a3 : Value, Below w.heap.size w ((((w1.setCell ⟨w.heap.size, 0, none⟩ a0).setCell ⟨w.heap.size, 1, none⟩ a1).setCell ⟨w.heap.size, 2, none⟩ a2).setCell ⟨w.heap.size, 3, none⟩ a3)) := fun a0 a1 a2 a3 =>
    (((HB.out.setCell (p := ⟨w.heap.size, 0, none⟩) (Nat.le_refl _) _).setCell (p := ⟨w.heap.size, 1, none⟩) (Nat.le_refl _) _).setCell (p := ⟨w.heap.size, 2, none⟩) (Nat.le_refl _) _).setCell (p := ⟨w.heap.size, 3, none⟩) (Nat.le_refl _) _
  clear xv hg1 hf1 ow1 ov1 ow1' ov1'
  by_cases h0 : r = []
  · have hne := (bne_iff_ne (a := aeC (mkB cl) i (mkB ol) f) (b := 0)).2 (HC.out h0)
    obtain rfl : s1 = ⟨#[]⟩ := bytes_eq (hs1.trans h0)
    clear hs1 HC h0 HR
    have hlc : (mkB cl).length = cl.length := by simp [mkB]
    have hlo : (mkB ol).length = ol.length := by simp [mkB]
    have IC : Hid _ := fun a0 a1 a2 a3 => own_texts (OW.out a0 a1 a2 a3) (by omega)
    have IO9 : Hid _ := fun a0 a1 a2 a3 => own_texts (OV.out a0 a1 a2 a3) (by omega)
    clear hlc hlo
    go_wp2_with fail
    refine (ae_any _ _ (mkB cl) (mkB ol) i f _ (IC.out _ _ _ _) (IO9.out _ _ _ _) (HM.out.up (HB1.out _ _ _ _))).mono ?_
    rintro e w2 ⟨rfl, hb2⟩
    have s0 : w2.cell? ⟨w.heap.size, 0, none⟩ = some (.slice ac cl.length cc) := (hb2.cell (p := ⟨w.heap.size, 0, none⟩) (by simp; omega)).trans (by simp [go_sem, q0])
    have s1 : w2.cell? ⟨w.heap.size, 1, none⟩ = some (.string i) := (hb2.cell (p := ⟨w.heap.size, 1, none⟩) (by simp; omega)).trans (by simp [go_sem, q1])
    have s2 : w2.cell? ⟨w.heap.size, 2, none⟩ = some (.slice ao ol.length co) := (hb2.cell (p := ⟨w.heap.size, 2, none⟩) (by simp; omega)).trans (by simp [go_sem, q2])
    have s4 : w2.cell? ⟨w.heap.size, 3, none⟩ = some (.int .i64 f) := (hb2.cell (p := ⟨w.heap.size, 3, none⟩) (by simp; omega)).trans (by simp [go_sem, q4])
    have s3 : w2.cell? ⟨w.heap.size + 1, 0, none⟩ = some (.int .i64 0) := (hb2.cell (p := ⟨w.heap.size + 1, 0, none⟩) (by simp; omega)).trans (by simp [go_sem, q3])
    have u0 : w2.frozen? ⟨w.heap.size, 0, none⟩ = false := (hb2.frozen (p := ⟨w.heap.size, 0, none⟩) (by simp; omega)).trans (by simp [r0])
    have u1 : w2.frozen? ⟨w.heap.size, 1, none⟩ = false := (hb2.frozen (p := ⟨w.heap.size, 1, none⟩) (by simp; omega)).trans (by simp [r1])
    have u2 : w2.frozen? ⟨w.heap.size, 2, none⟩ = false := (hb2.frozen (p := ⟨w.heap.size, 2, none⟩) (by simp; omega)).trans (by simp [r2])
    have u4 : w2.frozen? ⟨w.heap.size, 3, none⟩ = false := (hb2.frozen (p := ⟨w.heap.size, 3, none⟩) (by simp; omega)).trans (by simp [r4])
    have u3 : w2.frozen? ⟨w.heap.size + 1, 0, none⟩ = false := (hb2.frozen (p := ⟨w.heap.size + 1, 0, none⟩) (by simp; omega)).trans (by simp [r3])
    have HB2 : Hid (Below w.heap.size w w2) := (HB1.out _ _ _ _).trans (hb2.mono (by simp; omega))
    clear hb2 q0 q1 q2 q3 q4 r0 r1 r2 r3 r4
    generalize aeC (mkB cl) i (mkB ol) f = rc at hne ⊢
    go_wp2_with fail
    refine (giveUp_any _).mono ?_
    rintro e w3 ⟨rfl, rfl⟩
    go_wp2
    exact door_pan_a w w3 _ HB2.out rfl rfl _ _ _ _ _ s0 s1 s2 s4 u0 u1 u2 u4 s3 u3
  · have hne2 : s1.toList.isEmpty = false := by
      rw [Lib.toList_data, hs1]
      cases r
      · exact absurd rfl h0
      · rfl
    have hne : (s1.toList == []) = false := by
      rw [beq_eq_false_iff_ne, Lib.toList_data, hs1]
      exact h0
    clear hs1 h0 HC HR
    go_wp2_with fail
    refine (giveUp_any _).mono ?_
    rintro e w3 ⟨rfl, rfl⟩
    have k0 : ((((w1.setCell ⟨w.heap.size, 0, none⟩ (.slice ac cl.length cc)).setCell ⟨w.heap.size, 1, none⟩ (.string i)).setCell ⟨w.heap.size, 2, none⟩ (.slice ao ol.length co)).setCell ⟨w.heap.size, 3, none⟩ (.int .i64 f)).cell? ⟨w.heap.size, 0, none⟩ = some (.slice ac cl.length cc) := by simp [go_sem, q0]
    have k1 : ((((w1.setCell ⟨w.heap.size, 0, none⟩ (.slice ac cl.length cc)).setCell ⟨w.heap.size, 1, none⟩ (.string i)).setCell ⟨w.heap.size, 2, none⟩ (.slice ao ol.length co)).setCell ⟨w.heap.size, 3, none⟩ (.int .i64 f)).cell? ⟨w.heap.size, 1, none⟩ = some (.string i) := by simp [go_sem, q1]
    have k2 : ((((w1.setCell ⟨w.heap.size, 0, none⟩ (.slice ac cl.length cc)).setCell ⟨w.heap.size, 1, none⟩ (.string i)).setCell ⟨w.heap.size, 2, none⟩ (.slice ao ol.length co)).setCell ⟨w.heap.size, 3, none⟩ (.int .i64 f)).cell? ⟨w.heap.size, 2, none⟩ = some (.slice ao ol.length co) := by simp [go_sem, q2]
    have k4 : ((((w1.setCell ⟨w.heap.size, 0, none⟩ (.slice ac cl.length cc)).setCell ⟨w.heap.size, 1, none⟩ (.string i)).setCell ⟨w.heap.size, 2, none⟩ (.slice ao ol.length co)).setCell ⟨w.heap.size, 3, none⟩ (.int .i64 f)).cell? ⟨w.heap.size, 3, none⟩ = some (.int .i64 f) := by simp [go_sem, q4]
    have k3 : ((((w1.setCell ⟨w.heap.size, 0, none⟩ (.slice ac cl.length cc)).setCell ⟨w.heap.size, 1, none⟩ (.string i)).setCell ⟨w.heap.size, 2, none⟩ (.slice ao ol.length co)).setCell ⟨w.heap.size, 3, none⟩ (.int .i64 f)).cell? ⟨w.heap.size + 1, 0, none⟩ = some (.int .i64 0) := by simp [go_sem, q3]
    go_wp2
    exact door_pan_a w _ _ (HB1.out _ _ _ _) rfl rfl _ _ _ _ _ k0 k1 k2 k4 (by simp [r0]) (by simp [r1]) (by simp [r2]) (by simp [r4]) k3 (by simp [r3])

set_option maxHeartbeats 1000000 in
set_option maxRecDepth 100000 in
theorem ReadAction_no (s : ByteArray) (w : World) (hs : s.size ≤ 140737488355328) (hm : MaxIs w) (hno : NoAction s) :
    Calls Tryd.prog 14 #[.string s] w fun e w' => e = .returned (.tuple #[Av (.slice none 0 0) ⟨#[]⟩ (.slice none 0 0) 0, .int .i64 1]) ∧ Below w.heap.size w w' := by
  have HN : Hid (NoAction s) := hno
  have HM : Hid (MaxIs (w.alloc (.cells #[.slice none 0 0, .string ⟨#[]⟩, .slice none 0 0, .int .i64 0] 26))) := hm.up ((Below.refl _ _).alloc (Nat.le_refl _) _)
  clear hno hm
  go_enter Tryd.func14, Tryd.ntmps14
  go_wp2_with fail
  refine (whole_action_no s _ hs HM.out HN.out).mono ?_
  rintro e w1 ⟨rfl, hb1⟩
  have q0 : w1.cell? ⟨w.heap.size, 0, none⟩ = some (.slice none 0 0) := (hb1.cell (p := ⟨w.heap.size, 0, none⟩) (by simp)).trans (by simp [go_sem])
  have q1 : w1.cell? ⟨w.heap.size, 1, none⟩ = some (.string ⟨#[]⟩) := (hb1.cell (p := ⟨w.heap.size, 1, none⟩) (by simp)).trans (by simp [go_sem])
  have q2 : w1.cell? ⟨w.heap.size, 2, none⟩ = some (.slice none 0 0) := (hb1.cell (p := ⟨w.heap.size, 2, none⟩) (by simp)).trans (by simp [go_sem])
  have q3 : w1.cell? ⟨w.heap.size, 3, none⟩ = some (.int .i64 0) := (hb1.cell (p := ⟨w.heap.size, 3, none⟩) (by simp)).trans (by simp [go_sem])
  have r0 : w1.frozen? ⟨w.heap.size, 0, none⟩ = false := (hb1.frozen (p := ⟨w.heap.size, 0, none⟩) (by simp)).trans (by simp [go_sem])
  have r1 : w1.frozen? ⟨w.heap.size, 1, none⟩ = false := (hb1.frozen (p := ⟨w.heap.size, 1, none⟩) (by simp)).trans (by simp [go_sem])
  have r2 : w1.frozen? ⟨w.heap.size, 2, none⟩ = false := (hb1.frozen (p := ⟨w.heap.size, 2, none⟩) (by simp)).trans (by simp [go_sem])
  have r3 : w1.frozen? ⟨w.heap.size, 3, none⟩ = false := (hb1.frozen (p := ⟨w.heap.size, 3, none⟩) (by simp)).trans (by simp [go_sem])
  have HB1 : Hid (Below w.heap.size w w1) := ((Below.refl _ _).alloc (Nat.le_refl _) _).trans (hb1.mono (by simp))
  clear hb1
  go_wp2
  exact bodyPost_ret (v := .tuple #[Av (.slice none 0 0) ⟨#[]⟩ (.slice none 0 0) 0, .int .i64 1]) (by simp [results, Tryd.results14, go_sem, q0, q1, q2, q3]) rfl ⟨rfl, (((HB1.out.setCell (p := ⟨w.heap.size, 0, none⟩) (Nat.le_refl _) _).setCell (p := ⟨w.heap.size, 1, none⟩) (Nat.le_refl _) _).setCell (p := ⟨w.heap.size, 2, none⟩) (Nat.le_refl _) _).setCell (p := ⟨w.heap.size, 3, none⟩) (Nat.le_refl _) _⟩
end Go.Proofs.YtmjemnmcndajpaaDoor
