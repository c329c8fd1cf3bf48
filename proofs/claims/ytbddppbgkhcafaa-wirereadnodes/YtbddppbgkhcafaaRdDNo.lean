/- What ReadNodes answers where the text is of no such nodes. -/
import Derived.Test.YtbddppbgkhcafaaRdNo
import Derived.Test.YtbddppbgkhcafaaReadD
namespace Go.Proofs.Ytbddppbgkhcafaa
open Go.RowKit Go.Shelf

/-- No packed node (whatever its texts) stands at the beginning. -/
def NoNode (s : ByteArray) : Prop := ¬ ∃ (a d : ByteArray) (k : Nat) (r : List UInt8), k ≤ 9007199254740991 ∧ s.data.toList = pkD (a, (k : Int), d) ++ r

set_option maxHeartbeats 2000000 in
set_option maxRecDepth 100000 in
theorem rd_node_no (b : Nat) (s : ByteArray) (w : World) (hs : s.size ≤ 140737488355328) (hno : NoNode s) (hc : w.cell? ⟨b, 0, none⟩ = some (.string s)) (hf : w.frozen? ⟨b, 0, none⟩ = false) :
    Calls Try.prog 42 #[.pointer (some ⟨b, 0, none⟩)] w fun e w' => e = PE ∧ w.grownBy w' (some b) := by
  have hsm : s.size ≤ maxLen := by unfold maxLen; omega
  have hbl : b < w.heap.size := World.block_lt_of_cell? w ⟨b, 0, none⟩ hc
  have C0 : Hid ((w.alloc (.cells #[.string ⟨#[]⟩, .int .i64 0, .string ⟨#[]⟩] 41)).cell? ⟨b, 0, none⟩ = some (.string s)) := by show _ = _; rw [World.cell?_alloc_past _ _ _ hbl]; exact hc
  have F0 : Hid ((w.alloc (.cells #[.string ⟨#[]⟩, .int .i64 0, .string ⟨#[]⟩] 41)).frozen? ⟨b, 0, none⟩ = false) := by
    show _ = _
    rw [World.frozen?_of_block (w := w) (Below.heap_alloc w _ b hbl)]; exact hf
  have G0 : Hid (w.grownBy (w.alloc (.cells #[.string ⟨#[]⟩, .int .i64 0, .string ⟨#[]⟩] 41)) (some b)) := World.grownBy_alloc w _ _
  clear hc hf
  by_cases hn : NoText s
  · have HN : Hid (NoText s) := hn
    clear hn hno
    go_enter Try.func42, Try.ntmps42
    go_wp2_with fail
    refine (rd_text_no b s _ hsm HN.out C0.out F0.out).mono ?_
    rintro e w1 ⟨rfl, hg1⟩
    have G1 : Hid (w.grownBy w1 (some b)) := grownBy_trans G0.out hg1
    clear hg1
    go_wp2
    exact ⟨rfl, rfl, G1.out⟩
  obtain ⟨ta, r1, hc1, hr1⟩ := Classical.not_not.1 hn
  have R1 : Hid _ := hr1
  clear hn
  have hle1 : ta.length ≤ 281474976710656 := by
    have h2 := size_of hr1
    simp only [List.length_append] at h2
    omega
  have hs1 : ∀ s1 : ByteArray, s1.data.toList = r1 → s1.size ≤ 140737488355328 := fun s1 h => by
    have e1 := size_of hr1
    have e2 := size_of h
    simp only [List.length_append] at e1
    omega
  have S1 : Hid _ := hs1
  have HNO : Hid (NoNode s) := hno
  clear hr1 hs1 hno
  by_cases hnt : NoNum ⟨r1.toArray⟩
  · have HT : Hid (∀ s1 : ByteArray, s1.data.toList = r1 → NoNum s1) := fun s1 h => by rw [bytes_eq h]; exact hnt
    clear hnt
    go_enter Try.func42, Try.ntmps42
    go_wp2_with fail
    refine (rd_text b s _ ta r1 hsm hle1 R1.out C0.out F0.out).mono ?_
    rintro e w1 ⟨rfl, ⟨s1, hs1, hz1, hc1'⟩, hf1, hg1⟩
    have G1 : Hid (w.grownBy w1 (some b)) := grownBy_trans G0.out hg1
    have E1 : Hid _ := hs1
    clear hg1 hs1
    go_wp2_with fail
    refine (rd_number_no b s1 w1 hz1 (HT.out s1 E1.out) hc1').mono ?_
    rintro e w2 ⟨rfl, rfl⟩
    go_wp2
    exact ⟨rfl, rfl, G1.out⟩
  obtain ⟨k, r2, ht1, ht2⟩ := Classical.not_not.1 hnt
  have T2 : Hid (r1 = pk k ++ r2) := ht2
  have S2 : Hid (r2.length ≤ 140737488355328) := by
    have h1 := S1.out ⟨r1.toArray⟩ rfl
    have h2 := size_of ht2
    simp only [List.length_append] at h2
    show _ ≤ _
    omega
  clear hnt ht2
  by_cases hn2 : NoText ⟨r2.toArray⟩
  · have HN2 : Hid (∀ s2 : ByteArray, s2.data.toList = r2 → NoText s2) := fun s2 h => by rw [bytes_eq h]; exact hn2
    clear hn2
    go_enter Try.func42, Try.ntmps42
    go_wp2_with fail
    refine (rd_text b s _ ta r1 hsm hle1 R1.out C0.out F0.out).mono ?_
    rintro e w1 ⟨rfl, ⟨s1, hs1, hz1, hc1'⟩, hf1, hg1⟩
    have G1 : Hid (w.grownBy w1 (some b)) := grownBy_trans G0.out hg1
    have E1 : Hid (s1.data.toList = pk k ++ r2) := by show _ = _; rw [hs1, T2.out]
    clear hg1 hs1
    go_wp2_with fail
    refine (rd_number2 b s1 w1 k r2 hz1 ht1 E1.out hc1' hf1).mono ?_
    rintro e w2 ⟨rfl, ⟨s2, hs2, hz2, hc2⟩, hf2, hg2⟩
    have G2 : Hid (w.grownBy w2 (some b)) := grownBy_trans G1.out hg2
    have E2 : Hid _ := hs2
    clear hg2 hs2
    go_wp2_with fail
    refine (rd_text_no b s2 w2 hz2 (HN2.out s2 E2.out) hc2 hf2).mono ?_
    rintro e w3 ⟨rfl, hg3⟩
    have G3 : Hid (w.grownBy w3 (some b)) := grownBy_trans G2.out hg3
    clear hg3
    go_wp2
    exact ⟨rfl, rfl, G3.out⟩
  obtain ⟨td, r3, hd1, hd2⟩ := Classical.not_not.1 hn2
  exfalso
  refine HNO.out ⟨⟨ta.toArray⟩, ⟨td.toArray⟩, k, r3, ht1, ?_⟩
  have hd2' : r2 = pk td.length ++ (td ++ r3) := hd2
  rw [R1.out, T2.out, hd2']
  unfold pkD pkT
  rw [show (⟨ta.toArray⟩ : ByteArray).size = ta.length from size_of rfl, show (⟨td.toArray⟩ : ByteArray).size = td.length from size_of rfl]
  simp only [List.append_assoc, Int.toNat_natCast]

/-- No packed list of so many nodes at most stands at the beginning. -/
def NoDList (s : ByteArray) : Prop := ¬ ∃ (l : List Nd) (r : List UInt8), l.length ≤ 60 ∧ (∀ n ∈ l, 0 ≤ n.2.1 ∧ n.2.1 ≤ 9007199254740991) ∧ s.data.toList = pk l.length ++ (pkDD l ++ r)

theorem pkDD_snoc (l : List Nd) (n : Nd) : pkDD (l ++ [n]) = pkDD l ++ pkD n := by rw [pkDD_append]; simp [pkDD]
theorem pkD_mem (n : Nd) : n.1.size ≤ (pkD n).length ∧ n.2.2.size ≤ (pkD n).length := by
  have h1 := size_of (s := n.1) rfl
  have h2 := size_of (s := n.2.2) rfl
  simp only [pkD, pkT, List.length_append]
  omega
theorem pkDD_mem (l : List Nd) : ∀ n ∈ l, n.1.size ≤ (pkDD l).length ∧ n.2.2.size ≤ (pkDD l).length := by
  induction l with
  | nil => intro n hn; cases hn
  | cons x l ih =>
    intro n hn
    simp only [pkDD, List.length_append]
    rcases List.mem_cons.1 hn with rfl | hn
    · have := pkD_mem n
      omega
    · have := ih n hn
      omega

set_option maxHeartbeats 4000000 in
set_option maxRecDepth 100000 in
theorem rd_dlist_no (b : Nat) (s : ByteArray) (w : World) (hs : s.size ≤ 140737488355328) (hno : NoDList s) (hc : w.cell? ⟨b, 0, none⟩ = some (.string s)) (hf : w.frozen? ⟨b, 0, none⟩ = false) :
    Calls Try.prog 41 #[.pointer (some ⟨b, 0, none⟩), .int .i64 60, .func (.func 42) #[] #[]] w fun e w' => e = PE ∧ w.grownBy w' (some b) := by
  have hsm : s.size ≤ maxLen := by unfold maxLen; omega
  by_cases hn : NoNum s
  · go_enter Try.func41, Try.ntmps41
    go_wp2_with fail
    refine (rd_number_no b s w hsm hn hc).mono ?_
    rintro e w1 ⟨rfl, rfl⟩
    go_wp2
    exact ⟨rfl, rfl, grownBy_refl _ _⟩
  obtain ⟨n, r, hn1, hr⟩ := Classical.not_not.1 hn
  have HR : Hid (s.data.toList = pk n ++ r) := hr
  have HN : Hid (NoDList s) := hno
  clear hn hno hr
  by_cases hn2 : 60 < n
  · have hn3 : (60 : Int) < (n : Int) := by omega
    go_enter Try.func41, Try.ntmps41
    go_wp2_with fail
    refine (rd_number b s w n r hsm hn1 HR.out hc hf).mono ?_
    rintro e w1 ⟨rfl, s1, hs1, _, rfl⟩
    go_wp2_with fail
    refine (giveUp_any _).mono ?_
    rintro e w2 ⟨rfl, rfl⟩
    go_wp2
    exact ⟨rfl, rfl, grownBy_set w b 0 _⟩
  obtain ⟨i0, hi, hz0, hz1, hz2⟩ := info_parts infD
  have hbl : b < w.heap.size := World.block_lt_of_cell? w ⟨b, 0, none⟩ hc
  have hnl : n ≤ 60 := Nat.le_of_not_lt hn2
  have hle : (n : Int) ≤ 60 := by omega
  clear hn2
  go_enter Try.func41, Try.ntmps41
  go_wp2_with fail
  refine (rd_number b s w n r hsm hn1 HR.out hc hf).mono ?_
  rintro e w1 ⟨rfl, s1, h1, hs1, rfl⟩
  have H1 : Hid _ := h1
  have HC : Hid _ := hc
  clear h1 hc
  go_wp2_with (at_make; refine wpList_make_own _ rfl _ _ 22 rfl w.heap.size 41 i0 (.agg #[.string ⟨#[]⟩, .int .i64 0, .string ⟨#[]⟩]) 3 Try.underlying22 hi hz0 hz1 _ _ _ n rfl rfl ?m1 ?m2 ?m3 ?m4 ?_)
  case m1 => rfl
  case m2 => rw [hz2]; omega
  case m3 => unfold maxLen; omega
  case m4 => simp
  intro w2 hown hg2
  have hc2 : w2.cell? ⟨b, 0, none⟩ = some (.string s1) := hg2.cell (World.cell?_setCell_same' _ _ _ (by rw [HC.out]; rfl)) (by simp)
  have hf2 : w2.frozen? ⟨b, 0, none⟩ = false := by
    rw [World.frozen?_of_block (w := w.setCell ⟨b, 0, none⟩ (.string s1)) (hg2.block b (by simp; exact hbl) (by simp))]
    simpa using hf
  have hgr : w.grownBy w2 (some b) := grownBy_trans (grownBy_set w b 0 _) ⟨hg2.os, hg2.tape, hg2.output, hg2.size, fun k hk _ => hg2.block k hk (by simp)⟩
  clear hg2 hf
  go_wp2
  go_loopw [8, 18] (fun v i wr => ∃ (k : Nat) (l : List Nd), k ≤ n ∧ i = .int .i64 k ∧ l.length = k ∧ (∀ n ∈ l, 0 ≤ n.2.1 ∧ n.2.1 ≤ 9007199254740991) ∧ wr.ownsRow w.heap.size 41 3 v k (ndCells l) ∧ (∃ s' : ByteArray, s.data.toList = pk n ++ (pkDD l ++ s'.data.toList) ∧ s'.size ≤ 140737488355328 ∧ wr.cell? ⟨b, 0, none⟩ = some (.string s')) ∧ wr.frozen? ⟨b, 0, none⟩ = false ∧ w.grownBy wr (some b)) (fun _ i _ => n - (intOf i).toNat)
  case atStart =>
    refine ⟨0, [], Nat.zero_le _, rfl, rfl, (by intro n hn; cases hn), by simpa [ndCells] using hown, ⟨s1, by rw [HR.out, H1.out]; simp [pkDD], ?_, hc2⟩, hf2, hgr⟩
    have e1 := size_of HR.out
    have e2 := size_of H1.out
    rw [List.length_append] at e1
    omega
  case round =>
    obtain ⟨k, l, hk, rfl, hlk, hkd, hok, ⟨s2, h2, hs2, hck⟩, hfk, hgk⟩ := hrel
    clear hown hc2 hf2 hgr
    have H2 : Hid _ := h2
    have hsz := hgk.size
    have HLK : Hid _ := hlk
    have HKD : Hid _ := hkd
    have hs2m : s2.size ≤ maxLen := by unfold maxLen; omega
    clear h2 hlk hkd
    by_cases hlt : k < n
    · by_cases hnt : NoNode s2
      · have HT : Hid (NoNode s2) := hnt
        clear hnt
        go_wp2_with fail
        refine (rd_node_no b s2 _ hs2 HT.out hck hfk).mono ?_
        rintro e w3 ⟨rfl, hg3⟩
        have HG3 : Hid (w.grownBy w3 (some b)) := grownBy_trans hgk hg3
        clear hg3 hgk
        go_wp2
        exact ⟨rfl, rfl, HG3.out⟩
      · obtain ⟨ta, td, tn, r3, ht1, ht2⟩ := Classical.not_not.1 hnt
        have hle1 : ta.size ≤ 281474976710656 ∧ td.size ≤ 281474976710656 := by
          have := size_of ht2
          have := pkD_mem (ta, (tn : Int), td)
          simp only [List.length_append] at *
          omega
        have H4 : Hid (s2.data.toList = pkD (ta, (tn : Int), td) ++ r3) := ht2
        have HL1 : Hid _ := hle1
        clear hnt ht2 hle1
        go_wp2_with fail
        refine (rd_node b tn s2 ta td _ r3 hs2m ht1 HL1.out.1 HL1.out.2 H4.out hck hfk).mono ?_
        rintro e w3 ⟨rfl, ⟨s3, h3, hs3, hc3⟩, hf3, hg3⟩
        have hok3 := hok.kept hg3 (Or.inr (fun e => by have := hok.lt b e; omega))
        have HG3 : Hid _ := grownBy_trans hgk hg3
        have H3 : Hid _ := h3
        have hsz3 := hg3.size
        clear hok hg3 h3 hck hfk hgk
        go_wp2_with (at_builtin; refine wpList_append_own _ rfl _ _ 22 rfl w.heap.size 41 i0 (.agg #[.string ⟨#[]⟩, .int .i64 0, .string ⟨#[]⟩]) 3 40 Try.underlying22 hi hz0 hz1 hz2 rfl (by decide) _ _ _ rfl (hok3.alloc _) ⟨w3.heap.size, 0, none⟩ 1 1 [.string ta, .int .i64 tn, .string td] rfl rfl ?c1 ?c2 ?c3 ?c4 ?c5 ?_)
        case c1 =>
          intro j u hj
          match j, hj with
          | 0, hj => simp at hj; subst hj; simp [Addr.add]
          | 1, hj => simp at hj; subst hj; simp [Addr.add]
          | 2, hj => simp at hj; subst hj; simp [Addr.add]
        case c2 => intro u hu; simp at hu; rcases hu with rfl | rfl | rfl <;> rfl
        case c3 => unfold maxLen; omega
        case c4 => omega
        case c5 => simp; omega
        intro v' w4 hown4 hg4 _
        have hrow : ∀ j, u8.ownBlock = some j → w.heap.size ≤ j := fun j hj => (hok3.lt j hj).1
        have hnb : some b ≠ u8.ownBlock := fun e => by have := hrow b e.symm; omega
        have hlt3 : b < w3.heap.size := by omega
        have hc4 : w4.cell? ⟨b, 0, none⟩ = some (.string s3) := by
          rw [World.cell?_of_block (w := w3) ((hg4.block b (by simp; omega) hnb).trans (Below.heap_alloc w3 _ b hlt3))]
          exact hc3
        have hf4 : w4.frozen? ⟨b, 0, none⟩ = false := by
          rw [World.frozen?_of_block (w := w3) ((hg4.block b (by simp; omega) hnb).trans (Below.heap_alloc w3 _ b hlt3))]
          exact hf3
        have HG4 : Hid (w.grownBy w4 (some b)) := by
          have g1 := HG3.out
          have hs4 := hg4.size
          refine ⟨hg4.os.trans g1.os, hg4.tape.trans g1.tape, hg4.output.trans g1.output, by simp at hs4; omega, fun j hj hr => ?_⟩
          rw [hg4.block j (by simp; omega) (fun e => by have := hrow j e.symm; omega), Below.heap_alloc w3 _ j (by omega)]
          exact g1.block j hj hr
        have HO : Hid _ := hown4
        clear hown4 hg4 hok3 hrow hnb hc3 hf3
        go_wp2
        refine ⟨⟨k + 1, l ++ [(ta, (tn : Int), td)], by omega, by go_num, by rw [List.length_append, HLK.out]; rfl, ?_, ?_, ⟨s3, ?_, ?_, hc4⟩, hf4, HG4.out⟩, by simp [intOf]; omega⟩
        · intro n hn
          rcases List.mem_append.1 hn with h | h
          · exact HKD.out n h
          · obtain rfl := List.mem_singleton.1 h
            exact ⟨by show (0 : Int) ≤ (tn : Int); omega, by show (tn : Int) ≤ 9007199254740991; omega⟩
        · rw [show ndCells (l ++ [(ta, (tn : Int), td)]) = ndCells l ++ [.string ta, .int .i64 tn, .string td] from by simp [ndCells]]
          exact HO.out
        · rw [H2.out, H4.out, pkDD_snoc, H3.out]
          simp only [List.append_assoc]
        · have e1 := size_of H4.out
          have e2 := size_of H3.out
          simp only [List.length_append] at e1
          omega
    · exfalso
      obtain rfl : k = n := by omega
      exact HN.out ⟨l, s2.data.toList, by rw [HLK.out]; exact hnl, HKD.out, by rw [HLK.out]; exact H2.out⟩

set_option maxHeartbeats 1000000 in
theorem rd_nodes_no (b : Nat) (s : ByteArray) (w : World) (hs : s.size ≤ 140737488355328) (hno : NoDList s) (hc : w.cell? ⟨b, 0, none⟩ = some (.string s)) (hf : w.frozen? ⟨b, 0, none⟩ = false) :
    Calls Try.prog 24 #[.pointer (some ⟨b, 0, none⟩)] w fun e w' => e = PE ∧ w.grownBy w' (some b) := by
  have HN : Hid (NoDList s) := hno
  clear hno
  go_enter Try.func24, Try.ntmps24
  go_wp2_with fail
  refine (rd_dlist_no b s w hs HN.out hc hf).mono ?_
  rintro e w1 ⟨rfl, hg⟩
  go_wp2
  exact ⟨rfl, rfl, hg⟩

set_option maxHeartbeats 1000000 in
theorem catch_pan_d (p q : Addr) (x y : Value) (u : TypeId) (pv : Value) (older : List PanicEntry) (w : World) (hp : w.cell? p = some x) (hpf : w.frozen? p = false) (hq : w.cell? q = some y) (hqf : w.frozen? q = false) (hpq : ¬ p.block = q.block) :
    CallsD Try.prog 39 #[.pointer (some p), .pointer (some q)] (.panicking ({ v := .iface u pv, recovered := false } :: older)) w fun e u' w' =>
      e = .returned (.tuple #[]) ∧ u' = .panicking ({ v := .iface u pv, recovered := true } :: older) ∧ w' = (w.setCell p (.slice none 0 0)).setCell q (.int .i64 1) := by
  have hq2 : (w.setCell p (.slice none 0 0)).cell? q = some y := by
    rw [World.cell?_of_block (w := w) (Below.heap_setCell w p _ q.block (fun e => hpq e.symm))]
    exact hq
  refine callsD_of_wpS Try.func39 rfl fun c₀ cs hu => ?_
  apply wpS_seq
  apply wpS_region
  simp [wpOpsS, go_sem, recoverD, hu, Try.ntmps39, Exit.thenS]
  refine wpS_cond (t := true) (by simp [Act.eval, Array.replicate]) ?_
  simp only [if_true]
  apply wpS_seq
  apply wpS_region
  simp [wpOpsS, go_sem, Exit.thenS]
  apply wpS_region
  simp [wpOpsS, go_sem, hp, hpf, hqf, hq2, bodyPostS, results, Try.results39]

/-- The door behind a panic: the closure recovers, and nil and ErrForm are answered. -/
theorem door_pan_d (w w1 : World) (tmps : Array Value) (hb : Below w.heap.size w w1) (ht6 : tmps[6]?.getD undef = .pointer (some ⟨w.heap.size, 0, none⟩)) (ht7 : tmps[7]?.getD undef = .pointer (some ⟨w.heap.size + 1, 0, none⟩)) (x y : Value)
    (hp : w1.cell? ⟨w.heap.size, 0, none⟩ = some x) (hpf : w1.frozen? ⟨w.heap.size, 0, none⟩ = false) (hq : w1.cell? ⟨w.heap.size + 1, 0, none⟩ = some y) (hqf : w1.frozen? ⟨w.heap.size + 1, 0, none⟩ = false) :
    bodyPostD Try.prog Try.f23 (fun e w' => e = .returned (.tuple #[.slice none 0 0, .int .i64 1]) ∧ Below w.heap.size w w') (Exit.panic [{ v := .iface 23 (.int .i64 1), recovered := false }])
      { tmps := tmps, defers := [{ target := Target.fn (Fn.func 39) #[.pointer (some ⟨w.heap.size, 0, none⟩), .pointer (some ⟨w.heap.size + 1, 0, none⟩)], args := #[] }] } w1 := by
  refine leaves_cons (f := 39) (args := #[.pointer (some ⟨w.heap.size, 0, none⟩), .pointer (some ⟨w.heap.size + 1, 0, none⟩)]) (by simp) (by simp [go_sem]) ?_
  refine (catch_pan_d ⟨w.heap.size, 0, none⟩ ⟨w.heap.size + 1, 0, none⟩ x y 23 (.int .i64 1) [] _ hp hpf hq hqf (by simp)).mono ?_
  rintro e u' w'' ⟨rfl, rfl, rfl⟩
  have q0 : (w1.setCell ⟨w.heap.size, 0, none⟩ (.slice none 0 0)).cell? ⟨w.heap.size, 0, none⟩ = some (.slice none 0 0) := World.cell?_setCell_same' _ _ _ (by rw [hp]; rfl)
  have q1 : ((w1.setCell ⟨w.heap.size, 0, none⟩ (.slice none 0 0)).setCell ⟨w.heap.size + 1, 0, none⟩ (.int .i64 1)).cell? ⟨w.heap.size + 1, 0, none⟩ = some (.int .i64 1) := World.cell?_setCell_same' _ _ _ (by simp [go_sem, hq])
  simp [Leaves, settle, results, Try.results23, go_sem, q0, q1, ht6, ht7]
  exact (hb.setCell (p := ⟨w.heap.size, 0, none⟩) (Nat.le_refl _) _).setCell (p := ⟨w.heap.size + 1, 0, none⟩) (Nat.le_succ _) _

def NoNodes (s : ByteArray) : Prop := ¬ ∃ l : List Nd, neC l = 0 ∧ s.data.toList = pk l.length ++ pkDD l

set_option maxHeartbeats 4000000 in
set_option maxRecDepth 100000 in
theorem whole_nodes_no (s : ByteArray) (w : World) (hs : s.size ≤ 140737488355328) (hno : NoNodes s) :
    Calls Try.prog 23 #[.string s, .func (.func 24) #[] #[], .func (.func 11) #[] #[]] w fun e w' => e = .returned (.tuple #[.slice none 0 0, .int .i64 1]) ∧ Below w.heap.size w w' := by
  have hmf : ∀ (fn : Fn) (first cap : Array Value) (w : World), (Instr.makeFunc fn first cap).run Try.prog w = .ok (.func fn first cap) w := fun _ _ _ _ => rfl
  by_cases hl : NoDList s
  · have HL : Hid (NoDList s) := hl
    clear hl hno
    go_enter_defers Try.func23, Try.ntmps23
    go_wp2_with fail
    refine (rd_nodes_no (w.heap.size + 1 + 1) s _ hs HL.out (by simp [go_sem]) (by simp [go_sem])).mono ?_
    rintro e w1 ⟨rfl, hg1⟩
    have hcv : w1.cell? ⟨w.heap.size, 0, none⟩ = some (.slice none 0 0) := hg1.cell (by simp [go_sem]) (by simp; omega)
    have hce : w1.cell? ⟨w.heap.size + 1, 0, none⟩ = some (.int .i64 0) := hg1.cell (by simp [go_sem]) (by simp)
    have hfv : w1.frozen? ⟨w.heap.size, 0, none⟩ = false := by
      rw [World.frozen?_of_block (hg1.block w.heap.size (by simp; omega) (by simp; omega))]; simp [go_sem]
    have hfe : w1.frozen? ⟨w.heap.size + 1, 0, none⟩ = false := by
      rw [World.frozen?_of_block (hg1.block (w.heap.size + 1) (by simp) (by simp))]; simp [go_sem]
    have HB : Hid (Below w.heap.size w w1) := ((((Below.refl _ _).alloc (Nat.le_refl _) _).alloc (by simp) _).alloc (by simp; omega) _).grown hg1 (by simp; omega) (by intro k hk; cases hk; omega)
    clear hg1
    go_wp2
    exact door_pan_d w w1 _ HB.out rfl rfl _ _ hcv hfv hce hfe
  · obtain ⟨l, r, hl2, hkd, hr⟩ := Classical.not_not.1 hl
    have hsm : s.size ≤ maxLen := by unfold maxLen; omega
    have HR : Hid (s.data.toList = pk l.length ++ (pkDD l ++ r)) := hr
    have HT : Hid (∀ t ∈ l, okW t) := fun t ht => by
      have h1 := pkDD_mem l t ht
      have h2 := size_of hr
      have h3 := hkd t ht
      simp only [List.length_append] at h2
      exact ⟨by omega, h3.1, h3.2, by omega⟩
    have HC : Hid (r = [] → neC l ≠ 0) := fun h0 hok => hno ⟨l, hok, by rw [hr, h0]; simp⟩
    clear hl hno hr
    go_enter_defers Try.func23, Try.ntmps23
    go_wp2_with fail
    refine (rd_nodes (w.heap.size + 1 + 1) s _ l r hsm hl2 HT.out HR.out (by simp [go_sem]) (by simp [go_sem])).mono ?_
    rintro e w1 ⟨v, rfl, hown, ⟨s1, hs1, _, hc1⟩, hf1, hg1⟩
    have hcv : w1.cell? ⟨w.heap.size, 0, none⟩ = some (.slice none 0 0) := hg1.cell (by simp [go_sem]) (by simp; omega)
    have hce : w1.cell? ⟨w.heap.size + 1, 0, none⟩ = some (.int .i64 0) := hg1.cell (by simp [go_sem]) (by simp)
    have hfv : w1.frozen? ⟨w.heap.size, 0, none⟩ = false := by
      rw [World.frozen?_of_block (hg1.block w.heap.size (by simp; omega) (by simp; omega))]; simp [go_sem]
    have hfe : w1.frozen? ⟨w.heap.size + 1, 0, none⟩ = false := by
      rw [World.frozen?_of_block (hg1.block (w.heap.size + 1) (by simp) (by simp))]; simp [go_sem]
    obtain ⟨a, cap, rfl⟩ := own_shape hown
    have hown' : w1.ownsRow (w.heap.size + 1 + 1 + 1) 41 3 (.slice a l.length cap) l.length (ndCells l) := by simpa using hown
    have HO : Hid (∀ u1 : Value, (w1.setCell ⟨w.heap.size, 0, none⟩ u1).ownsRow (w.heap.size + 1 + 1 + 1) 41 3 (.slice a l.length cap) l.length (ndCells l)) := fun u1 =>
      ownsRow_setCell_below hown' (a := ⟨w.heap.size, 0, none⟩) (by show w.heap.size < _; omega) u1
    have HB : Hid (Below w.heap.size w w1) := ((((Below.refl _ _).alloc (Nat.le_refl _) _).alloc (by simp) _).alloc (by simp; omega) _).grown hg1 (by simp; omega) (by intro k hk; cases hk; omega)
    have HB2 : Hid (∀ u : Value, Below w.heap.size w (w1.setCell ⟨w.heap.size, 0, none⟩ u)) := fun u => HB.out.setCell (p := ⟨w.heap.size, 0, none⟩) (Nat.le_refl _) _
    have HQ : Hid (∀ u : Value, (w1.setCell ⟨w.heap.size, 0, none⟩ u).cell? ⟨w.heap.size, 0, none⟩ = some u ∧ (w1.setCell ⟨w.heap.size, 0, none⟩ u).frozen? ⟨w.heap.size, 0, none⟩ = false ∧ (w1.setCell ⟨w.heap.size, 0, none⟩ u).cell? ⟨w.heap.size + 1, 0, none⟩ = some (.int .i64 0) ∧ (w1.setCell ⟨w.heap.size, 0, none⟩ u).frozen? ⟨w.heap.size + 1, 0, none⟩ = false) := fun u =>
      ⟨World.cell?_setCell_same' _ _ _ (by rw [hcv]; rfl), by rw [World.frozen?_setCell]; exact hfv, by rw [World.cell?_of_block (w := w1) (Below.heap_setCell w1 ⟨w.heap.size, 0, none⟩ u (w.heap.size + 1) (by show ¬ w.heap.size + 1 = w.heap.size; omega))]; exact hce, by rw [World.frozen?_setCell]; exact hfe⟩
    clear hown hown' hg1 hf1
    by_cases h0 : r = []
    · subst h0
      have HC2 : Hid (neC l ≠ 0) := HC.out rfl
      have hne := (bne_iff_ne (a := neC l) (b := 0)).2 (HC.out rfl)
      clear HC
      obtain rfl : s1 = ⟨#[]⟩ := bytes_eq hs1
      clear hs1
      go_wp2_with fail
      refine (ne_any _ l _ (own_nodes (HO.out _) hl2 HT.out)).mono ?_
      rintro e w2 ⟨rfl, hb2⟩
      obtain ⟨k1, k2, k3, k4⟩ := HQ.out (.slice a l.length cap)
      have hsz1 : w.heap.size + 1 < w1.heap.size := World.block_lt_of_cell? w1 ⟨w.heap.size + 1, 0, none⟩ hce
      have k1' := (hb2.cell (p := ⟨w.heap.size, 0, none⟩) (by simp; omega)).trans k1
      have k2' := (hb2.frozen (p := ⟨w.heap.size, 0, none⟩) (by simp; omega)).trans k2
      have k3' := (hb2.cell (p := ⟨w.heap.size + 1, 0, none⟩) (by simp; omega)).trans k3
      have k4' := (hb2.frozen (p := ⟨w.heap.size + 1, 0, none⟩) (by simp; omega)).trans k4
      have HB3 : Hid (Below w.heap.size w w2) := (HB2.out _).trans (hb2.mono (by simp; omega))
      clear hb2 k1 k2 k3 k4 hcv hce hfv hfe
      generalize neC l = rc at hne ⊢
      go_wp2_with fail
      refine (giveUp_any _).mono ?_
      rintro e w3 ⟨rfl, rfl⟩
      go_wp2
      exact door_pan_d w _ _ HB3.out rfl rfl _ _ k1' k2' k3' k4'
    · have hne : (s1.toList == []) = false := by
        rw [beq_eq_false_iff_ne, Lib.toList_data, hs1]
        exact h0
      have hne2 : s1.toList.isEmpty = false := by
        rw [Lib.toList_data, hs1]
        cases r
        · exact absurd rfl h0
        · rfl
      clear hs1 h0
      go_wp2_with fail
      refine (giveUp_any _).mono ?_
      rintro e w2 ⟨rfl, rfl⟩
      obtain ⟨k1, k2, k3, k4⟩ := HQ.out (.slice a l.length cap)
      go_wp2
      exact door_pan_d w _ _ (HB2.out _) rfl rfl _ _ k1 k2 k3 k4

set_option maxHeartbeats 1000000 in
theorem ReadNodes_no (s : ByteArray) (w : World) (hs : s.size ≤ 140737488355328) (hno : NoNodes s) :
    Calls Try.prog 10 #[.string s] w fun e w' => e = .returned (.tuple #[.slice none 0 0, .int .i64 1]) ∧ Below w.heap.size w w' := by
  have HN : Hid (NoNodes s) := hno
  clear hno
  go_enter Try.func10, Try.ntmps10
  go_wp2_with fail
  refine (whole_nodes_no s w hs HN.out).mono ?_
  rintro e w1 ⟨rfl, h2⟩
  go_wp2
  go_ret2
  exact ⟨rfl, h2⟩
end Go.Proofs.Ytbddppbgkhcafaa
