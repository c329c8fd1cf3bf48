/- What the reader does at packed nodes. -/
import Derived.Test.YtbddppbgkhcafaaPackD
import Derived.Test.YtbddppbgkhcafaaReadR
import Derived.Test.YtbddppbgkhcafaaTexts
namespace Go.Proofs.Ytbddppbgkhcafaa
open Go.RowKit Go.Shelf

set_option maxHeartbeats 2000000 in
set_option maxRecDepth 100000 in
theorem rd_node (b k : Nat) (s a d : ByteArray) (w : World) (r : List UInt8) (hs : s.size ≤ maxLen) (hk : k ≤ 9007199254740991) (ha : a.size ≤ 281474976710656) (hd : d.size ≤ 281474976710656) (h : s.data.toList = pkD (a, (k : Int), d) ++ r)
    (hcell : w.cell? ⟨b, 0, none⟩ = some (.string s)) (hf : w.frozen? ⟨b, 0, none⟩ = false) :
    Calls Try.prog 42 #[.pointer (some ⟨b, 0, none⟩)] w fun e w' => e = .returned (.agg #[.string a, .int .i64 k, .string d]) ∧ (∃ s' : ByteArray, s'.data.toList = r ∧ s'.size ≤ maxLen ∧ w'.cell? ⟨b, 0, none⟩ = some (.string s')) ∧ w'.frozen? ⟨b, 0, none⟩ = false ∧ w.grownBy w' (some b) := by
  have hbl : b < w.heap.size := World.block_lt_of_cell? w ⟨b, 0, none⟩ hcell
  have hta := size_of (s := a) rfl
  have htd := size_of (s := d) rfl
  have h' : s.data.toList = pk a.data.toList.length ++ (a.data.toList ++ (pk k ++ (pk d.data.toList.length ++ (d.data.toList ++ r)))) := by
    rw [h]
    unfold pkD pkT
    rw [hta, htd]
    simp only [List.append_assoc, Int.toNat_natCast]
  have HS : Hid _ := h'
  have HA : Hid (a.data.toList.length ≤ 281474976710656) := by show _ ≤ _; omega
  have HD : Hid (d.data.toList.length ≤ 281474976710656) := by show _ ≤ _; omega
  have c0 : (w.alloc (.cells #[.string ⟨#[]⟩, .int .i64 0, .string ⟨#[]⟩] 41)).cell? ⟨b, 0, none⟩ = some (.string s) := by rw [World.cell?_alloc_past _ _ _ hbl]; exact hcell
  have f0 : (w.alloc (.cells #[.string ⟨#[]⟩, .int .i64 0, .string ⟨#[]⟩] 41)).frozen? ⟨b, 0, none⟩ = false := by
    rw [World.frozen?_of_block (w := w) (Below.heap_alloc w _ b hbl)]; exact hf
  have C0 : Hid _ := c0
  have F0 : Hid _ := f0
  have hne : ¬ w.heap.size = b := by omega
  have hne' : ¬ b = w.heap.size := by omega
  have G0 : Hid (w.grownBy (w.alloc (.cells #[.string ⟨#[]⟩, .int .i64 0, .string ⟨#[]⟩] 41)) (some b)) := World.grownBy_alloc w _ _
  have X0 : Hid _ := heap_alloc_new w (.cells #[.string ⟨#[]⟩, .int .i64 0, .string ⟨#[]⟩] 41)
  clear h h' hta htd c0 f0 hf hcell
  go_enter Try.func42, Try.ntmps42
  go_wp2_with fail
  refine (rd_text b s _ a.data.toList _ hs HA.out HS.out C0.out F0.out).mono ?_
  rintro e w1 ⟨rfl, ⟨s1, hs1, hz1, hc1⟩, hf1, hg1⟩
  have x1 := (hg1.block w.heap.size (by simp) (by simpa using hne)).trans X0.out
  have G1 : Hid (w.grownBy w1 (some b)) := grownBy_trans G0.out hg1
  have X1 : Hid _ := x1
  have S1 : Hid _ := hs1
  have C1 : Hid _ := hc1
  have F1 : Hid _ := hf1
  clear hs1 hc1 hf1 hg1 x1
  go_wp2_with fail
  refine (rd_number2 b s1 w1 k _ hz1 hk S1.out C1.out F1.out).mono ?_
  rintro e w2 ⟨rfl, ⟨s2, hs2, hz2, hc2⟩, hf2, hg2⟩
  have x2 := (hg2.block w.heap.size (by have h := Array.getElem?_eq_some_iff.1 X1.out; exact h.1) (by simpa using hne)).trans X1.out
  have G2 : Hid (w.grownBy w2 (some b)) := grownBy_trans G1.out hg2
  have X2 : Hid _ := x2
  have S2 : Hid _ := hs2
  have C2 : Hid _ := hc2
  have F2 : Hid _ := hf2
  clear hs2 hc2 hf2 hg2 x2
  go_wp2_with fail
  refine (rd_text b s2 w2 d.data.toList r hz2 HD.out S2.out C2.out F2.out).mono ?_
  rintro e w3 ⟨rfl, ⟨s3, hs3, hz3, hc3⟩, hf3, hg3⟩
  have x3 := (hg3.block w.heap.size (by have h := Array.getElem?_eq_some_iff.1 X2.out; exact h.1) (by simpa using hne)).trans X2.out
  have G3 : Hid (w.grownBy w3 (some b)) := grownBy_trans G2.out hg3
  have q0 : w3.cell? ⟨w.heap.size, 0, none⟩ = some (.string ⟨#[]⟩) := by rw [Lib.cell_of_heap x3]; rfl
  have q1 : w3.cell? ⟨w.heap.size, 1, none⟩ = some (.int .i64 0) := by rw [Lib.cell_of_heap x3]; rfl
  have q2 : w3.cell? ⟨w.heap.size, 2, none⟩ = some (.string ⟨#[]⟩) := by rw [Lib.cell_of_heap x3]; rfl
  have r0 : w3.frozen? ⟨w.heap.size, 0, none⟩ = false := Lib.frozen_of_heap x3 0
  have r1 : w3.frozen? ⟨w.heap.size, 1, none⟩ = false := Lib.frozen_of_heap x3 1
  have r2 : w3.frozen? ⟨w.heap.size, 2, none⟩ = false := Lib.frozen_of_heap x3 2
  have B4 : Hid (∀ v0 v1 v2 : Value, Below w.heap.size w3 (((w3.setCell ⟨w.heap.size, 0, none⟩ v0).setCell ⟨w.heap.size, 1, none⟩ v1).setCell ⟨w.heap.size, 2, none⟩ v2)) := fun v0 v1 v2 =>
    (((Below.refl _ _).setCell (p := ⟨w.heap.size, 0, none⟩) (Nat.le_refl _) _).setCell (p := ⟨w.heap.size, 1, none⟩) (Nat.le_refl _) _).setCell (p := ⟨w.heap.size, 2, none⟩) (Nat.le_refl _) _
  have S3 : Hid _ := hs3
  have C3 : Hid _ := hc3
  have F3 : Hid _ := hf3
  clear hg3 x3 hs3 hc3 hf3
  go_wp2
  refine bodyPost_ret (v := .agg #[.string a, .int .i64 k, .string d]) (by simp [results, Try.results42, go_sem, q0, q1, q2]) rfl ⟨rfl, ⟨s3, S3.out, hz3, ?_⟩, ?_, ?_⟩
  · exact ((B4.out _ _ _).cell (p := ⟨b, 0, none⟩) hbl).trans C3.out
  · exact ((B4.out _ _ _).frozen (p := ⟨b, 0, none⟩) hbl).trans F3.out
  · have b4 := B4.out (.string ⟨a.data⟩) (.int .i64 k) (.string ⟨d.data⟩)
    have g3 := G3.out
    exact ⟨b4.os.trans g3.os, b4.tape.trans g3.tape, b4.output.trans g3.output, Nat.le_trans g3.size b4.size, fun k hk hr => (b4.block k hk).trans (g3.block k hk hr)⟩

def ndCells (l : List Nd) : List Value := l.flatMap fun n => [.string n.1, .int .i64 n.2.1, .string n.2.2]
/-- Each node can be read, whether or not it may be packed. -/
def okW (n : Nd) : Prop := n.1.size ≤ 281474976710656 ∧ 0 ≤ n.2.1 ∧ n.2.1 ≤ 9007199254740991 ∧ n.2.2.size ≤ 281474976710656
theorem okD.w {n : Nd} (h : okD n) : okW n := by
  obtain ⟨h1, h2, h3, h4⟩ := h
  exact ⟨by omega, h2, by omega, by omega⟩
theorem infD : (Try.prog.info? 41).map (fun i => (i.zero, i.size, i.bytes)) = some (some (.agg #[.string ⟨#[]⟩, .int .i64 0, .string ⟨#[]⟩]), 3, 40) := by kernel_rfl

set_option maxHeartbeats 2000000 in
set_option maxRecDepth 100000 in
theorem rd_dlist (b : Nat) (s : ByteArray) (w : World) (l : List Nd) (r : List UInt8) (hs : s.size ≤ maxLen) (hl : l.length ≤ 60) (ht : ∀ t ∈ l, okW t) (h : s.data.toList = pk l.length ++ (pkDD l ++ r))
    (hc : w.cell? ⟨b, 0, none⟩ = some (.string s)) (hf : w.frozen? ⟨b, 0, none⟩ = false) :
    Calls Try.prog 41 #[.pointer (some ⟨b, 0, none⟩), .int .i64 60, .func (.func 42) #[] #[]] w fun e w' => ∃ v, e = .returned v ∧ w'.ownsRow w.heap.size 41 3 v l.length (ndCells l) ∧ (∃ s' : ByteArray, s'.data.toList = r ∧ s'.size ≤ maxLen ∧ w'.cell? ⟨b, 0, none⟩ = some (.string s')) ∧ w'.frozen? ⟨b, 0, none⟩ = false ∧ w.grownBy w' (some b) := by
  obtain ⟨i0, hi, hz0, hz1, hz2⟩ := info_parts infD
  have hbl : b < w.heap.size := World.block_lt_of_cell? w ⟨b, 0, none⟩ hc
  go_enter Try.func41, Try.ntmps41
  go_wp2_with fail
  refine (rd_number b s _ l.length (pkDD l ++ r) hs (by omega) h hc hf).mono ?_
  rintro e w1 ⟨rfl, s1, h1, hs1, rfl⟩
  have hle : (l.length : Int) ≤ 60 := by omega
  have H1 : Hid _ := h1
  have HC : Hid _ := hc
  have HT : Hid _ := ht
  clear h h1 hs hc ht
  go_wp2_with (at_make; refine wpList_make_own _ rfl _ _ 22 rfl w.heap.size 41 i0 (.agg #[.string ⟨#[]⟩, .int .i64 0, .string ⟨#[]⟩]) 3 Try.underlying22 hi hz0 hz1 _ _ _ l.length rfl rfl ?m1 ?m2 ?m3 ?m4 ?_)
  case m1 => rfl
  case m2 => rw [hz2]; omega
  case m3 => unfold maxLen; omega
  case m4 => simp
  intro w2 hown hg2
  have hc2 : w2.cell? ⟨b, 0, none⟩ = some (.string s1) := hg2.cell (World.cell?_setCell_same' _ _ _ (by rw [HC.out]; rfl)) (by simp)
  have hf2 : w2.frozen? ⟨b, 0, none⟩ = false := by
    rw [World.frozen?_of_block (w := w.setCell ⟨b, 0, none⟩ (.string s1)) (hg2.block b (by simp; exact hbl) (by simp))]
    simpa using hf
  have hgr : w.grownBy w2 (some b) := grownBy_trans (grownBy_set w b 0 _) ⟨hg2.os, hg2.tape, hg2.output, hg2.size, fun k hk _ => hg2.block k hk (by simp)⟩
  clear hg2 hf
  go_wp2
  go_loopw [8, 18] (fun v i wr => ∃ k : Nat, k ≤ l.length ∧ i = .int .i64 k ∧ wr.ownsRow w.heap.size 41 3 v k (ndCells (l.take k)) ∧ (∃ s' : ByteArray, s'.data.toList = pkDD (l.drop k) ++ r ∧ s'.size ≤ maxLen ∧ wr.cell? ⟨b, 0, none⟩ = some (.string s')) ∧ wr.frozen? ⟨b, 0, none⟩ = false ∧ w.grownBy wr (some b)) (fun _ i _ => l.length - (intOf i).toNat)
  case atStart => exact ⟨0, Nat.zero_le _, rfl, by simpa [ndCells] using hown, ⟨s1, by simpa using H1.out, hs1, hc2⟩, hf2, hgr⟩
  case round =>
    obtain ⟨k, hk, rfl, hok, ⟨s2, h2, hs2, hck⟩, hfk, hgk⟩ := hrel
    clear hown hc2 hf2 hgr
    have H2 : Hid _ := h2
    have hsz := hgk.size
    clear h2
    by_cases hlt : k < l.length
    · obtain ⟨t, ht⟩ : ∃ t, l[k]? = some t := ⟨l[k], List.getElem?_eq_getElem hlt⟩
      have HD : Hid (l.drop k = t :: l.drop (k + 1)) := by
        obtain ⟨h', rfl⟩ := List.getElem?_eq_some_iff.1 ht
        exact List.drop_eq_getElem_cons h'
      have HK : Hid (l.take (k + 1) = l.take k ++ [t]) := by
        obtain ⟨h', rfl⟩ := List.getElem?_eq_some_iff.1 ht
        exact List.take_succ_eq_append_getElem h'
      obtain ⟨ta, tk, td⟩ := t
      obtain ⟨o1, o2, o3, o4⟩ := HT.out _ (List.mem_of_getElem? ht)
      simp only at o1 o2 o3 o4
      obtain ⟨tn, rfl⟩ : ∃ n : Nat, tk = n := ⟨tk.toNat, by omega⟩
      have OO : Hid (tn ≤ 9007199254740991 ∧ ta.size ≤ 281474976710656 ∧ td.size ≤ 281474976710656) := ⟨by omega, by omega, by omega⟩
      clear ht o1 o2 o3 o4
      go_wp2_with fail
      refine (rd_node b tn s2 ta td _ (pkDD (l.drop (k + 1)) ++ r) hs2 OO.out.1 OO.out.2.1 OO.out.2.2 (by rw [H2.out, HD.out]; simp [pkDD]) hck hfk).mono ?_
      rintro e w3 ⟨rfl, ⟨s3, h3, hs3, hc3⟩, hf3, hg3⟩
      have hok3 := hok.kept hg3 (Or.inr (fun e => by have := hok.lt b e; omega))
      have HG3 : Hid _ := grownBy_trans hgk hg3
      have H3 : Hid _ := h3
      have hsz3 := hg3.size
      clear hok hg3 h3 hck hfk hgk
      go_wp2_with (at_builtin; refine wpList_append_own _ rfl _ _ 22 rfl w.heap.size 41 i0 (.agg #[.string ⟨#[]⟩, .int .i64 0, .string ⟨#[]⟩]) 3 40 Try.underlying22 hi hz0 hz1 hz2 rfl (by decide) _ _ _ rfl (hok3.alloc _) ⟨w3.heap.size, 0, none⟩ 1 1 [.string ta, .int .i64 tn, .string td] rfl rfl ?c1 ?c2 ?c3 ?c4 ?c5 ?_)
      case c1 =>
        intro j u hj
        match j, hj with
        | 0, hj => simp at hj; subst hj; simp [Addr.add]
        | 1, hj => simp at hj; subst hj; simp [Addr.add]
        | 2, hj => simp at hj; subst hj; simp [Addr.add]
      case c2 => intro u hu; simp at hu; rcases hu with rfl | rfl | rfl <;> rfl
      case c3 => unfold maxLen; omega
      case c4 => omega
      case c5 => simp; omega
      intro v' w4 hown4 hg4 _
      have hrow : ∀ j, u8.ownBlock = some j → w.heap.size ≤ j := fun j hj => (hok3.lt j hj).1
      have hnb : some b ≠ u8.ownBlock := fun e => by have := hrow b e.symm; omega
      have hlt3 : b < w3.heap.size := by omega
      have hc4 : w4.cell? ⟨b, 0, none⟩ = some (.string s3) := by
        rw [World.cell?_of_block (w := w3) ((hg4.block b (by simp; omega) hnb).trans (Below.heap_alloc w3 _ b hlt3))]
        exact hc3
      have hf4 : w4.frozen? ⟨b, 0, none⟩ = false := by
        rw [World.frozen?_of_block (w := w3) ((hg4.block b (by simp; omega) hnb).trans (Below.heap_alloc w3 _ b hlt3))]
        exact hf3
      have HG4 : Hid (w.grownBy w4 (some b)) := by
        have g1 := HG3.out
        have hs4 := hg4.size
        refine ⟨hg4.os.trans g1.os, hg4.tape.trans g1.tape, hg4.output.trans g1.output, by simp at hs4; omega, fun j hj hr => ?_⟩
        rw [hg4.block j (by simp; omega) (fun e => by have := hrow j e.symm; omega), Below.heap_alloc w3 _ j (by omega)]
        exact g1.block j hj hr
      have HO : Hid _ := hown4
      clear hown4 hg4 hok3 hrow hnb hc3 hf3
      go_wp2
      refine ⟨⟨k + 1, by omega, by go_num, ?_, ⟨s3, H3.out, hs3, hc4⟩, hf4, HG4.out⟩, by simp [intOf]; omega⟩
      rw [HK.out, show ndCells (l.take k ++ [(ta, (tn : Int), td)]) = ndCells (l.take k) ++ [.string ta, .int .i64 tn, .string td] from by simp [ndCells]]
      exact HO.out
    · obtain rfl : k = l.length := by omega
      go_wp2
      go_ret
      refine ⟨_, rfl, by simpa using hok, ⟨s2, by simpa [pkDD] using H2.out, hs2, hck⟩, hfk, hgk⟩

set_option maxHeartbeats 1000000 in
theorem rd_nodes (b : Nat) (s : ByteArray) (w : World) (l : List Nd) (r : List UInt8) (hs : s.size ≤ maxLen) (hl : l.length ≤ 60) (ht : ∀ t ∈ l, okW t) (h : s.data.toList = pk l.length ++ (pkDD l ++ r))
    (hc : w.cell? ⟨b, 0, none⟩ = some (.string s)) (hf : w.frozen? ⟨b, 0, none⟩ = false) :
    Calls Try.prog 24 #[.pointer (some ⟨b, 0, none⟩)] w fun e w' => ∃ v, e = .returned v ∧ w'.ownsRow w.heap.size 41 3 v l.length (ndCells l) ∧ (∃ s' : ByteArray, s'.data.toList = r ∧ s'.size ≤ maxLen ∧ w'.cell? ⟨b, 0, none⟩ = some (.string s')) ∧ w'.frozen? ⟨b, 0, none⟩ = false ∧ w.grownBy w' (some b) := by
  have H : Hid _ := h
  have HT : Hid _ := ht
  clear h ht
  go_enter Try.func24, Try.ntmps24
  go_wp2_with fail
  refine (rd_dlist b s w l r hs hl HT.out H.out hc hf).mono ?_
  rintro e w1 ⟨v, rfl, h1, h2, h3, h4⟩
  go_wp2
  go_ret
  exact ⟨v, rfl, h1, h2, h3, h4⟩

theorem catch_idle_d (p q : Addr) (w : World) :
    CallsD Try.prog 39 #[.pointer (some p), .pointer (some q)] .returning w fun e u' w' => e = .returned (.tuple #[]) ∧ u' = .returning ∧ w' = w := by
  refine callsD_of_wpS Try.func39 rfl fun c₀ cs hu => ?_
  apply wpS_seq
  apply wpS_region
  simp [wpOpsS, go_sem, recoverD, hu, Try.ntmps39, Exit.thenS]
  refine wpS_cond (t := false) (by simp [Act.eval, Array.replicate]) ?_
  simp only [Bool.false_eq_true, if_false]
  refine wpS_of_wp (wp_skip ?_)
  cases c₀
  simp_all [bodyPostS, results, Try.results39]

theorem ndCells_get (l : List Nd) (j : Nat) (hj : j < l.length) : (ndCells l)[j * 3]? = some (.string l[j].1) ∧ (ndCells l)[j * 3 + 1]? = some (.int .i64 l[j].2.1) ∧ (ndCells l)[j * 3 + 2]? = some (.string l[j].2.2) := by
  induction l generalizing j with
  | nil => simp at hj
  | cons n l ih =>
    have e : ndCells (n :: l) = .string n.1 :: .int .i64 n.2.1 :: .string n.2.2 :: ndCells l := by simp [ndCells]
    cases j with
    | zero => rw [e]; exact ⟨rfl, rfl, rfl⟩
    | succ j =>
      have h := ih j (by simpa using hj)
      rw [e, show (j + 1) * 3 = j * 3 + 3 by omega]
      exact ⟨by simpa using h.1, by simpa using h.2.1, by simpa using h.2.2⟩

theorem own_nodes {w : World} {base : Nat} {v : Value} {l : List Nd} (h : w.ownsRow base 41 3 v l.length (ndCells l)) (hl : l.length ≤ 60) (hm : ∀ n ∈ l, okW n) : IsNodes w v l := by
  refine ⟨by omega, fun n hn => ?_, ?_⟩
  · obtain ⟨o1, _, _, o4⟩ := hm n hn
    unfold maxLen
    omega
  have hcells := fun (g : Nat) (hg : v.ownBlock = some g) => h.cells hg
  rcases h.2 with ⟨h1, h2⟩ | ⟨g, cap, cur, hv, _, hh, _⟩
  · exact ⟨none, 0, by rw [h1, h2], Or.inl (List.length_eq_zero_iff.1 h2)⟩
  · refine ⟨some ⟨g, 0, none⟩, cap, hv, Or.inr ⟨g, 0, rfl, (Array.getElem?_eq_some_iff.1 hh).1, fun j hj => ?_⟩⟩
    have k := ndCells_get l j hj
    have c0 := hcells g (by rw [hv]; rfl) _ _ k.1
    have c1 := hcells g (by rw [hv]; rfl) _ _ k.2.1
    have c2 := hcells g (by rw [hv]; rfl) _ _ k.2.2
    rw [addr_add] at c0 c1 c2
    exact ⟨c0, c1, c2⟩

set_option maxHeartbeats 4000000 in
set_option maxRecDepth 100000 in
theorem whole_nodes (s : ByteArray) (w : World) (l : List Nd) (hs : s.size ≤ maxLen) (hok : neC l = 0) (h : s.data.toList = pk l.length ++ (pkDD l ++ [])) :
    Calls Try.prog 23 #[.string s, .func (.func 24) #[] #[], .func (.func 11) #[] #[]] w fun e w' => ∃ v, e = .returned (.tuple #[v, .int .i64 0]) ∧ w'.ownsRow w.heap.size 41 3 v l.length (ndCells l) ∧ Below w.heap.size w w' := by
  have hmf : ∀ (fn : Fn) (first cap : Array Value) (w : World), (Instr.makeFunc fn first cap).run Try.prog w = .ok (.func fn first cap) w := fun _ _ _ _ => rfl
  have H : Hid _ := h
  have HK : Hid _ := hok
  have HD : Hid _ := (neC_ok hok).1
  clear h hok
  go_enter_defers Try.func23, Try.ntmps23
  go_wp2_with fail
  refine (rd_nodes (w.heap.size + 1 + 1) s _ l [] hs HD.out.1 (fun n hn => (HD.out.2 n hn).w) H.out (by simp [go_sem]) (by simp [go_sem])).mono ?_
  rintro e w1 ⟨v, rfl, hown, ⟨s1, hs1, _, hc1⟩, hf1, hg1⟩
  obtain rfl : s1 = ⟨#[]⟩ := bytes_eq hs1
  have hcv : w1.cell? ⟨w.heap.size, 0, none⟩ = some (.slice none 0 0) := hg1.cell (by simp [go_sem]) (by simp; omega)
  have hce : w1.cell? ⟨w.heap.size + 1, 0, none⟩ = some (.int .i64 0) := hg1.cell (by simp [go_sem]) (by simp)
  have hfv : w1.frozen? ⟨w.heap.size, 0, none⟩ = false := by
    rw [World.frozen?_of_block (hg1.block w.heap.size (by simp; omega) (by simp; omega))]; simp [go_sem]
  have hfe : w1.frozen? ⟨w.heap.size + 1, 0, none⟩ = false := by
    rw [World.frozen?_of_block (hg1.block (w.heap.size + 1) (by simp) (by simp))]; simp [go_sem]
  have hsz1 : w.heap.size + 1 + 1 < w1.heap.size := by have := hg1.size; simp at this; omega
  obtain ⟨a, cap, rfl⟩ := own_shape hown
  have hown' : w1.ownsRow (w.heap.size + 1 + 1 + 1) 41 3 (.slice a l.length cap) l.length (ndCells l) := by simpa using hown
  have HO : Hid (∀ u1 : Value, ((w1.setCell ⟨w.heap.size, 0, none⟩ u1).ownsRow (w.heap.size + 1 + 1 + 1) 41 3 (.slice a l.length cap) l.length (ndCells l))) := fun u1 => ownsRow_setCell_below hown' (a := ⟨w.heap.size, 0, none⟩) (by show w.heap.size < _; omega) u1
  have HB : Hid (Below w.heap.size w w1) := ((((Below.refl _ _).alloc (Nat.le_refl _) _).alloc (by simp) _).alloc (by simp; omega) _).grown hg1 (by simp; omega) (by intro k hk; cases hk; omega)
  clear hown hown' hg1 hs1 hf1 H
  go_wp2_with fail
  refine (ne_any _ l _ (own_nodes (HO.out _) HD.out.1 fun n hn => (HD.out.2 n hn).w)).mono ?_
  rintro e w2 ⟨rfl, hb2⟩
  rw [HK.out]
  have s0 : w2.cell? ⟨w.heap.size, 0, none⟩ = some (.slice a l.length cap) := (hb2.cell (p := ⟨w.heap.size, 0, none⟩) (by simp; omega)).trans (by simp [go_sem, hcv])
  have s1 : w2.cell? ⟨w.heap.size + 1, 0, none⟩ = some (.int .i64 0) := (hb2.cell (p := ⟨w.heap.size + 1, 0, none⟩) (by simp; omega)).trans (by simp [go_sem, hce])
  have t0 : w2.frozen? ⟨w.heap.size, 0, none⟩ = false := (hb2.frozen (p := ⟨w.heap.size, 0, none⟩) (by simp; omega)).trans (by simp [hfv])
  have t1 : w2.frozen? ⟨w.heap.size + 1, 0, none⟩ = false := (hb2.frozen (p := ⟨w.heap.size + 1, 0, none⟩) (by simp; omega)).trans (by simp [hfe])
  have o2 : w2.ownsRow (w.heap.size + 1 + 1 + 1) 41 3 (.slice a l.length cap) l.length (ndCells l) := (HO.out _).kept (grownBy_below (row := none) hb2) (by cases a with | none => exact Or.inl rfl | some x => exact Or.inr (by simp [Value.ownBlock]))
  have HO2 : Hid (∀ u2 u3 : Value, ((w2.setCell ⟨w.heap.size, 0, none⟩ u2).setCell ⟨w.heap.size + 1, 0, none⟩ u3).ownsRow w.heap.size 41 3 (.slice a l.length cap) l.length (ndCells l)) := fun u2 u3 =>
    own_mono (ownsRow_setCell_below (ownsRow_setCell_below o2 (a := ⟨w.heap.size, 0, none⟩) (by show w.heap.size < _; omega) u2) (a := ⟨w.heap.size + 1, 0, none⟩) (by show w.heap.size + 1 < _; omega) u3) (by omega)
  have HB2 : Hid (Below w.heap.size w w2) := (HB.out.setCell (p := ⟨w.heap.size, 0, none⟩) (Nat.le_refl _) _).trans (hb2.mono (by simp; omega))
  clear hb2 o2
  go_wp2
  refine leaves_cons (f := 39) (args := #[.pointer (some ⟨w.heap.size, 0, none⟩), .pointer (some ⟨w.heap.size + 1, 0, none⟩)]) (by simp) (by simp [go_sem]) ?_
  refine (catch_idle_d ⟨w.heap.size, 0, none⟩ ⟨w.heap.size + 1, 0, none⟩ _).mono ?_
  rintro e u' w'' ⟨rfl, rfl, rfl⟩
  have q0 : ((w2.setCell ⟨w.heap.size, 0, none⟩ (.slice a l.length cap))).cell? ⟨w.heap.size, 0, none⟩ = some (.slice a l.length cap) :=
    World.cell?_setCell_same' _ _ _ (by rw [s0]; rfl)
  have q1 : ((w2.setCell ⟨w.heap.size, 0, none⟩ (.slice a l.length cap)).setCell ⟨w.heap.size + 1, 0, none⟩ (.int .i64 0)).cell? ⟨w.heap.size + 1, 0, none⟩ = some (.int .i64 0) :=
    World.cell?_setCell_same' _ _ _ (by simp [go_sem, s1])
  simp [Leaves, settle, results, Try.results23, go_sem, q0, q1]
  exact ⟨HO2.out _ _, (HB2.out.setCell (p := ⟨w.heap.size, 0, none⟩) (Nat.le_refl _) _).setCell (p := ⟨w.heap.size + 1, 0, none⟩) (Nat.le_succ _) _⟩

set_option maxHeartbeats 1000000 in
theorem ReadNodes_pk (s : ByteArray) (w : World) (l : List Nd) (hs : s.size ≤ maxLen) (hok : neC l = 0) (h : s.data.toList = pk l.length ++ pkDD l) :
    Calls Try.prog 10 #[.string s] w fun e w' => ∃ v, e = .returned (.tuple #[v, .int .i64 0]) ∧ w'.ownsRow w.heap.size 41 3 v l.length (ndCells l) ∧ Below w.heap.size w w' := by
  have H : Hid (s.data.toList = pk l.length ++ (pkDD l ++ [])) := by show _ = _; rw [h]; simp
  have HK : Hid _ := hok
  clear h hok
  go_enter Try.func10, Try.ntmps10
  go_wp2_with fail
  refine (whole_nodes s w l hs HK.out H.out).mono ?_
  rintro e w1 ⟨v, rfl, h1, h2⟩
  go_wp2
  go_ret2
  exact ⟨v, rfl, h1, h2⟩
end Go.Proofs.Ytbddppbgkhcafaa
