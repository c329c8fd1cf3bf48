/- What the reader does at packed nodes. -/
import Derived.Deep.AppendLies
import Derived.Sort.KeysCollected
import Derived.Test.YtkmlooepakinfaaGreatDoorChecked
import Derived.ProofKit
import Derived.WalkLawsBesides
import Derived.Below
import Derived.Deep.RegionHeld3
import Derived.Deep.MidRow
import Derived.Lib.Builder
import Derived.OwnWalk
import Derived.Laws.IdiomStrings
import Derived.Test.YtkmlooepakinfaaGreatDoorTf2
namespace Go.Proofs.YtkmlooepakinfaaGreatDoor
open Go.RowKit Go.Shelf

set_option maxHeartbeats 2000000 in
set_option maxRecDepth 100000 in
theorem rd_node (b k : Nat) (s a d : ByteArray) (w : World) (r : List UInt8) (hs : s.size ≤ maxLen) (hk : k ≤ 9007199254740991) (ha : a.size ≤ 281474976710656) (hd : d.size ≤ 281474976710656) (h : s.data.toList = pkD (a, (k : Int), d) ++ r)
    (hcell : w.cell? ⟨b, 0, none⟩ = some (.string s)) (hf : w.frozen? ⟨b, 0, none⟩ = false) :
    Calls Tryz.prog 150 #[.pointer (some ⟨b, 0, none⟩)] w fun e w' => e = .returned (.agg #[.string a, .int .i64 k, .string d]) ∧ (∃ s' : ByteArray, s'.data.toList = r ∧ s'.size ≤ maxLen ∧ w'.cell? ⟨b, 0, none⟩ = some (.string s')) ∧ w'.frozen? ⟨b, 0, none⟩ = false ∧ w.grownBy w' (some b) := by
  have hbl : b < w.heap.size := World.block_lt_of_cell? w ⟨b, 0, none⟩ hcell
  have hta := size_of (s := a) rfl
  have htd := size_of (s := d) rfl
  have h' : s.data.toList = pk a.data.toList.length ++ (a.data.toList ++ (pk k ++ (pk d.data.toList.length ++ (d.data.toList ++ r)))) := by
    rw [h]
    unfold pkD pkT
    rw [hta, htd]
    simp only [List.append_assoc, Int.toNat_natCast]
  have HS : Hid _ := h'
  have HA : Hid (a.data.toList.length ≤ 281474976710656) := by show _ ≤ _; omega
  have HD : Hid (d.data.toList.length ≤ 281474976710656) := by show _ ≤ _; omega
  have c0 : (w.alloc (.cells #[.string ⟨#[]⟩, .int .i64 0, .string ⟨#[]⟩] 87)).cell? ⟨b, 0, none⟩ = some (.string s) := by rw [World.cell?_alloc_past _ _ _ hbl]; exact hcell
  have f0 : (w.alloc (.cells #[.string ⟨#[]⟩, .int .i64 0, .string ⟨#[]⟩] 87)).frozen? ⟨b, 0, none⟩ = false := by
    rw [World.frozen?_of_block (w := w) (Below.heap_alloc w _ b hbl)]; exact hf
  have C0 : Hid _ := c0
  have F0 : Hid _ := f0
  have hne : ¬ w.heap.size = b := by omega
  have hne' : ¬ b = w.heap.size := by omega
  have G0 : Hid (w.grownBy (w.alloc (.cells #[.string ⟨#[]⟩, .int .i64 0, .string ⟨#[]⟩] 87)) (some b)) := World.grownBy_alloc w _ _
  have X0 : Hid _ := heap_alloc_new w (.cells #[.string ⟨#[]⟩, .int .i64 0, .string ⟨#[]⟩] 87)
  clear h h' hta htd c0 f0 hf hcell
  go_enter Tryz.func150, Tryz.ntmps150
  go_wp2_with fail
  refine (rd_text b s _ a.data.toList _ hs HA.out HS.out C0.out F0.out).mono ?_
  rintro e w1 ⟨rfl, ⟨s1, hs1, hz1, hc1⟩, hf1, hg1⟩
  have x1 := (hg1.block w.heap.size (by simp) (by simpa using hne)).trans X0.out
  have G1 : Hid (w.grownBy w1 (some b)) := grownBy_trans G0.out hg1
  have X1 : Hid _ := x1
  have S1 : Hid _ := hs1
  have C1 : Hid _ := hc1
  have F1 : Hid _ := hf1
  clear hs1 hc1 hf1 hg1 x1
  go_wp2_with fail
  refine (rd_number2 b s1 w1 k _ hz1 hk S1.out C1.out F1.out).mono ?_
  rintro e w2 ⟨rfl, ⟨s2, hs2, hz2, hc2⟩, hf2, hg2⟩
  have x2 := (hg2.block w.heap.size (by have h := Array.getElem?_eq_some_iff.1 X1.out; exact h.1) (by simpa using hne)).trans X1.out
  have G2 : Hid (w.grownBy w2 (some b)) := grownBy_trans G1.out hg2
  have X2 : Hid _ := x2
  have S2 : Hid _ := hs2
  have C2 : Hid _ := hc2
  have F2 : Hid _ := hf2
  clear hs2 hc2 hf2 hg2 x2
  go_wp2_with fail
  refine (rd_text b s2 w2 d.data.toList r hz2 HD.out S2.out C2.out F2.out).mono ?_
  rintro e w3 ⟨rfl, ⟨s3, hs3, hz3, hc3⟩, hf3, hg3⟩
  have x3 := (hg3.block w.heap.size (by have h := Array.getElem?_eq_some_iff.1 X2.out; exact h.1) (by simpa using hne)).trans X2.out
  have G3 : Hid (w.grownBy w3 (some b)) := grownBy_trans G2.out hg3
  have q0 : w3.cell? ⟨w.heap.size, 0, none⟩ = some (.string ⟨#[]⟩) := by rw [Lib.cell_of_heap x3]; rfl
  have q1 : w3.cell? ⟨w.heap.size, 1, none⟩ = some (.int .i64 0) := by rw [Lib.cell_of_heap x3]; rfl
  have q2 : w3.cell? ⟨w.heap.size, 2, none⟩ = some (.string ⟨#[]⟩) := by rw [Lib.cell_of_heap x3]; rfl
  have r0 : w3.frozen? ⟨w.heap.size, 0, none⟩ = false := Lib.frozen_of_heap x3 0
  have r1 : w3.frozen? ⟨w.heap.size, 1, none⟩ = false := Lib.frozen_of_heap x3 1
  have r2 : w3.frozen? ⟨w.heap.size, 2, none⟩ = false := Lib.frozen_of_heap x3 2
  have B4 : Hid (∀ v0 v1 v2 : Value, Below w.heap.size w3 (((w3.setCell ⟨w.heap.size, 0, none⟩ v0).setCell ⟨w.heap.size, 1, none⟩ v1).setCell ⟨w.heap.size, 2, none⟩ v2)) := fun v0 v1 v2 =>
    (((Below.refl _ _).setCell (p := ⟨w.heap.size, 0, none⟩) (Nat.le_refl _) _).setCell (p := ⟨w.heap.size, 1, none⟩) (Nat.le_refl _) _).setCell (p := ⟨w.heap.size, 2, none⟩) (Nat.le_refl _) _
  have S3 : Hid _ := hs3
  have C3 : Hid _ := hc3
  have F3 : Hid _ := hf3
  clear hg3 x3 hs3 hc3 hf3
  go_wp2
  refine bodyPost_ret (v := .agg #[.string a, .int .i64 k, .string d]) (by simp [results, Tryz.results150, go_sem, q0, q1, q2]) rfl ⟨rfl, ⟨s3, S3.out, hz3, ?_⟩, ?_, ?_⟩
  · exact ((B4.out _ _ _).cell (p := ⟨b, 0, none⟩) hbl).trans C3.out
  · exact ((B4.out _ _ _).frozen (p := ⟨b, 0, none⟩) hbl).trans F3.out
  · have b4 := B4.out (.string ⟨a.data⟩) (.int .i64 k) (.string ⟨d.data⟩)
    have g3 := G3.out
    exact ⟨b4.os.trans g3.os, b4.tape.trans g3.tape, b4.output.trans g3.output, Nat.le_trans g3.size b4.size, fun k hk hr => (b4.block k hk).trans (g3.block k hk hr)⟩

def ndCells (l : List Nd) : List Value := l.flatMap fun n => [.string n.1, .int .i64 n.2.1, .string n.2.2]
/-- Each node can be read, whether or not it may be packed. -/
def okW (n : Nd) : Prop := n.1.size ≤ 281474976710656 ∧ 0 ≤ n.2.1 ∧ n.2.1 ≤ 9007199254740991 ∧ n.2.2.size ≤ 281474976710656
theorem okD.w {n : Nd} (h : okD n) : okW n := by
  obtain ⟨h1, h2, h3, h4⟩ := h
  exact ⟨by omega, h2, by omega, by omega⟩
theorem infD : (Tryz.prog.info? 87).map (fun i => (i.zero, i.size, i.bytes)) = some (some (.agg #[.string ⟨#[]⟩, .int .i64 0, .string ⟨#[]⟩]), 3, 40) := by kernel_rfl

set_option maxHeartbeats 2000000 in
set_option maxRecDepth 100000 in
theorem rd_dlist (b : Nat) (s : ByteArray) (w : World) (l : List Nd) (r : List UInt8) (hs : s.size ≤ maxLen) (hl : l.length ≤ 60) (ht : ∀ t ∈ l, okW t) (h : s.data.toList = pk l.length ++ (pkDD l ++ r))
    (hc : w.cell? ⟨b, 0, none⟩ = some (.string s)) (hf : w.frozen? ⟨b, 0, none⟩ = false) :
    Calls Tryz.prog 149 #[.pointer (some ⟨b, 0, none⟩), .int .i64 60, .func (.func 150) #[] #[]] w fun e w' => ∃ v, e = .returned v ∧ w'.ownsRow w.heap.size 87 3 v l.length (ndCells l) ∧ (∃ s' : ByteArray, s'.data.toList = r ∧ s'.size ≤ maxLen ∧ w'.cell? ⟨b, 0, none⟩ = some (.string s')) ∧ w'.frozen? ⟨b, 0, none⟩ = false ∧ w.grownBy w' (some b) := by
  obtain ⟨i0, hi, hz0, hz1, hz2⟩ := info_parts infD
  have hbl : b < w.heap.size := World.block_lt_of_cell? w ⟨b, 0, none⟩ hc
  go_enter Tryz.func149, Tryz.ntmps149
  go_wp2_with fail
  refine (rd_number b s _ l.length (pkDD l ++ r) hs (by omega) h hc hf).mono ?_
  rintro e w1 ⟨rfl, s1, h1, hs1, rfl⟩
  have hle : (l.length : Int) ≤ 60 := by omega
  have H1 : Hid _ := h1
  have HC : Hid _ := hc
  have HT : Hid _ := ht
  clear h h1 hs hc ht
  go_wp2_with (at_make; refine wpList_make_own _ rfl _ _ 81 rfl w.heap.size 87 i0 (.agg #[.string ⟨#[]⟩, .int .i64 0, .string ⟨#[]⟩]) 3 Tryz.underlying81 hi hz0 hz1 _ _ _ l.length rfl rfl ?m1 ?m2 ?m3 ?m4 ?_)
  case m1 => rfl
  case m2 => rw [hz2]; omega
  case m3 => unfold maxLen; omega
  case m4 => simp
  intro w2 hown hg2
  have hc2 : w2.cell? ⟨b, 0, none⟩ = some (.string s1) := hg2.cell (World.cell?_setCell_same' _ _ _ (by rw [HC.out]; rfl)) (by simp)
  have hf2 : w2.frozen? ⟨b, 0, none⟩ = false := by
    rw [World.frozen?_of_block (w := w.setCell ⟨b, 0, none⟩ (.string s1)) (hg2.block b (by simp; exact hbl) (by simp))]
    simpa using hf
  have hgr : w.grownBy w2 (some b) := grownBy_trans (grownBy_set w b 0 _) ⟨hg2.os, hg2.tape, hg2.output, hg2.size, fun k hk _ => hg2.block k hk (by simp)⟩
  clear hg2 hf
  go_wp2
  go_loopw [8, 18] (fun v i wr => ∃ k : Nat, k ≤ l.length ∧ i = .int .i64 k ∧ wr.ownsRow w.heap.size 87 3 v k (ndCells (l.take k)) ∧ (∃ s' : ByteArray, s'.data.toList = pkDD (l.drop k) ++ r ∧ s'.size ≤ maxLen ∧ wr.cell? ⟨b, 0, none⟩ = some (.string s')) ∧ wr.frozen? ⟨b, 0, none⟩ = false ∧ w.grownBy wr (some b)) (fun _ i _ => l.length - (intOf i).toNat)
  case atStart => exact ⟨0, Nat.zero_le _, rfl, by simpa [ndCells] using hown, ⟨s1, by simpa using H1.out, hs1, hc2⟩, hf2, hgr⟩
  case round =>
    obtain ⟨k, hk, rfl, hok, ⟨s2, h2, hs2, hck⟩, hfk, hgk⟩ := hrel
    clear hown hc2 hf2 hgr
    have H2 : Hid _ := h2
    have hsz := hgk.size
    clear h2
    by_cases hlt : k < l.length
    · obtain ⟨t, ht⟩ : ∃ t, l[k]? = some t := ⟨l[k], List.getElem?_eq_getElem hlt⟩
      have HD : Hid (l.drop k = t :: l.drop (k + 1)) := by
        obtain ⟨h', rfl⟩ := List.getElem?_eq_some_iff.1 ht
        exact List.drop_eq_getElem_cons h'
      have HK : Hid (l.take (k + 1) = l.take k ++ [t]) := by
        obtain ⟨h', rfl⟩ := List.getElem?_eq_some_iff.1 ht
        exact List.take_succ_eq_append_getElem h'
      obtain ⟨ta, tk, td⟩ := t
      obtain ⟨o1, o2, o3, o4⟩ := HT.out _ (List.mem_of_getElem? ht)
      simp only at o1 o2 o3 o4
      obtain ⟨tn, rfl⟩ : ∃ n : Nat, tk = n := ⟨tk.toNat, by omega⟩
      have OO : Hid (tn ≤ 9007199254740991 ∧ ta.size ≤ 281474976710656 ∧ td.size ≤ 281474976710656) := ⟨by omega, by omega, by omega⟩
      clear ht o1 o2 o3 o4
      go_wp2_with fail
      refine (rd_node b tn s2 ta td _ (pkDD (l.drop (k + 1)) ++ r) hs2 OO.out.1 OO.out.2.1 OO.out.2.2 (by rw [H2.out, HD.out]; simp [pkDD]) hck hfk).mono ?_
      rintro e w3 ⟨rfl, ⟨s3, h3, hs3, hc3⟩, hf3, hg3⟩
      have hok3 := hok.kept hg3 (Or.inr (fun e => by have := hok.lt b e; omega))
      have HG3 : Hid _ := grownBy_trans hgk hg3
      have H3 : Hid _ := h3
      have hsz3 := hg3.size
      clear hok hg3 h3 hck hfk hgk
      go_wp2_with (at_builtin; refine wpList_append_own _ rfl _ _ 81 rfl w.heap.size 87 i0 (.agg #[.string ⟨#[]⟩, .int .i64 0, .string ⟨#[]⟩]) 3 40 Tryz.underlying81 hi hz0 hz1 hz2 rfl (by decide) _ _ _ rfl (hok3.alloc _) ⟨w3.heap.size, 0, none⟩ 1 1 [.string ta, .int .i64 tn, .string td] rfl rfl ?c1 ?c2 ?c3 ?c4 ?c5 ?_)
      case c1 =>
        intro j u hj
        match j, hj with
        | 0, hj => simp at hj; subst hj; simp [Addr.add]
        | 1, hj => simp at hj; subst hj; simp [Addr.add]
        | 2, hj => simp at hj; subst hj; simp [Addr.add]
      case c2 => intro u hu; simp at hu; rcases hu with rfl | rfl | rfl <;> rfl
      case c3 => unfold maxLen; omega
      case c4 => omega
      case c5 => simp; omega
      intro v' w4 hown4 hg4 _
      have hrow : ∀ j, u8.ownBlock = some j → w.heap.size ≤ j := fun j hj => (hok3.lt j hj).1
      have hnb : some b ≠ u8.ownBlock := fun e => by have := hrow b e.symm; omega
      have hlt3 : b < w3.heap.size := by omega
      have hc4 : w4.cell? ⟨b, 0, none⟩ = some (.string s3) := by
        rw [World.cell?_of_block (w := w3) ((hg4.block b (by simp; omega) hnb).trans (Below.heap_alloc w3 _ b hlt3))]
        exact hc3
      have hf4 : w4.frozen? ⟨b, 0, none⟩ = false := by
        rw [World.frozen?_of_block (w := w3) ((hg4.block b (by simp; omega) hnb).trans (Below.heap_alloc w3 _ b hlt3))]
        exact hf3
      have HG4 : Hid (w.grownBy w4 (some b)) := by
        have g1 := HG3.out
        have hs4 := hg4.size
        refine ⟨hg4.os.trans g1.os, hg4.tape.trans g1.tape, hg4.output.trans g1.output, by simp at hs4; omega, fun j hj hr => ?_⟩
        rw [hg4.block j (by simp; omega) (fun e => by have := hrow j e.symm; omega), Below.heap_alloc w3 _ j (by omega)]
        exact g1.block j hj hr
      have HO : Hid _ := hown4
      clear hown4 hg4 hok3 hrow hnb hc3 hf3
      go_wp2
      refine ⟨⟨k + 1, by omega, by go_num, ?_, ⟨s3, H3.out, hs3, hc4⟩, hf4, HG4.out⟩, by simp [intOf]; omega⟩
      rw [HK.out, show ndCells (l.take k ++ [(ta, (tn : Int), td)]) = ndCells (l.take k) ++ [.string ta, .int .i64 tn, .string td] from by simp [ndCells]]
      exact HO.out
    · obtain rfl : k = l.length := by omega
      go_wp2
      go_ret
      refine ⟨_, rfl, by simpa using hok, ⟨s2, by simpa [pkDD] using H2.out, hs2, hck⟩, hfk, hgk⟩

set_option maxHeartbeats 1000000 in
theorem rd_nodes (b : Nat) (s : ByteArray) (w : World) (l : List Nd) (r : List UInt8) (hs : s.size ≤ maxLen) (hl : l.length ≤ 60) (ht : ∀ t ∈ l, okW t) (h : s.data.toList = pk l.length ++ (pkDD l ++ r))
    (hc : w.cell? ⟨b, 0, none⟩ = some (.string s)) (hf : w.frozen? ⟨b, 0, none⟩ = false) :
    Calls Tryz.prog 129 #[.pointer (some ⟨b, 0, none⟩)] w fun e w' => ∃ v, e = .returned v ∧ w'.ownsRow w.heap.size 87 3 v l.length (ndCells l) ∧ (∃ s' : ByteArray, s'.data.toList = r ∧ s'.size ≤ maxLen ∧ w'.cell? ⟨b, 0, none⟩ = some (.string s')) ∧ w'.frozen? ⟨b, 0, none⟩ = false ∧ w.grownBy w' (some b) := by
  have H : Hid _ := h
  have HT : Hid _ := ht
  clear h ht
  go_enter Tryz.func129, Tryz.ntmps129
  go_wp2_with fail
  refine (rd_dlist b s w l r hs hl HT.out H.out hc hf).mono ?_
  rintro e w1 ⟨v, rfl, h1, h2, h3, h4⟩
  go_wp2
  go_ret
  exact ⟨v, rfl, h1, h2, h3, h4⟩

theorem catch_idle_d (p q : Addr) (w : World) :
    CallsD Tryz.prog 147 #[.pointer (some p), .pointer (some q)] .returning w fun e u' w' => e = .returned (.tuple #[]) ∧ u' = .returning ∧ w' = w := by
  refine callsD_of_wpS Tryz.func147 rfl fun c₀ cs hu => ?_
  apply wpS_seq
  apply wpS_region
  simp [wpOpsS, go_sem, recoverD, hu, Tryz.ntmps147, Exit.thenS]
  refine wpS_cond (t := false) (by simp [Act.eval, Array.replicate]) ?_
  simp only [Bool.false_eq_true, if_false]
  refine wpS_of_wp (wp_skip ?_)
  cases c₀
  simp_all [bodyPostS, results, Tryz.results147]

theorem ndCells_get (l : List Nd) (j : Nat) (hj : j < l.length) : (ndCells l)[j * 3]? = some (.string l[j].1) ∧ (ndCells l)[j * 3 + 1]? = some (.int .i64 l[j].2.1) ∧ (ndCells l)[j * 3 + 2]? = some (.string l[j].2.2) := by
  induction l generalizing j with
  | nil => simp at hj
  | cons n l ih =>
    have e : ndCells (n :: l) = .string n.1 :: .int .i64 n.2.1 :: .string n.2.2 :: ndCells l := by simp [ndCells]
    cases j with
    | zero => rw [e]; exact ⟨rfl, rfl, rfl⟩
    | succ j =>
      have h := ih j (by simpa using hj)
      rw [e, show (j + 1) * 3 = j * 3 + 3 by omega]
      exact ⟨by simpa using h.1, by simpa using h.2.1, by simpa using h.2.2⟩

theorem own_nodes {w : World} {base : Nat} {v : Value} {l : List Nd} (h : w.ownsRow base 87 3 v l.length (ndCells l)) (hl : l.length ≤ 60) (hm : ∀ n ∈ l, okW n) : IsNodes w v l := by
  refine ⟨by omega, fun n hn => ?_, ?_⟩
  · obtain ⟨o1, _, _, o4⟩ := hm n hn
    unfold maxLen
    omega
  have hcells := fun (g : Nat) (hg : v.ownBlock = some g) => h.cells hg
  rcases h.2 with ⟨h1, h2⟩ | ⟨g, cap, cur, hv, _, hh, _⟩
  · exact ⟨none, 0, by rw [h1, h2], Or.inl (List.length_eq_zero_iff.1 h2)⟩
  · refine ⟨some ⟨g, 0, none⟩, cap, hv, Or.inr ⟨g, 0, rfl, (Array.getElem?_eq_some_iff.1 hh).1, fun j hj => ?_⟩⟩
    have k := ndCells_get l j hj
    have c0 := hcells g (by rw [hv]; rfl) _ _ k.1
    have c1 := hcells g (by rw [hv]; rfl) _ _ k.2.1
    have c2 := hcells g (by rw [hv]; rfl) _ _ k.2.2
    rw [addr_add] at c0 c1 c2
    exact ⟨c0, c1, c2⟩

set_option maxHeartbeats 4000000 in
set_option maxRecDepth 100000 in
theorem whole_nodes (s : ByteArray) (w : World) (l : List Nd) (hs : s.size ≤ maxLen) (hok : neC l = 0) (h : s.data.toList = pk l.length ++ (pkDD l ++ [])) :
    Calls Tryz.prog 128 #[.string s, .func (.func 129) #[] #[], .func (.func 85) #[] #[]] w fun e w' => ∃ v, e = .returned (.tuple #[v, .int .i64 0]) ∧ w'.ownsRow w.heap.size 87 3 v l.length (ndCells l) ∧ Below w.heap.size w w' := by
  have hmf : ∀ (fn : Fn) (first cap : Array Value) (w : World), (Instr.makeFunc fn first cap).run Tryz.prog w = .ok (.func fn first cap) w := fun _ _ _ _ => rfl
  have H : Hid _ := h
  have HK : Hid _ := hok
  have HD : Hid _ := (neC_ok hok).1
  clear h hok
  go_enter_defers Tryz.func128, Tryz.ntmps128
  go_wp2_with fail
  refine (rd_nodes (w.heap.size + 1 + 1) s _ l [] hs HD.out.1 (fun n hn => (HD.out.2 n hn).w) H.out (by simp [go_sem]) (by simp [go_sem])).mono ?_
  rintro e w1 ⟨v, rfl, hown, ⟨s1, hs1, _, hc1⟩, hf1, hg1⟩
  obtain rfl : s1 = ⟨#[]⟩ := bytes_eq hs1
  have hcv : w1.cell? ⟨w.heap.size, 0, none⟩ = some (.slice none 0 0) := hg1.cell (by simp [go_sem]) (by simp; omega)
  have hce : w1.cell? ⟨w.heap.size + 1, 0, none⟩ = some (.int .i64 0) := hg1.cell (by simp [go_sem]) (by simp)
  have hfv : w1.frozen? ⟨w.heap.size, 0, none⟩ = false := by
    rw [World.frozen?_of_block (hg1.block w.heap.size (by simp; omega) (by simp; omega))]; simp [go_sem]
  have hfe : w1.frozen? ⟨w.heap.size + 1, 0, none⟩ = false := by
    rw [World.frozen?_of_block (hg1.block (w.heap.size + 1) (by simp) (by simp))]; simp [go_sem]
  have hsz1 : w.heap.size + 1 + 1 < w1.heap.size := by have := hg1.size; simp at this; omega
  obtain ⟨a, cap, rfl⟩ := own_shape hown
  have hown' : w1.ownsRow (w.heap.size + 1 + 1 + 1) 87 3 (.slice a l.length cap) l.length (ndCells l) := by simpa using hown
  have HO : Hid (∀ u1 : Value, ((w1.setCell ⟨w.heap.size, 0, none⟩ u1).ownsRow (w.heap.size + 1 + 1 + 1) 87 3 (.slice a l.length cap) l.length (ndCells l))) := fun u1 => ownsRow_setCell_below hown' (a := ⟨w.heap.size, 0, none⟩) (by show w.heap.size < _; omega) u1
  have HB : Hid (Below w.heap.size w w1) := ((((Below.refl _ _).alloc (Nat.le_refl _) _).alloc (by simp) _).alloc (by simp; omega) _).grown hg1 (by simp; omega) (by intro k hk; cases hk; omega)
  clear hown hown' hg1 hs1 hf1 H
  go_wp2_with fail
  refine (ne_any _ l _ (own_nodes (HO.out _) HD.out.1 fun n hn => (HD.out.2 n hn).w)).mono ?_
  rintro e w2 ⟨rfl, hb2⟩
  rw [HK.out]
  have s0 : w2.cell? ⟨w.heap.size, 0, none⟩ = some (.slice a l.length cap) := (hb2.cell (p := ⟨w.heap.size, 0, none⟩) (by simp; omega)).trans (by simp [go_sem, hcv])
  have s1 : w2.cell? ⟨w.heap.size + 1, 0, none⟩ = some (.int .i64 0) := (hb2.cell (p := ⟨w.heap.size + 1, 0, none⟩) (by simp; omega)).trans (by simp [go_sem, hce])
  have t0 : w2.frozen? ⟨w.heap.size, 0, none⟩ = false := (hb2.frozen (p := ⟨w.heap.size, 0, none⟩) (by simp; omega)).trans (by simp [hfv])
  have t1 : w2.frozen? ⟨w.heap.size + 1, 0, none⟩ = false := (hb2.frozen (p := ⟨w.heap.size + 1, 0, none⟩) (by simp; omega)).trans (by simp [hfe])
  have o2 : w2.ownsRow (w.heap.size + 1 + 1 + 1) 87 3 (.slice a l.length cap) l.length (ndCells l) := (HO.out _).kept (grownBy_below (row := none) hb2) (by cases a with | none => exact Or.inl rfl | some x => exact Or.inr (by simp [Value.ownBlock]))
  have HO2 : Hid (∀ u2 u3 : Value, ((w2.setCell ⟨w.heap.size, 0, none⟩ u2).setCell ⟨w.heap.size + 1, 0, none⟩ u3).ownsRow w.heap.size 87 3 (.slice a l.length cap) l.length (ndCells l)) := fun u2 u3 =>
    own_mono (ownsRow_setCell_below (ownsRow_setCell_below o2 (a := ⟨w.heap.size, 0, none⟩) (by show w.heap.size < _; omega) u2) (a := ⟨w.heap.size + 1, 0, none⟩) (by show w.heap.size + 1 < _; omega) u3) (by omega)
  have HB2 : Hid (Below w.heap.size w w2) := (HB.out.setCell (p := ⟨w.heap.size, 0, none⟩) (Nat.le_refl _) _).trans (hb2.mono (by simp; omega))
  clear hb2 o2
  go_wp2
  refine leaves_cons (f := 147) (args := #[.pointer (some ⟨w.heap.size, 0, none⟩), .pointer (some ⟨w.heap.size + 1, 0, none⟩)]) (by simp) (by simp [go_sem]) ?_
  refine (catch_idle_d ⟨w.heap.size, 0, none⟩ ⟨w.heap.size + 1, 0, none⟩ _).mono ?_
  rintro e u' w'' ⟨rfl, rfl, rfl⟩
  have q0 : ((w2.setCell ⟨w.heap.size, 0, none⟩ (.slice a l.length cap))).cell? ⟨w.heap.size, 0, none⟩ = some (.slice a l.length cap) :=
    World.cell?_setCell_same' _ _ _ (by rw [s0]; rfl)
  have q1 : ((w2.setCell ⟨w.heap.size, 0, none⟩ (.slice a l.length cap)).setCell ⟨w.heap.size + 1, 0, none⟩ (.int .i64 0)).cell? ⟨w.heap.size + 1, 0, none⟩ = some (.int .i64 0) :=
    World.cell?_setCell_same' _ _ _ (by simp [go_sem, s1])
  simp [Leaves, settle, results, Tryz.results128, go_sem, q0, q1]
  exact ⟨HO2.out _ _, (HB2.out.setCell (p := ⟨w.heap.size, 0, none⟩) (Nat.le_refl _) _).setCell (p := ⟨w.heap.size + 1, 0, none⟩) (Nat.le_succ _) _⟩

set_option maxHeartbeats 1000000 in
theorem ReadNodes_pk (s : ByteArray) (w : World) (l : List Nd) (hs : s.size ≤ maxLen) (hok : neC l = 0) (h : s.data.toList = pk l.length ++ pkDD l) :
    Calls Tryz.prog 91 #[.string s] w fun e w' => ∃ v, e = .returned (.tuple #[v, .int .i64 0]) ∧ w'.ownsRow w.heap.size 87 3 v l.length (ndCells l) ∧ Below w.heap.size w w' := by
  have H : Hid (s.data.toList = pk l.length ++ (pkDD l ++ [])) := by show _ = _; rw [h]; simp
  have HK : Hid _ := hok
  clear h hok
  go_enter Tryz.func91, Tryz.ntmps91
  go_wp2_with fail
  refine (whole_nodes s w l hs HK.out H.out).mono ?_
  rintro e w1 ⟨v, rfl, h1, h2⟩
  go_wp2
  go_ret2
  exact ⟨v, rfl, h1, h2⟩
end Go.Proofs.YtkmlooepakinfaaGreatDoor

/- A directory in memory while it is packed. -/
namespace Go.Proofs.YtkmlooepakinfaaGreatDoor
open Go.RowKit Go.Shelf Go.Maps Go.WideMaps Go.Sort

theorem row_heap {w w' : World} {base : Nat} {e : TypeId} {size : Nat} {v : Value} {n : Nat} {xs : List Value} (h : w.ownsRow base e size v n xs) (hh : ∀ x, v.ownBlock = some x → w'.heap[x]? = w.heap[x]?) : w'.ownsRow base e size v n xs := by
  refine ⟨h.1, ?_⟩
  rcases h.2 with h2 | ⟨g, cap, cur, hv, hb, hg, r⟩
  · exact .inl h2
  · exact .inr ⟨g, cap, cur, hv, hb, (hh g (by rw [hv]; rfl)).trans hg, r⟩

def flCells (L : List Fl) : List Value := L.flatMap fun f => [.string f.pa, .string f.tx, .bool f.rn]
theorem flCells_get (L : List Fl) (j : Nat) (hj : j < L.length) : (flCells L)[j * 3]? = some (.string L[j].pa) ∧ (flCells L)[j * 3 + 1]? = some (.string L[j].tx) ∧ (flCells L)[j * 3 + 2]? = some (.bool L[j].rn) := by
  induction L generalizing j with
  | nil => simp at hj
  | cons f l ih =>
    have e : flCells (f :: l) = [.string f.pa, .string f.tx, .bool f.rn] ++ flCells l := rfl
    cases j with
    | zero => rw [e]; exact ⟨rfl, rfl, rfl⟩
    | succ j =>
      have h := ih j (by simpa using hj)
      rw [e, show (j + 1) * 3 = j * 3 + 3 by omega]
      exact ⟨by simpa using h.1, by simpa using h.2.1, by simpa using h.2.2⟩
theorem own_files {w : World} {base : Nat} {ao : Option Addr} {n cap : Nat} {L : List Fl} (h : w.ownsRow base 25 3 (.slice ao n cap) n (flCells L)) (hn : n = L.length) : IsFl w ao L := by
  have hcells := fun (g : Nat) (hg : (Value.slice ao n cap).ownBlock = some g) => h.cells hg
  rcases h.2 with ⟨h1, h2⟩ | ⟨g, cap, cur, hv, _, hh, _⟩
  · exact .inl (List.length_eq_zero_iff.1 (by omega))
  · injection hv with hv _ _
    subst hv
    refine .inr ⟨g, 0, rfl, (Array.getElem?_eq_some_iff.1 hh).1, fun j hj => ?_⟩
    have k := flCells_get L j hj
    have c0 := hcells g rfl _ _ k.1
    have c1 := hcells g rfl _ _ k.2.1
    have c2 := hcells g rfl _ _ k.2.2
    rw [addr_add] at c0 c1 c2
    exact ⟨c0, c1, c2⟩

/-- How a slice in a map reads: by where it lies. -/
def slcE (v : Value) : Option (DataW Unit × List MemPlace) := match v with
  | .slice none 0 0 => some (.nil, [])
  | .slice (some ⟨g, 0, none⟩) n c => some (.agg [.lit (.int .i64 (g : Int)), .lit (.int .i64 (n : Int)), .lit (.int .i64 (c : Int))], [])
  | _ => none
def slcD (g n c : Nat) : DataW Unit := .agg [.lit (.int .i64 (g : Int)), .lit (.int .i64 (n : Int)), .lit (.int .i64 (c : Int))]
theorem slcE_mk (g n c : Nat) : slcE (.slice (some ⟨g, 0, none⟩) n c) = some (slcD g n c, []) := rfl
theorem slcE_nil {v : Value} {ps : List MemPlace} (h : slcE v = some (.nil, ps)) : v = .slice none 0 0 := by
  unfold slcE at h
  split at h
  · rfl
  · injection h with h; injection h with h _; cases h
  · cases h
theorem slcE_inv {v : Value} {g n c : Nat} {ps : List MemPlace} (h : slcE v = some (slcD g n c, ps)) : v = .slice (some ⟨g, 0, none⟩) n c := by
  unfold slcE at h
  split at h
  · injection h with h; injection h with h _; cases h
  · rename_i g' n' c'
    injection h with h
    injection h with h _
    unfold slcD at h
    injection h with h
    injection h with h1 h
    injection h with h2 h
    injection h with h3 _
    injection h1 with h1; injection h1 with _ h1
    injection h2 with h2; injection h2 with _ h2
    injection h3 with h3; injection h3 with _ h3
    rw [show g' = g by omega, show n' = n by omega, show c' = c by omega]
  · cases h
theorem zeroS (w : World) : (zeroValue 22).run Tryz.prog w = .ok (.slice none 0 0) w := by kernel_rfl

/-- A map whose keys are texts, none twice. -/
def StrD (D : DataW Unit) : Prop := ∃ es, D = .map es ∧ (∀ p ∈ es, ∃ s, p.1 = Lit.string s) ∧ es.Pairwise (fun p q => p.1 ≠ q.1)
theorem ins_mem (x p : Lit × DataW Unit) : ∀ l : List (Lit × DataW Unit), p ∈ DataW.insert x l ↔ p = x ∨ p ∈ l
  | [] => by simp [DataW.insert]
  | y :: r => by
    show p ∈ (if x.1.before y.1 then x :: y :: r else y :: DataW.insert x r) ↔ _
    split
    · simp
    · rw [List.mem_cons, ins_mem x p r, List.mem_cons]
      constructor
      · rintro (h | h | h)
        · exact .inr (.inl h)
        · exact .inl h
        · exact .inr (.inr h)
      · rintro (h | h | h)
        · exact .inr (.inl h)
        · exact .inl h
        · exact .inr (.inr h)
theorem StrD.put {D : DataW Unit} (h : StrD D) (n : List UInt8) (d : DataW Unit) : StrD (D.put (.string n) d) := by
  obtain ⟨es, rfl, h1, h2⟩ := h
  have ht : Tidy (DataW.map es) := ⟨es, rfl, h2⟩
  obtain ⟨fs, e, h3⟩ := ht.put (k := .string n) (by exact trivial) d
  refine ⟨fs, e, fun p hp => ?_, h3⟩
  have e2 : (DataW.map es).put (.string n) d = .map (DataW.insert (.string n, d) (es.filter fun p => !p.1.sameKey (.string n))) := rfl
  rw [e2] at e
  injection e with e
  rw [← e] at hp
  rcases (ins_mem _ _ _).1 hp with rfl | hp
  · exact ⟨n, rfl⟩
  · exact h1 p (List.mem_filter.1 hp).1
theorem StrD.tidy {D : DataW Unit} (h : StrD D) : Tidy D := let ⟨es, e, _, h2⟩ := h; ⟨es, e, h2⟩
theorem StrD.keys {D : DataW Unit} (h : StrD D) : (strKeys D).Nodup ∧ ∀ n, n ∈ strKeys D ↔ Maps.has D (.string n) = true := by
  obtain ⟨es, rfl, h1, h2⟩ := h
  have hk : strKeys (DataW.map es) = es.map fun p => strOf p.1 := rfl
  rw [hk]
  constructor
  · refine List.pairwise_map.2 (List.Pairwise.imp_of_mem (fun {p q} hp hq hne e => ?_) h2)
    obtain ⟨s, hs⟩ := h1 p hp
    obtain ⟨t, ht⟩ := h1 q hq
    rw [hs, ht] at e
    exact hne (by rw [hs, ht, show s = t from e])
  · intro n
    rw [has_eq, List.any_eq_true, List.mem_map]
    constructor
    · rintro ⟨p, hp, rfl⟩
      obtain ⟨s, hs⟩ := h1 p hp
      refine ⟨p, hp, ?_⟩
      rw [hs]
      show (Lit.string s).sameKey (Lit.string s) = true
      simp [Lit.sameKey]
    · rintro ⟨p, hp, h⟩
      obtain ⟨s, hs⟩ := h1 p hp
      refine ⟨p, hp, ?_⟩
      rw [hs] at h ⊢
      rcases Decidable.em (s = n) with e | e
      · exact e
      · rw [sameKey_ne (fun h => e (by injection h))] at h
        cases h
theorem sorted_keys {L : List Fl} {D : DataW Unit} (h : StrD D) (hh : ∀ n, Maps.has D (.string n) = true ↔ n ∈ names L) {ss : List (List UInt8)} (hp : ss.Perm (strKeys D)) : ss.mergeSort (fun x y => decide (x ≤ y)) = names L := by
  obtain ⟨h1, h2⟩ := h.keys
  have hpn : (strKeys D).Perm (names L) := (List.perm_ext_iff_of_nodup h1 (names_nodup L)).2 fun n => (h2 n).trans (hh n)
  refine List.Perm.eq_of_pairwise (le := fun a b => decide (a ≤ b) = true) (fun a b _ _ h3 h4 => ?_) (List.pairwise_mergeSort (fun a b c h3 h4 => ?_) (fun a b => ?_) ss) ((names_up L).imp fun h => by rw [decide_eq_true_eq]; exact List.le_of_lt h) ((List.mergeSort_perm ss _).trans (hp.trans hpn))
  · rw [decide_eq_true_eq] at h3 h4; exact List.le_antisymm h3 h4
  · rw [decide_eq_true_eq] at *; exact List.le_trans h3 h4
  · rw [Bool.or_eq_true, decide_eq_true_eq, decide_eq_true_eq]; exact List.le_total _ _

/-- A directory while it is packed: nodes and texts that are there, the map of directories. -/
structure DS (B M : Nat) (D : DataW Unit) (g c : List UInt8 → Nat) (L : List Fl) (ns : List Nd) (bs : List ByteArray) (nv bv : Value) (w : World) : Prop where
  nodes : w.ownsRow B 87 3 nv ns.length (ndCells ns)
  blobs : w.ownsRow B 9 1 bv bs.length (bs.map Value.string)
  own : w.ownsMap Tryz.prog 9 slcE M L.length D
  str : StrD D
  has : ∀ n, Maps.has D (.string n) = true ↔ n ∈ names L
  get : ∀ n, n ∈ names L → D.atKey (.string n) .nil = slcD (g n) (sub n L).length (c n)
  rows : ∀ n, n ∈ names L → w.ownsRow B 25 3 (.slice (some ⟨g n, 0, none⟩) (sub n L).length (c n)) (sub n L).length (flCells (sub n L))
  aM : ∀ n, n ∈ names L → g n ≠ M
  aG : ∀ n, n ∈ names L → ∀ m, m ∈ names L → g n = g m → n = m
  vM : nv.ownBlock ≠ some M ∧ bv.ownBlock ≠ some M
  vG : ∀ n, n ∈ names L → nv.ownBlock ≠ some (g n) ∧ bv.ownBlock ≠ some (g n)
  vV : ∀ x, nv.ownBlock = some x → bv.ownBlock ≠ some x
  loM : B ≤ M

section
variable {B M : Nat} {D : DataW Unit} {g c : List UInt8 → Nat} {L : List Fl} {ns : List Nd} {bs : List ByteArray} {nv bv : Value} {w w' : World}

theorem DS.gl (h : DS B M D g c L ns bs nv bv w) {n : List UInt8} (hn : n ∈ names L) : B ≤ g n ∧ g n < w.heap.size := (h.rows n hn).lt (g n) rfl
theorem DS.keep (h : DS B M D g c L ns bs nv bv w) (hk : ∀ b, b < w.heap.size → w'.heap[b]? = w.heap[b]?) : DS B M D g c L ns bs nv bv w' :=
  ⟨row_heap h.nodes fun x hx => hk x (h.nodes.lt x hx).2, row_heap h.blobs fun x hx => hk x (h.blobs.lt x hx).2, ownsMap_heap h.own (hk M h.own.lt), h.str, h.has, h.get, fun n hn => row_heap (h.rows n hn) fun x hx => hk x ((h.rows n hn).lt x hx).2, h.aM, h.aG, h.vM, h.vG, h.vV, h.loM⟩
theorem DS.below (h : DS B M D g c L ns bs nv bv w) (hb : Below w.heap.size w w') : DS B M D g c L ns bs nv bv w' := h.keep hb.block

theorem DS.addN (h : DS B M D g c L ns bs nv bv w) (x : Nd) {G C : Nat} (hrow : w'.ownsRow B 87 3 (.slice (some ⟨G, 0, none⟩) (ns.length + 1) C) (ns.length + 1) (ndCells ns ++ [.string x.1, .int .i64 x.2.1, .string x.2.2])) (hg : w.grownBy w' nv.ownBlock) (hat : nv.ownBlock = some G ∨ w.heap.size ≤ G) :
    DS B M D g c L (ns ++ [x]) bs (.slice (some ⟨G, 0, none⟩) (ns.length + 1) C) bv w' := by
  have hk : ∀ b, b < w.heap.size → nv.ownBlock ≠ some b → w'.heap[b]? = w.heap[b]? := fun b hb hne => hg.block b hb (fun e => hne e.symm)
  have hne : ∀ b, b < w.heap.size → nv.ownBlock ≠ some b → G ≠ b := fun b hb h1 e => by
    rcases hat with h2 | h2
    · exact h1 (by rw [h2, e])
    · omega
  refine ⟨?_, row_heap h.blobs fun b hb => hk b (h.blobs.lt b hb).2 (fun e => h.vV b e hb), ownsMap_heap h.own (hk M h.own.lt h.vM.1), h.str, h.has, h.get, fun n hn => row_heap (h.rows n hn) fun b hb => ?_, h.aM, h.aG, ⟨fun e => hne M h.own.lt h.vM.1 (by injection e), h.vM.2⟩, fun n hn => ⟨fun e => hne _ (h.gl hn).2 (h.vG n hn).1 (by injection e), (h.vG n hn).2⟩, fun b hb e => ?_, h.loM⟩
  · rw [List.length_append]
    have e : ndCells (ns ++ [x]) = ndCells ns ++ [.string x.1, .int .i64 x.2.1, .string x.2.2] := by simp [ndCells]
    rw [e]
    exact hrow
  · have e : g n = b := by injection hb
    subst e
    exact hk _ (h.gl hn).2 (h.vG n hn).1
  · have e2 : G = b := by injection hb
    subst e2
    exact hne _ (h.blobs.lt _ e).2 (fun e3 => h.vV _ e3 e) rfl
theorem DS.addB (h : DS B M D g c L ns bs nv bv w) (xs : List ByteArray) {G C : Nat} (hrow : w'.ownsRow B 9 1 (.slice (some ⟨G, 0, none⟩) (bs.length + xs.length) C) (bs.length + xs.length) (bs.map Value.string ++ xs.map Value.string)) (hg : w.grownBy w' bv.ownBlock) (hat : bv.ownBlock = some G ∨ w.heap.size ≤ G) :
    DS B M D g c L ns (bs ++ xs) nv (.slice (some ⟨G, 0, none⟩) (bs.length + xs.length) C) w' := by
  have hk : ∀ b, b < w.heap.size → bv.ownBlock ≠ some b → w'.heap[b]? = w.heap[b]? := fun b hb hne => hg.block b hb (fun e => hne e.symm)
  have hne : ∀ b, b < w.heap.size → bv.ownBlock ≠ some b → G ≠ b := fun b hb h1 e => by
    rcases hat with h2 | h2
    · exact h1 (by rw [h2, e])
    · omega
  refine ⟨row_heap h.nodes fun b hb => hk b (h.nodes.lt b hb).2 (h.vV b hb), ?_, ownsMap_heap h.own (hk M h.own.lt h.vM.2), h.str, h.has, h.get, fun n hn => row_heap (h.rows n hn) fun b hb => ?_, h.aM, h.aG, ⟨h.vM.1, fun e => hne M h.own.lt h.vM.2 (by injection e)⟩, fun n hn => ⟨(h.vG n hn).1, fun e => hne _ (h.gl hn).2 (h.vG n hn).2 (by injection e)⟩, fun b hb e => ?_, h.loM⟩
  · rw [List.length_append, List.map_append]
    exact hrow
  · have e : g n = b := by injection hb
    subst e
    exact hk _ (h.gl hn).2 (h.vG n hn).2
  · have e2 : G = b := by injection e
    subst e2
    exact hne _ (h.nodes.lt _ hb).2 (h.vV _ hb) rfl

theorem sub_none {n : List UInt8} (h : n ∉ names L) : sub n L = [] := by
  unfold sub
  rw [List.map_eq_nil_iff, List.filter_eq_nil_iff]
  intro f hf h2
  rw [Bool.and_eq_true, decide_eq_true_eq] at h2
  exact h ((names_mem L n).2 ⟨f, hf, h2⟩)

/-- What the map has under a name. -/
theorem DS.look (h : DS B M D g c L ns bs nv bv w) (s : ByteArray) (hs : s.size ≤ maxLen) :
    ∃ ao ca, (∀ W : World, W.heap[M]? = w.heap[M]? → (Instr.lookup 82 (.map (some M)) (.string s) false).run Tryz.prog W = .ok (.slice ao (sub s.data.toList L).length ca) W) ∧ w.ownsRow B 25 3 (.slice ao (sub s.data.toList L).length ca) (sub s.data.toList L).length (flCells (sub s.data.toList L)) ∧ ((s.data.toList ∈ names L ∧ ao = some ⟨g s.data.toList, 0, none⟩ ∧ ca = c s.data.toList) ∨ (s.data.toList ∉ names L ∧ ao = none)) := by
  have each : ∀ W : World, W.heap[M]? = w.heap[M]? → ∃ v ps, (Instr.lookup 82 (.map (some M)) (.string s) false).run Tryz.prog W = .ok v W ∧ slcE v = some (D.atKey (.string s.data.toList) .nil, ps) := fun W hW => by
    obtain ⟨v, ps, h1, h2⟩ := (ownsMap_heap h.own hW).lookup lawS Tryz.underlying82 (zeroS W) (zd := .nil) (zp := []) rfl (keyOf_string_mk Tryz.underlying9 hs)
    exact ⟨v, ps, h1, h2⟩
  by_cases hn : s.data.toList ∈ names L
  · refine ⟨some ⟨g s.data.toList, 0, none⟩, c s.data.toList, fun W hW => ?_, h.rows _ hn, .inl ⟨hn, rfl, rfl⟩⟩
    obtain ⟨v, ps, h1, h2⟩ := each W hW
    rw [h.get _ hn] at h2
    rw [slcE_inv h2] at h1
    exact h1
  · rw [sub_none hn]
    refine ⟨none, 0, fun W hW => ?_, World.ownsRow_nil _ _ _ _, .inr ⟨hn, rfl⟩⟩
    obtain ⟨v, ps, h1, h2⟩ := each W hW
    rw [atKey_of_not_has (by rw [Bool.eq_false_iff]; exact fun e => hn ((h.has _).1 e))] at h2
    rw [slcE_nil h2] at h1
    exact h1
end
end Go.Proofs.YtkmlooepakinfaaGreatDoor

/- A directory in memory while it is packed: a file that lies in a directory of it. -/
namespace Go.Proofs.YtkmlooepakinfaaGreatDoor
open Go.RowKit Go.Shelf Go.Maps Go.WideMaps Go.Sort

theorem names_snoc (L : List Fl) (f : Fl) (m : List UInt8) : m ∈ names (L ++ [f]) ↔ m ∈ names L ∨ (deepF f = true ∧ hdF f = m) := by
  rw [names_mem, names_mem]
  constructor
  · rintro ⟨x, hx, h⟩
    rcases List.mem_append.1 hx with hx | hx
    · exact .inl ⟨x, hx, h⟩
    · rw [List.mem_singleton.1 hx] at h
      exact .inr h
  · rintro (⟨x, hx, h⟩ | h)
    · exact ⟨x, List.mem_append_left _ hx, h⟩
    · exact ⟨f, by simp, h⟩
def upd (g : List UInt8 → Nat) (n : List UInt8) (x : Nat) : List UInt8 → Nat := fun m => if m = n then x else g m
theorem upd_same (g : List UInt8 → Nat) (n : List UInt8) (x : Nat) : upd g n x n = x := if_pos rfl
theorem upd_other (g : List UInt8 → Nat) {n m : List UInt8} (x : Nat) (h : m ≠ n) : upd g n x m = g m := if_neg h

section
variable {B M : Nat} {D : DataW Unit} {g c : List UInt8 → Nat} {L : List Fl} {ns : List Nd} {bs : List ByteArray} {nv bv : Value} {w w1 w2 : World}

theorem DS.top (h : DS B M D g c L ns bs nv bv w) {f : Fl} (hf : deepF f = false) : DS B M D g c (L ++ [f]) ns bs nv bv w := by
  have hm : ∀ n, n ∈ names (L ++ [f]) ↔ n ∈ names L := fun n => by
    rw [names_snoc]
    constructor
    · rintro (h | ⟨h, _⟩)
      · exact h
      · rw [hf] at h; cases h
    · exact .inl
  have hs : ∀ n, sub n (L ++ [f]) = sub n L := fun n => by
    rw [sub_snoc, if_neg]
    rintro ⟨h, _⟩
    rw [hf] at h
    cases h
  refine ⟨h.nodes, h.blobs, h.own.mono (by simp), h.str, fun n => (h.has n).trans (hm n).symm, fun n hn => ?_, fun n hn => ?_, fun n hn => h.aM n ((hm n).1 hn), fun n hn m hm2 => h.aG n ((hm n).1 hn) m ((hm m).1 hm2), h.vM, fun n hn => h.vG n ((hm n).1 hn), h.vV, h.loM⟩
  · rw [hs]; exact h.get n ((hm n).1 hn)
  · rw [hs]; exact h.rows n ((hm n).1 hn)

theorem DS.put (h : DS B M D g c L ns bs nv bv w) {f : Fl} (hf : deepF f = true) {ao : Option Addr} {ca G C : Nat}
    (hl : (hdF f ∈ names L ∧ ao = some ⟨g (hdF f), 0, none⟩ ∧ ca = c (hdF f)) ∨ (hdF f ∉ names L ∧ ao = none))
    (hrow : w1.ownsRow B 25 3 (.slice (some ⟨G, 0, none⟩) ((sub (hdF f) L).length + 1) C) ((sub (hdF f) L).length + 1) (flCells (sub (hdF f) L) ++ [.string (subF f).pa, .string (subF f).tx, .bool (subF f).rn]))
    (hg : w.grownBy w1 (Value.slice ao (sub (hdF f) L).length ca).ownBlock) (hat : (Value.slice ao (sub (hdF f) L).length ca).ownBlock = some G ∨ w.heap.size ≤ G)
    (hown : w2.ownsMap Tryz.prog 9 slcE M (L.length + 1) (D.put (.string (hdF f)) (slcD G ((sub (hdF f) L).length + 1) C))) (hg2 : w1.grownBy w2 (some M)) :
    DS B M (D.put (.string (hdF f)) (slcD G ((sub (hdF f) L).length + 1) C)) (upd g (hdF f) G) (upd c (hdF f) C) (L ++ [f]) ns bs nv bv w2 := by
  have hm : ∀ n, n ∈ names (L ++ [f]) ↔ n ∈ names L ∨ hdF f = n := fun n => by
    rw [names_snoc]
    constructor
    · rintro (h | h)
      · exact .inl h
      · exact .inr h.2
    · rintro (h | h)
      · exact .inl h
      · exact .inr ⟨hf, h⟩
  have hob : ∀ x, (Value.slice ao (sub (hdF f) L).length ca).ownBlock = some x → hdF f ∈ names L ∧ x = g (hdF f) := fun x hx => by
    rcases hl with ⟨h1, h2, _⟩ | ⟨_, h2⟩
    · rw [h2] at hx
      exact ⟨h1, by injection hx with hx; exact hx.symm⟩
    · rw [h2] at hx
      cases hx
  have hk1 : ∀ b, b < w.heap.size → (hdF f ∈ names L → b ≠ g (hdF f)) → w1.heap[b]? = w.heap[b]? := fun b hb hne => hg.block b hb fun e => (hne (hob b e.symm).1) (hob b e.symm).2
  have hk : ∀ b, b < w.heap.size → (hdF f ∈ names L → b ≠ g (hdF f)) → b ≠ M → w2.heap[b]? = w.heap[b]? := fun b hb hne hM => (hg2.block b (Nat.lt_of_lt_of_le hb hg.size) (by simpa using hM)).trans (hk1 b hb hne)
  have hGM : G ≠ M := fun e => by
    rcases hat with h2 | h2
    · exact h.aM _ (hob _ h2).1 ((hob _ h2).2.symm.trans e)
    · have := h.own.lt; omega
  have hGe : ∀ b, b < w.heap.size → (hdF f ∈ names L → b ≠ g (hdF f)) → G ≠ b := fun b hb hne e => by
    rcases hat with h2 | h2
    · exact hne (hob _ h2).1 (e ▸ (hob _ h2).2)
    · omega
  have hdiff : ∀ n, n ∈ names L → n ≠ hdF f → (hdF f ∈ names L → g n ≠ g (hdF f)) := fun n hn hne h1 e => hne (h.aG n hn _ h1 e)
  have hold : ∀ n, n ∈ names (L ++ [f]) → n ≠ hdF f → n ∈ names L := fun n hn hne => by
    rcases (hm n).1 hn with h | h
    · exact h
    · exact absurd h.symm hne
  have hs1 : sub (hdF f) (L ++ [f]) = sub (hdF f) L ++ [subF f] := by rw [sub_snoc, if_pos ⟨hf, rfl⟩]
  have hs2 : ∀ n, n ≠ hdF f → sub n (L ++ [f]) = sub n L := fun n hne => by
    rw [sub_snoc, if_neg]
    rintro ⟨_, e⟩
    exact hne e.symm
  refine ⟨row_heap h.nodes fun b hb => hk b (h.nodes.lt b hb).2 (fun h1 e => (h.vG _ h1).1 (e ▸ hb)) (fun e => h.vM.1 (e ▸ hb)), row_heap h.blobs fun b hb => hk b (h.blobs.lt b hb).2 (fun h1 e => (h.vG _ h1).2 (e ▸ hb)) (fun e => h.vM.2 (e ▸ hb)), ?_, h.str.put _ _, fun n => ?_, fun n hn => ?_, fun n hn => ?_, fun n hn => ?_, fun n hn m hm2 e => ?_, h.vM, fun n hn => ?_, h.vV, h.loM⟩
  · rw [List.length_append]
    exact hown
  · rw [hm]
    by_cases e : n = hdF f
    · subst e
      rw [has_put_same h.str.tidy.isMap (by exact trivial)]
      simp
    · rw [has_put_other (fun e2 => e (by injection e2)), h.has]
      constructor
      · exact .inl
      · rintro (h | h)
        · exact h
        · exact absurd h.symm e
  · by_cases e : n = hdF f
    · subst e
      rw [atKey_put_same h.str.tidy.isMap (by exact trivial), upd_same, upd_same, hs1, List.length_append]
      rfl
    · rw [atKey_put_other (fun e2 => e (by injection e2)), upd_other _ _ e, upd_other _ _ e, hs2 n e]
      exact h.get n (hold n hn e)
  · by_cases e : n = hdF f
    · subst e
      rw [upd_same, upd_same, hs1, List.length_append]
      have e2 : flCells (sub (hdF f) L ++ [subF f]) = flCells (sub (hdF f) L) ++ [.string (subF f).pa, .string (subF f).tx, .bool (subF f).rn] := by simp [flCells]
      rw [e2]
      exact row_heap hrow fun b hb => hg2.block b (hrow.lt b hb).2 (by
        have : G = b := by injection hb
        rw [← this]
        simpa using hGM)
    · rw [upd_other _ _ e, upd_other _ _ e, hs2 n e]
      have hn2 := hold n hn e
      refine row_heap (h.rows n hn2) fun b hb => ?_
      have eb : g n = b := by injection hb
      subst eb
      exact hk _ (h.gl hn2).2 (hdiff n hn2 e) (h.aM n hn2)
  · by_cases e : n = hdF f
    · subst e; rw [upd_same]; exact hGM
    · rw [upd_other _ _ e]; exact h.aM n (hold n hn e)
  · by_cases e1 : n = hdF f
    · by_cases e2 : m = hdF f
      · rw [e1, e2]
      · exfalso
        rw [e1, upd_same, upd_other _ _ e2] at e
        have hm3 := hold m hm2 e2
        exact hGe _ (h.gl hm3).2 (hdiff m hm3 e2) e
    · by_cases e2 : m = hdF f
      · exfalso
        rw [e2, upd_same, upd_other _ _ e1] at e
        have hn3 := hold n hn e1
        exact hGe _ (h.gl hn3).2 (hdiff n hn3 e1) e.symm
      · rw [upd_other _ _ e1, upd_other _ _ e2] at e
        exact h.aG n (hold n hn e1) m (hold m hm2 e2) e
  · by_cases e : n = hdF f
    · subst e
      rw [upd_same]
      exact ⟨fun h2 => hGe G (h.nodes.lt G h2).2 (fun h3 h4 => (h.vG _ h3).1 (h4 ▸ h2)) rfl, fun h2 => hGe G (h.blobs.lt G h2).2 (fun h3 h4 => (h.vG _ h3).2 (h4 ▸ h2)) rfl⟩
    · rw [upd_other _ _ e]
      exact h.vG n (hold n hn e)
end
end Go.Proofs.YtkmlooepakinfaaGreatDoor

/- Arrays of numbers, as they lie in blocks. -/
namespace Go.Proofs.YtkmlooepakinfaaGreatDoor
open Go.RowKit

/-- An array of these numbers. -/
def nums (l : List Int) : List Value := l.map (Value.int .u32)
def arr (l : List Int) : Value := .agg (nums l).toArray
/-- It lies whole in block b, which is of type T. -/
def ArrAt (w : World) (b : Nat) (T : TypeId) (l : List Int) : Prop := w.heap[b]? = some (.cells (nums l).toArray T (0, 0))

theorem ArrAt.set {w : World} {b : Nat} {T : TypeId} {l : List Int} (h : ArrAt w b T l) (k : Nat) (v : Int) : ArrAt (w.setCell ⟨b, k, none⟩ (.int .u32 v)) b T (l.set k v) := by
  have := heap_setCell_same w b k _ T (.int .u32 v) h
  unfold ArrAt nums at *
  rw [this]
  congr 2
  apply Array.toList_inj.1
  simp [List.map_set]
theorem ArrAt.other {w : World} {b b' : Nat} {T : TypeId} {l : List Int} (h : ArrAt w b T l) (k : Nat) (v : Value) (hb : b ≠ b') : ArrAt (w.setCell ⟨b', k, none⟩ v) b T l := by
  unfold ArrAt at *
  rw [Below.heap_setCell w ⟨b', k, none⟩ v b hb]
  exact h
theorem ArrAt.cell {w : World} {b : Nat} {T : TypeId} {l : List Int} (h : ArrAt w b T l) (k : Nat) (hk : k < l.length) : w.cell? ⟨b, k, none⟩ = some (.int .u32 l[k]) := by
  rw [Lib.cell_of_heap h]
  simp [nums, hk]
theorem ArrAt.fro {w : World} {b : Nat} {T : TypeId} {l : List Int} (h : ArrAt w b T l) (k : Nat) : w.frozen? ⟨b, k, none⟩ = false := Lib.frozen_of_heap h k
theorem ArrAt.up {B : Nat} {w w' : World} {b : Nat} {T : TypeId} {l : List Int} (h : ArrAt w b T l) (hb : Below B w w') (hB : b < B) : ArrAt w' b T l := (hb.block b hB).trans h
theorem ArrAt.new (w : World) (T : TypeId) (l : List Int) : ArrAt (w.alloc (.cells (nums l).toArray T)) w.heap.size T l := heap_alloc_new w _

theorem take_set (l : List Int) (k : Nat) (v : Int) (hk : k < l.length) : (l.set k v).take (k + 1) = l.take k ++ [v] := by
  rw [List.take_succ_eq_append_getElem (by simpa using hk), List.getElem_set_self, List.take_set]
  congr 1
  exact List.set_eq_of_length_le (by rw [List.length_take]; omega)
theorem get_take (l m : List Int) (k j : Nat) (h : l.take k = m) (hj : j < k) (hl : j < l.length) : l[j] = m.getD j 0 := by
  rw [← h, List.getD, List.getElem?_take, if_pos hj, List.getElem?_eq_getElem hl]
  rfl

theorem nums_len (l : List Int) : (nums l).length = l.length := by simp [nums]
theorem ArrAt.range {w : World} {b : Nat} {T : TypeId} {l : List Int} (h : ArrAt w b T l) : w.rangeAt b 0 (nums l) := fun j v hv => by
  rw [Nat.zero_add, Lib.cell_of_heap h]
  simpa using hv
theorem ArrAt.there {w : World} {b : Nat} {T : TypeId} {l : List Int} (h : ArrAt w b T l) (n : Nat) (hn : n = l.length) : w.there b 0 n := fun j hj => by
  subst hn
  rw [Nat.zero_add]
  exact ⟨by rw [h.cell j hj]; rfl, h.fro j⟩
theorem nums_one (l : List Int) : (nums l).toArray.all (·.oneCell') = true := all_oneCell_toArray fun v hv => by
  obtain ⟨n, _, rfl⟩ := List.mem_map.1 hv
  rfl
theorem results_one {fn : Func} {p : Tmp} {ty : TypeId} {P : Program} {b : Nat} {v : Value} (h : fn.results = #[.cell p ty]) (tmps : Array Value) (w : World) (hp : tmps.getD p undef = .pointer (some ⟨b, 0, none⟩)) (hl : (loadVar ty ⟨b, 0, none⟩).run P w = .ok v w) : (results fn tmps).run P w = .ok v w := by
  have hp2 : tmps[p]?.getD undef = .pointer (some ⟨b, 0, none⟩) := by simpa using hp
  simp [results, h, hp2, hl, asAddr]
theorem below_setCells {B b : Nat} (hb : B ≤ b) : ∀ (vs : List Value) (o : Nat) {w w' : World}, Below B w w' → Below B w (w'.setCells b o vs)
  | [], _, _, _, h => h
  | v :: vs, o, _, _, h => below_setCells hb vs (o + 1) (h.setCell (p := ⟨b, o, none⟩) hb v)
theorem wpList_store_any {P : Program} {ops : Array Oper} {rest : List Oper} {op : Oper} {a : Act} {w : World} {Q : Exit → Act → World → Prop} (hgd : op.guard = none) (ty : TypeId) (x y : Operand) (ho : op.op = .store ty x y)
    (b o : Nat) (cells : Array Value) (hx : a.eval x = .pointer (some ⟨b, o, none⟩)) (hy : a.eval y = .agg cells)
    (ht : w.there b o cells.size) (hi : (P.info? ty).map (·.size) = some cells.size) (h1 : cells.all (·.oneCell') = true) (F : World → Prop) (hF : F (w.setCells b o cells.toList))
    (h : ∀ W, F W → wpList P ops Q rest (a.put op.dst undef) W) : wpList P ops Q (op :: rest) a w :=
  wpList_store_mid hgd ty x y ho b o cells hx hy ht hi h1 (h _ hF)
end Go.Proofs.YtkmlooepakinfaaGreatDoor

/- The digest's own sum: what each step of it does. -/
namespace Go.Proofs.YtkmlooepakinfaaGreatDoor
open Go.RowKit

def rotR (x : Int) (n : Nat) : Int := bits .or .u32 (IntKind.u32.wrap (x * 2 ^ (32 - n))) (x / 2 ^ n)

theorem rot_and : ∀ n : Nat, n < 32 → 1 ≤ n → bits .and .u64 (IntKind.u64.wrap (-(n : Int))) 31 = ((32 - n : Nat) : Int) := by decide

set_option maxHeartbeats 1000000 in
theorem rl_any (x : Int) (n : Nat) (w : World) (h1 : 1 ≤ n) (h2 : n ≤ 31) :
    Calls Tryz.prog 127 #[.int .u32 x, .int .i64 (-(n : Int))] w fun e w' => e = .returned (.int .u32 (rotR x n)) ∧ w' = w := by
  have hb := rot_and n (by omega) h1
  obtain ⟨m, hm⟩ : ∃ m, m = 32 - n := ⟨_, rfl⟩
  rw [← hm] at hb
  have hs1 : Op.shift .shl .u32 x .u64 (m : Int) = pure (.int .u32 (IntKind.u32.wrap (x * 2 ^ m))) := by
    rw [shift_shl _ _ _ _ (by omega) (by show (m : Int) ≤ 32; omega)]
    rfl
  have hs2 : Op.shift .shr .u32 x .u64 (n : Int) = pure (.int .u32 (x / 2 ^ n)) := by
    rw [shift_shr _ _ _ _ (by omega) (by show (n : Int) ≤ 32; omega)]
    rfl
  have hw : IntKind.u64.wrap (32 - (m : Int)) = n := by rw [IntKind.wrap_u64]; omega
  have HR : Hid (rotR x n = bits .or .u32 (IntKind.u32.wrap (x * 2 ^ m)) (x / 2 ^ n)) := by show _ = _; unfold rotR; rw [hm]
  clear hm h1 h2
  go_enter Tryz.func127, Tryz.ntmps127
  go_wp2
  go_ret
  exact ⟨by rw [HR.out]; rfl, rfl⟩

set_option maxHeartbeats 1000000 in
theorem turned_any (x : Int) (n : Nat) (w : World) (h1 : 1 ≤ n) (h2 : n ≤ 31) :
    Calls Tryz.prog 89 #[.int .u32 x, .int .i64 n] w fun e w' => e = .returned (.int .u32 (rotR x n)) ∧ w' = w := by
  have hw : IntKind.i64.wrap (-(n : Int)) = -(n : Int) := by rw [IntKind.wrap_i64]; omega
  go_enter Tryz.func89, Tryz.ntmps89
  go_wp2_with fail
  refine (rl_any x n w h1 h2).mono ?_
  rintro e w1 ⟨rfl, rfl⟩
  go_wp2
  go_ret
  exact ⟨rfl, rfl⟩

theorem below8 {B b : Nat} {w w' : World} (h : Below B w w') (hb : B ≤ b) (v0 v1 v2 v3 v4 v5 v6 v7 : Value) : Below B w ((((((((w'.setCell ⟨b, 0, none⟩ v0).setCell ⟨b, 1, none⟩ v1).setCell ⟨b, 2, none⟩ v2).setCell ⟨b, 3, none⟩ v3).setCell ⟨b, 4, none⟩ v4).setCell ⟨b, 5, none⟩ v5).setCell ⟨b, 6, none⟩ v6).setCell ⟨b, 7, none⟩ v7) :=
  (((((((h.setCell (p := ⟨b, 0, none⟩) hb _).setCell (p := ⟨b, 1, none⟩) hb _).setCell (p := ⟨b, 2, none⟩) hb _).setCell (p := ⟨b, 3, none⟩) hb _).setCell (p := ⟨b, 4, none⟩) hb _).setCell (p := ⟨b, 5, none⟩) hb _).setCell (p := ⟨b, 6, none⟩) hb _).setCell (p := ⟨b, 7, none⟩) hb _
theorem eight {l : List Int} (h : l.length = 8) : ∃ a0 a1 a2 a3 a4 a5 a6 a7, l = [a0, a1, a2, a3, a4, a5, a6, a7] := by
  match l, h with
  | [a0, a1, a2, a3, a4, a5, a6, a7], _ => exact ⟨a0, a1, a2, a3, a4, a5, a6, a7, rfl⟩

/-- The numbers of a variable of the program lie where they were laid. -/
def LaidAt (g : Nat) (w : World) (l : List Int) : Prop := ∀ j (hj : j < l.length), w.cell? ⟨g, j, none⟩ = some (.int .u32 l[j])
theorem LaidAt.up {g B : Nat} {w w' : World} {l : List Int} (h : LaidAt g w l) (hb : Below B w w') (hB : g < B) : LaidAt g w' l := fun j hj => (hb.cell (p := ⟨g, j, none⟩) hB).trans (h j hj)

set_option maxHeartbeats 4000000 in
set_option maxRecDepth 100000 in
theorem newState_any (w : World) (sq : List Int) (hl : sq.length = 8) (hg : LaidAt 0 w sq) :
    Calls Tryz.prog 54 #[] w fun e w' => e = .returned (arr sq) ∧ Below w.heap.size w w' := by
  have hz : 0 < w.heap.size := World.block_lt_of_cell? w ⟨0, 0, none⟩ (hg 0 (by omega))
  have HG : Hid _ := hg
  clear hg
  go_enter Tryz.func54, Tryz.ntmps54
  go_wp2
  go_loopw [3] (fun i wr => ∃ (k : Nat) (l : List Int), k ≤ 8 ∧ i = .int .i64 k ∧ l.length = 8 ∧ (∀ j (hj : j < sq.length) (hj' : j < l.length), j < k → l[j] = sq[j]) ∧ ArrAt wr (w.heap.size + 1) 96 l ∧ ArrAt wr w.heap.size 96 [0, 0, 0, 0, 0, 0, 0, 0] ∧ Below w.heap.size w wr) (fun i _ => 8 - (intOf i).toNat)
  case atStart =>
    refine ⟨0, [0, 0, 0, 0, 0, 0, 0, 0], by omega, rfl, rfl, by omega, ?_, ?_, ((Below.refl _ _).alloc (Nat.le_refl _) _).alloc (by simp) _⟩
    · have := ArrAt.new (w.alloc (.cells #[.int .u32 0, .int .u32 0, .int .u32 0, .int .u32 0, .int .u32 0, .int .u32 0, .int .u32 0, .int .u32 0] 96)) 96 [0, 0, 0, 0, 0, 0, 0, 0]
      rw [World.size_alloc] at this
      exact this
    · exact (ArrAt.new w 96 [0, 0, 0, 0, 0, 0, 0, 0]).up ((Below.refl (w.heap.size + 1) _).alloc (by simp) _) (Nat.lt_succ_self _)
  case round =>
    obtain ⟨k, l, hk, rfl, hll, hlo, hA, hR, hb⟩ := hrel
    have HLO : Hid _ := hlo
    have HA : Hid (ArrAt wr (w.heap.size + 1) 96 l) := hA
    have HR : Hid (ArrAt wr w.heap.size 96 [0, 0, 0, 0, 0, 0, 0, 0]) := hR
    have HB : Hid (Below w.heap.size w wr) := hb
    clear hlo hA hR hb
    by_cases hlt : k < 8
    · have c0 := LaidAt.up HG.out HB.out hz k (by omega)
      have c1 := HA.out.cell k (by omega)
      have c2 := HA.out.fro k
      have i2 : (k : Int) < 8 := by omega
      go_wp2
      refine ⟨⟨k + 1, l.set k sq[k], by omega, by go_num, by simpa using hll, fun j hj hj' hjk => ?_, HA.out.set k _, HR.out.other k _ (by omega), HB.out.setCell (p := ⟨w.heap.size + 1, k, none⟩) (Nat.le_succ _) _⟩, by simp [intOf]; omega⟩
      rw [List.getElem_set]
      by_cases h : k = j
      · subst h; simp
      · rw [if_neg h]
        exact HLO.out j hj (by simpa using hj') (by omega)
    · obtain rfl : k = 8 := by omega
      obtain rfl : l = sq := List.ext_getElem (by omega) fun j h1 h2 => HLO.out j h2 h1 (by omega)
      obtain ⟨a0, a1, a2, a3, a4, a5, a6, a7, rfl⟩ := eight hl
      have c0 := HA.out.cell 0 (by simp)
      have c1 := HA.out.cell 1 (by simp)
      have c2 := HA.out.cell 2 (by simp)
      have c3 := HA.out.cell 3 (by simp)
      have c4 := HA.out.cell 4 (by simp)
      have c5 := HA.out.cell 5 (by simp)
      have c6 := HA.out.cell 6 (by simp)
      have c7 := HA.out.cell 7 (by simp)
      have z0 := HR.out.cell 0 (by decide)
      have f0 := HR.out.fro 0
      have z1 := HR.out.cell 1 (by decide)
      have f1 := HR.out.fro 1
      have z2 := HR.out.cell 2 (by decide)
      have f2 := HR.out.fro 2
      have z3 := HR.out.cell 3 (by decide)
      have f3 := HR.out.fro 3
      have z4 := HR.out.cell 4 (by decide)
      have f4 := HR.out.fro 4
      have z5 := HR.out.cell 5 (by decide)
      have f5 := HR.out.fro 5
      have z6 := HR.out.cell 6 (by decide)
      have f6 := HR.out.fro 6
      have z7 := HR.out.cell 7 (by decide)
      have f7 := HR.out.fro 7
      simp only [List.getElem_cons_zero, List.getElem_cons_succ] at c0 c1 c2 c3 c4 c5 c6 c7 z0 z1 z2 z3 z4 z5 z6 z7
      go_wp2
      refine bodyPost_ret (v := arr [a0, a1, a2, a3, a4, a5, a6, a7]) (by simp [results, Tryz.results54, go_sem, z0, z1, z2, z3, z4, z5, z6, z7, arr, nums]) rfl ⟨rfl, below8 HB.out (Nat.le_refl _) _ _ _ _ _ _ _ _⟩
end Go.Proofs.YtkmlooepakinfaaGreatDoor

/- What the digest's own words of a block are. -/
namespace Go.Proofs.YtkmlooepakinfaaGreatDoor
open Go.RowKit

def zeros : List Int := List.replicate 64 0
def be4 (c0 c1 c2 c3 : Int) : Int := bits .or .u32 (bits .or .u32 (bits .or .u32 (c0 % 4294967296 * 16777216 % 4294967296) (c1 % 4294967296 * 65536 % 4294967296)) (c2 % 4294967296 * 256 % 4294967296)) (c3 % 4294967296)
def sig0 (x : Int) : Int := bits .xor .u32 (bits .xor .u32 (rotR x 7) (rotR x 18)) (x / 8)
def sig1 (x : Int) : Int := bits .xor .u32 (bits .xor .u32 (rotR x 17) (rotR x 19)) (x / 1024)
def byteAt (s : ByteArray) (k : Nat) : Int := ((s.data.toList.getD k 0).toNat : Int)
/-- The word k, of those ahead of it. -/
def wnext (s : ByteArray) (l : List Int) (k : Nat) : Int :=
  if k < 16 then be4 (byteAt s (4 * k)) (byteAt s (4 * k + 1)) (byteAt s (4 * k + 2)) (byteAt s (4 * k + 3))
  else (l.getD (k - 16) 0 + sig0 (l.getD (k - 15) 0) + l.getD (k - 7) 0 + sig1 (l.getD (k - 2) 0)) % 4294967296
def ws (s : ByteArray) : Nat → List Int
  | 0 => []
  | k + 1 => ws s k ++ [wnext s (ws s k) k]
theorem ws_len (s : ByteArray) (k : Nat) : (ws s k).length = k := by
  induction k with
  | zero => rfl
  | succ k ih => simp [ws, ih]
theorem byteAt_get (s : ByteArray) (k : Nat) (hk : k < s.size) : byteAt s k = (s[k].toNat : Int) := by
  unfold byteAt
  have h : k < s.data.toList.length := by rw [Array.length_toList]; exact hk
  rw [List.getD, List.getElem?_eq_getElem h]
  rfl
theorem info64 : (Tryz.prog.info? 128).map (·.size) = some 64 := by kernel_rfl

set_option maxHeartbeats 4000000 in
set_option maxRecDepth 100000 in
theorem words_any (w : World) (s : ByteArray) (hs : s.size = 64) :
    Calls Tryz.prog 88 #[.string s] w fun e w' => e = .returned (arr (ws s 64)) ∧ Below w.heap.size w w' := by
  have HS : Hid (s.size = 64) := hs
  clear hs
  go_enter Tryz.func88, Tryz.ntmps88
  go_wp2
  go_loopw [10] (fun i wr => ∃ (k : Nat) (l : List Int), k ≤ 16 ∧ i = .int .i64 k ∧ l.length = 64 ∧ l.take k = ws s k ∧ ArrAt wr (w.heap.size + 1) 128 l ∧ ArrAt wr w.heap.size 128 zeros ∧ Below w.heap.size w wr) (fun i _ => 16 - (intOf i).toNat)
  case atStart =>
    refine ⟨0, zeros, by omega, rfl, rfl, rfl, ?_, ?_, ((Below.refl _ _).alloc (Nat.le_refl _) _).alloc (by simp) _⟩
    · have := ArrAt.new (w.alloc (.cells (nums zeros).toArray 128)) 128 zeros
      rw [World.size_alloc] at this
      exact this
    · exact (ArrAt.new w 128 zeros).up ((Below.refl (w.heap.size + 1) _).alloc (by simp) _) (Nat.lt_succ_self _)
  case round =>
    obtain ⟨k, l, hk, rfl, hll, htk, hA, hR, hb⟩ := hrel
    have HT : Hid _ := htk
    have HA : Hid (ArrAt wr (w.heap.size + 1) 128 l) := hA
    have HR : Hid (ArrAt wr w.heap.size 128 zeros) := hR
    have HB : Hid (Below w.heap.size w wr) := hb
    clear htk hA hR hb
    by_cases hlt : k < 16
    · have c1 := HA.out.cell k (by omega)
      have c2 := HA.out.fro k
      have i2 : (k : Int) < 16 := by omega
      have j0 : IntKind.i64.wrap (4 * (k : Int)) = 4 * (k : Int) := by rw [IntKind.wrap_i64]; omega
      have j1 : IntKind.i64.wrap (4 * (k : Int) + 1) = 4 * (k : Int) + 1 := by rw [IntKind.wrap_i64]; omega
      have j2 : IntKind.i64.wrap (4 * (k : Int) + 2) = 4 * (k : Int) + 2 := by rw [IntKind.wrap_i64]; omega
      have j3 : IntKind.i64.wrap (4 * (k : Int) + 3) = 4 * (k : Int) + 3 := by rw [IntKind.wrap_i64]; omega
      have b0 : (0 : Int) ≤ 4 * (k : Int) := by omega
      have b1 : (0 : Int) ≤ 4 * (k : Int) + 1 := by omega
      have b2 : (0 : Int) ≤ 4 * (k : Int) + 2 := by omega
      have b3 : (0 : Int) ≤ 4 * (k : Int) + 3 := by omega
      have d0 : 4 * (k : Int) < s.size := by have := HS.out; omega
      have d1 : 4 * (k : Int) + 1 < s.size := by have := HS.out; omega
      have d2 : 4 * (k : Int) + 2 < s.size := by have := HS.out; omega
      have d3 : 4 * (k : Int) + 3 < s.size := by have := HS.out; omega
      have t0 : (4 * (k : Int)).toNat = 4 * k := by omega
      have t1 : (4 * (k : Int) + 1).toNat = 4 * k + 1 := by omega
      have t2 : (4 * (k : Int) + 2).toNat = 4 * k + 2 := by omega
      have t3 : (4 * (k : Int) + 3).toNat = 4 * k + 3 := by omega
      go_wp2
      go_region
      go_wp2
      refine ⟨⟨k + 1, l.set k (wnext s (ws s k) k), by omega, by go_num, by simpa using hll, ?_, ?_, ?_, ?_⟩, by simp [intOf]; omega⟩
      · rw [take_set l k _ (by omega), HT.out]; rfl
      · have hv : wnext s (ws s k) k = be4 (s[4 * k].toNat : Int) (s[4 * k + 1].toNat : Int) (s[4 * k + 2].toNat : Int) (s[4 * k + 3].toNat : Int) := by
          unfold wnext
          rw [if_pos hlt, byteAt_get s _ (by omega), byteAt_get s _ (by omega), byteAt_get s _ (by omega), byteAt_get s _ (by omega)]
        rw [hv]
        exact HA.out.set k _
      · exact HR.out.other k _ (by omega)
      · exact (HB.out.setCell (p := ⟨w.heap.size + 1, k, none⟩) (Nat.le_succ _) _).drew
    · have HK : Hid (k = 16) := by show _ = _; omega
      have i3 : (16 : Int) ≤ (k : Int) := by omega
      go_wp2
      go_loopw [5] (fun i wr => ∃ (k : Nat) (l : List Int), 16 ≤ k ∧ k ≤ 64 ∧ i = .int .i64 k ∧ l.length = 64 ∧ l.take k = ws s k ∧ ArrAt wr (w.heap.size + 1) 128 l ∧ ArrAt wr w.heap.size 128 zeros ∧ Below w.heap.size w wr) (fun i _ => 64 - (intOf i).toNat)
      case atStart => exact ⟨16, l, by omega, by omega, rfl, hll, by have := HT.out; rwa [HK.out] at this, HA.out, HR.out, HB.out⟩
      case round =>
        clear hll HT HA HR HB HK
        obtain ⟨k, l, hk0, hk, rfl, hll, htk, hA, hR, hb⟩ := hrel
        have HT : Hid (l.take k = ws s k) := htk
        have HR : Hid (ArrAt _ w.heap.size 128 zeros) := hR
        have HB : Hid (Below w.heap.size w _) := hb
        have HA : Hid (ArrAt _ (w.heap.size + 1) 128 l) := hA
        clear htk hA hR hb
        by_cases hlt : k < 64
        · have i2 : (k : Int) < 64 := by omega
          have c0 := HA.out.cell k (by omega)
          have f0 := HA.out.fro k
          have c1 := HA.out.cell (k - 15) (by omega)
          have c2 := HA.out.cell (k - 2) (by omega)
          have c3 := HA.out.cell (k - 16) (by omega)
          have c4 := HA.out.cell (k - 7) (by omega)
          rw [get_take l _ k _ HT.out (by omega)] at c1 c2 c3 c4
          have j1 : IntKind.i64.wrap ((k : Int) - 15) = (k : Int) - 15 := by rw [IntKind.wrap_i64]; omega
          have j2 : IntKind.i64.wrap ((k : Int) - 2) = (k : Int) - 2 := by rw [IntKind.wrap_i64]; omega
          have j3 : IntKind.i64.wrap ((k : Int) - 16) = (k : Int) - 16 := by rw [IntKind.wrap_i64]; omega
          have j4 : IntKind.i64.wrap ((k : Int) - 7) = (k : Int) - 7 := by rw [IntKind.wrap_i64]; omega
          have b1 : (0 : Int) ≤ (k : Int) - 15 := by omega
          have b2 : (0 : Int) ≤ (k : Int) - 2 := by omega
          have b3 : (0 : Int) ≤ (k : Int) - 16 := by omega
          have b4 : (0 : Int) ≤ (k : Int) - 7 := by omega
          have d1 : (k : Int) - 15 < 64 := by omega
          have d2 : (k : Int) - 2 < 64 := by omega
          have d3 : (k : Int) - 16 < 64 := by omega
          have d4 : (k : Int) - 7 < 64 := by omega
          have t1 : ((k : Int) - 15).toNat = k - 15 := by omega
          have t2 : ((k : Int) - 2).toNat = k - 2 := by omega
          have t3 : ((k : Int) - 16).toNat = k - 16 := by omega
          have t4 : ((k : Int) - 7).toNat = k - 7 := by omega
          generalize hx1 : (ws s k).getD (k - 15) 0 = x1 at c1
          generalize hx2 : (ws s k).getD (k - 2) 0 = x2 at c2
          generalize hx3 : (ws s k).getD (k - 16) 0 = x3 at c3
          generalize hx4 : (ws s k).getD (k - 7) 0 = x4 at c4
          have HV : Hid (wnext s (ws s k) k = (x3 + sig0 x1 + x4 + sig1 x2) % 4294967296) := by
            show _ = _
            unfold wnext
            rw [if_neg (by omega), hx1, hx2, hx3, hx4]
          clear hx1 hx2 hx3 hx4
          go_wp2
          go_region
          go_wp2_with fail
          refine (turned_any x1 7 _ (by decide) (by decide)).mono ?_
          rintro e w1 ⟨rfl, rfl⟩
          go_wp2_with fail
          refine (turned_any x1 18 _ (by decide) (by decide)).mono ?_
          rintro e w1 ⟨rfl, rfl⟩
          go_wp2_with fail
          refine (turned_any x2 17 _ (by decide) (by decide)).mono ?_
          rintro e w1 ⟨rfl, rfl⟩
          go_wp2_with fail
          refine (turned_any x2 19 _ (by decide) (by decide)).mono ?_
          rintro e w1 ⟨rfl, rfl⟩
          go_wp2
          go_region
          go_wp2
          refine ⟨⟨k + 1, l.set k (wnext s (ws s k) k), by omega, by omega, by go_num, by simpa using hll, ?_, ?_, ?_, ?_⟩, by simp [intOf]; omega⟩
          · rw [take_set l k _ (by omega), HT.out]; rfl
          · rw [HV.out]
            exact HA.out.set k _
          · exact HR.out.other k _ (by omega)
          · exact (HB.out.setCell (p := ⟨w.heap.size + 1, k, none⟩) (Nat.le_succ _) _).drew.drew
        · obtain rfl : k = 64 := by omega
          have HL : Hid (l = ws s 64) := by show _ = _; rw [← HT.out, List.take_of_length_le (by omega)]
          have hth := HR.out.there 64 rfl
          have HB6 : Hid (Below w.heap.size w (wr.setCells w.heap.size 0 (nums l))) := below_setCells (Nat.le_refl _) _ _ HB.out
          have hrs : (loadVar 128 ⟨w.heap.size, 0, none⟩).run Tryz.prog (wr.setCells w.heap.size 0 (nums l)) = .ok (.agg (nums l).toArray) (wr.setCells w.heap.size 0 (nums l)) :=
            run_loadVar_mid _ w.heap.size 0 128 (nums l) _ (World.rangeAt_setCells_same _ _ _ _ (HR.out.there _ (by rw [nums_len, hll]; rfl))) Tryz.underlying128 rfl (by rw [info64, nums_len, hll])
          have HTH : Hid (wr.there w.heap.size 0 64) := hth
          have HRS : Hid _ := hrs
          have HI : Hid ((Tryz.prog.info? 128).map (·.size) = some (nums l).length ∧ (nums l).toArray.size = 64) := ⟨by rw [info64, nums_len, hll], by rw [List.size_toArray, nums_len, hll]⟩
          have HRG : Hid (wr.rangeAt (w.heap.size + 1) 0 (nums l)) := HA.out.range
          have HON : Hid ((nums l).toArray.all (·.oneCell') = true) := nums_one l
          clear hrs hth HA HR HT HB
          generalize hcs : nums l = cs at HB6 HRS HI HRG HON
          have HCS : Hid (nums l = cs) := hcs
          clear hcs
          go_wp2_with (first
            | (refine wpList_load_mid rfl 128 (Operand.tmp 3) rfl (w.heap.size + 1) 0 rfl cs _ HRG.out Tryz.underlying128 rfl HI.out.1 ?_)
            | (refine wpList_store_mid rfl 128 (Operand.tmp 2) (Operand.tmp 88) rfl w.heap.size 0 cs.toArray rfl rfl (by rw [HI.out.2]; exact HTH.out) (by rw [info64, HI.out.2]) HON.out ?_))
          refine bodyPost_ret (v := .agg cs.toArray) (results_one Tryz.results88 _ _ rfl HRS.out) rfl ⟨?_, HB6.out⟩
          rw [← HL.out]
          exact congrArg (fun c : List Value => Ending.returned (.agg c.toArray)) HCS.out.symm
end Go.Proofs.YtkmlooepakinfaaGreatDoor

/- An element of an array of eight numbers. -/
namespace Go.Proofs.YtkmlooepakinfaaGreatDoor
open Go.RowKit

theorem ix8 (b0 b1 b2 b3 b4 b5 b6 b7 : Int) (j : Nat) (hj : j < 8) (v : Value) (hv : ([.int .u32 b0, .int .u32 b1, .int .u32 b2, .int .u32 b3, .int .u32 b4, .int .u32 b5, .int .u32 b6, .int .u32 b7] : List Value)[j]? = some v) (W : World) : (Instr.index 96 (.agg #[.int .u32 b0, .int .u32 b1, .int .u32 b2, .int .u32 b3, .int .u32 b4, .int .u32 b5, .int .u32 b6, .int .u32 b7]) (.int .i64 j)).run Tryz.prog W = .ok v W := by
  have h1 : (j : Int) < 8 := by omega
  have h2 : (0 : Int) ≤ (j : Int) := by omega
  simp only [Instr.index, asIntOf, Sem.run_bind, Sem.run_pure, Result.andThen_ok, run_underlying Tryz.underlying96]
  rw [if_pos ⟨h2, h1⟩]
  simp [part, Tryz.isAgg95, Tryz.sizeOf95, hv]
end Go.Proofs.YtkmlooepakinfaaGreatDoor

/- What the digest's own mixing of a block does. -/
namespace Go.Proofs.YtkmlooepakinfaaGreatDoor
open Go.RowKit

structure S8 where
  (a b c d e f g h : Int)
def S8.l (s : S8) : List Int := [s.a, s.b, s.c, s.d, s.e, s.f, s.g, s.h]
def big0 (x : Int) : Int := bits .xor .u32 (bits .xor .u32 (rotR x 2) (rotR x 13)) (rotR x 22)
def big1 (x : Int) : Int := bits .xor .u32 (bits .xor .u32 (rotR x 6) (rotR x 11)) (rotR x 25)
def ch (e f g : Int) : Int := bits .xor .u32 (bits .and .u32 e f) (bits .and .u32 (bits .xor .u32 IntKind.u32.max e) g)
def maj (a b c : Int) : Int := bits .xor .u32 (bits .xor .u32 (bits .and .u32 a b) (bits .and .u32 a c)) (bits .and .u32 b c)
/-- One round, with its K and its word. -/
def S8.u (s : S8) (k v : Int) : Int := (s.h + big1 s.e + ch s.e s.f s.g + k + v) % 4294967296
def S8.step (s : S8) (k v : Int) : S8 := ⟨(s.u k v + (big0 s.a + maj s.a s.b s.c) % 4294967296) % 4294967296, s.a, s.b, s.c, (s.d + s.u k v) % 4294967296, s.e, s.f, s.g⟩
def rounds8 (wl ks : List Int) : Nat → S8 → S8
  | 0, s => s
  | n + 1, s => (rounds8 wl ks n s).step (ks.getD n 0) (wl.getD n 0)
/-- The state behind a block. -/
def mixS (q : S8) (s : ByteArray) (ks : List Int) : S8 :=
  ⟨(q.a + (rounds8 (ws s 64) ks 64 q).a) % 4294967296, (q.b + (rounds8 (ws s 64) ks 64 q).b) % 4294967296, (q.c + (rounds8 (ws s 64) ks 64 q).c) % 4294967296, (q.d + (rounds8 (ws s 64) ks 64 q).d) % 4294967296, (q.e + (rounds8 (ws s 64) ks 64 q).e) % 4294967296, (q.f + (rounds8 (ws s 64) ks 64 q).f) % 4294967296, (q.g + (rounds8 (ws s 64) ks 64 q).g) % 4294967296, (q.h + (rounds8 (ws s 64) ks 64 q).h) % 4294967296⟩
abbrev S8.v (q : S8) : Value := .agg #[.int .u32 q.a, .int .u32 q.b, .int .u32 q.c, .int .u32 q.d, .int .u32 q.e, .int .u32 q.f, .int .u32 q.g, .int .u32 q.h]
/-- What lies where the rounds begin: the words in block p, K. -/
def Reads (w : World) (p : Nat) (wl ks : List Int) : Prop := (∀ j (hj : j < wl.length), w.cell? ⟨p, j, none⟩ = some (.int .u32 wl[j])) ∧ LaidAt 1 w ks

/-- What lies there when the rounds begin. -/
def Mix (w : World) (p : Nat) (wl ks l : List Int) (W : World) : Prop := Reads W p wl ks ∧ ArrAt W w.heap.size 96 l ∧ ArrAt W (w.heap.size + 1) 96 [0, 0, 0, 0, 0, 0, 0, 0] ∧ Below w.heap.size w W ∧ p < W.heap.size

/-- Of these numbers the first j are added. -/
def Added (x y : List Int) (j : Nat) (l : List Int) : Prop := l.length = 8 ∧ ∀ t, l.getD t 0 = if t < j then (x.getD t 0 + y.getD t 0) % 4294967296 else x.getD t 0
theorem Added.zero (x y : List Int) (h : x.length = 8) : Added x y 0 x := ⟨h, fun t => by rw [if_neg (by omega)]⟩
theorem Added.step {x y l : List Int} {j : Nat} (h : Added x y j l) (hj : j < l.length) (_ : x.length = 8) : Added x y (j + 1) (l.set j ((l[j] + y.getD j 0) % 4294967296)) := by
  refine ⟨by simpa using h.1, fun t => ?_⟩
  have ht := h.2 t
  have hjj := h.2 j
  rw [if_neg (by omega), List.getD_eq_getElem?_getD, List.getElem?_eq_getElem hj, Option.getD_some] at hjj
  by_cases e : t = j
  · subst e
    rw [if_pos (by omega), List.getD_eq_getElem?_getD, List.getElem?_set_self hj, Option.getD_some, hjj]
  · rw [List.getD_eq_getElem?_getD, List.getElem?_set_ne (by omega), ← List.getD_eq_getElem?_getD, ht]
    by_cases e2 : t < j
    · rw [if_pos e2, if_pos (by omega)]
    · rw [if_neg e2, if_neg (by omega)]
theorem Added.done {x y l : List Int} (h : Added x y 8 l) (hx : x.length = 8) (hy : y.length = 8) : List.zipWith (fun a b => (a + b) % 4294967296) x y = l := by
  refine List.ext_getElem (by rw [List.length_zipWith, h.1]; omega) fun t h1 h2 => ?_
  have := h.2 t
  have h8 := h.1
  rw [if_pos (by omega), List.getD_eq_getElem?_getD, List.getD_eq_getElem?_getD, List.getD_eq_getElem?_getD, List.getElem?_eq_getElem h2, List.getElem?_eq_getElem (by omega), List.getElem?_eq_getElem (by omega)] at this
  simp at this
  rw [List.getElem_zipWith, this]
theorem nums_at (l : List Int) (j : Nat) (hj : j < l.length) : (nums l)[j]? = some (.int .u32 (l.getD j 0)) := by
  simp [nums, hj]

set_option maxHeartbeats 40000000 in
set_option maxRecDepth 100000 in
theorem mixed_any (w : World) (s : ByteArray) (q : S8) (ks : List Int) (hs : s.size = 64) (hk : ks.length = 64) (hg : LaidAt 1 w ks) :
    Calls Tryz.prog 55 #[.agg #[.int .u32 q.a, .int .u32 q.b, .int .u32 q.c, .int .u32 q.d, .int .u32 q.e, .int .u32 q.f, .int .u32 q.g, .int .u32 q.h], .string s] w fun e w' => e = .returned (mixS q s ks).v ∧ Below w.heap.size w w' := by
  obtain ⟨a, b, c, d, e, f, g, h⟩ := q
  have hz : 1 < w.heap.size := World.block_lt_of_cell? w ⟨1, 0, none⟩ (hg 0 (by omega))
  have HG : Hid (LaidAt 1 w ks) := hg
  have a0 : ArrAt ((w.alloc (.cells (nums [a, b, c, d, e, f, g, h]).toArray 96)).alloc (.cells (nums [0, 0, 0, 0, 0, 0, 0, 0]).toArray 96)) w.heap.size 96 [a, b, c, d, e, f, g, h] := (ArrAt.new w _ _).up ((Below.refl (w.heap.size + 1) _).alloc (by simp) _) (Nat.lt_succ_self _)
  have r0 : ArrAt ((w.alloc (.cells (nums [a, b, c, d, e, f, g, h]).toArray 96)).alloc (.cells (nums [0, 0, 0, 0, 0, 0, 0, 0]).toArray 96)) (w.heap.size + 1) 96 [0, 0, 0, 0, 0, 0, 0, 0] := by
    have := ArrAt.new (w.alloc (.cells (nums [a, b, c, d, e, f, g, h]).toArray 96)) 96 [0, 0, 0, 0, 0, 0, 0, 0]
    rw [World.size_alloc] at this
    exact this
  have A0 : Hid _ := a0
  have R0 : Hid _ := r0
  have B0 : Hid (Below w.heap.size w ((w.alloc (.cells (nums [a, b, c, d, e, f, g, h]).toArray 96)).alloc (.cells (nums [0, 0, 0, 0, 0, 0, 0, 0]).toArray 96))) := ((Below.refl _ _).alloc (Nat.le_refl _) _).alloc (by simp) _
  clear hg a0 r0
  go_enter Tryz.func55, Tryz.ntmps55
  go_wp2_with fail
  refine (words_any _ s hs).mono ?_
  rintro e1 w1 ⟨rfl, hb1⟩
  have hwl := ws_len s 64
  have hmx : ∀ r : S8, r = rounds8 (ws s 64) ks 64 ⟨a, b, c, d, e, f, g, h⟩ → (mixS ⟨a, b, c, d, e, f, g, h⟩ s ks).v = .agg #[.int .u32 ((a + r.a) % 4294967296), .int .u32 ((b + r.b) % 4294967296), .int .u32 ((c + r.c) % 4294967296), .int .u32 ((d + r.d) % 4294967296), .int .u32 ((e + r.e) % 4294967296), .int .u32 ((f + r.f) % 4294967296), .int .u32 ((g + r.g) % 4294967296), .int .u32 ((h + r.h) % 4294967296)] := by
    rintro r rfl
    rfl
  generalize ws s 64 = wl at hwl hmx
  have HMX : Hid _ := hmx
  clear hmx
  have z1 : w.heap.size + 2 ≤ w1.heap.size := by have := hb1.size; simp at this; omega
  have A1 : Hid (ArrAt w1 w.heap.size 96 [a, b, c, d, e, f, g, h]) := ArrAt.up A0.out hb1 (by simp; omega)
  have R1 : Hid (ArrAt w1 (w.heap.size + 1) 96 [0, 0, 0, 0, 0, 0, 0, 0]) := ArrAt.up R0.out hb1 (by simp)
  have B1 : Hid (Below w.heap.size w w1) := B0.out.trans (hb1.mono (by simp; omega))
  clear hb1
  have HI : Hid ((nums wl).toArray.size = 64 ∧ (Tryz.prog.info? 128).map (·.size) = some (nums wl).toArray.size) := ⟨by rw [List.size_toArray, nums_len, hwl], by rw [info64, List.size_toArray, nums_len, hwl]⟩
  have HTH : Hid ((w1.alloc (.cells (nums zeros).toArray 128)).there w1.heap.size 0 64) := (ArrAt.new w1 128 zeros).there 64 rfl
  have HON : Hid ((nums wl).toArray.all (·.oneCell') = true) := nums_one wl
  have hb2 : Below w1.heap.size w1 ((w1.alloc (.cells (nums zeros).toArray 128)).setCells w1.heap.size 0 (nums wl)) := below_setCells (Nat.le_refl _) _ _ ((Below.refl _ _).alloc (Nat.le_refl _) _)
  have hrg : ((w1.alloc (.cells (nums zeros).toArray 128)).setCells w1.heap.size 0 (nums wl)).rangeAt w1.heap.size 0 (nums wl) := World.rangeAt_setCells_same _ _ _ _ (by rw [nums_len, hwl]; exact HTH.out)
  have hsz2 : w1.heap.size < ((w1.alloc (.cells (nums zeros).toArray 128)).setCells w1.heap.size 0 (nums wl)).heap.size := World.block_lt_of_cell? _ ⟨w1.heap.size, 0 + 0, none⟩ (hrg 0 _ (List.getElem?_eq_getElem (by rw [nums_len, hwl]; decide)))
  have HRD : Hid (Reads ((w1.alloc (.cells (nums zeros).toArray 128)).setCells w1.heap.size 0 (nums wl)) w1.heap.size wl ks) := by
    refine ⟨fun j hj => ?_, LaidAt.up (LaidAt.up HG.out B1.out hz) hb2 (by omega)⟩
    have := hrg j (.int .u32 wl[j]) (by simp [nums, hj])
    rwa [Nat.zero_add] at this
  have A2 : Hid (ArrAt ((w1.alloc (.cells (nums zeros).toArray 128)).setCells w1.heap.size 0 (nums wl)) w.heap.size 96 [a, b, c, d, e, f, g, h]) := A1.out.up hb2 (by omega)
  have R2 : Hid (ArrAt ((w1.alloc (.cells (nums zeros).toArray 128)).setCells w1.heap.size 0 (nums wl)) (w.heap.size + 1) 96 [0, 0, 0, 0, 0, 0, 0, 0]) := R1.out.up hb2 (by omega)
  have B2 : Hid (Below w.heap.size w ((w1.alloc (.cells (nums zeros).toArray 128)).setCells w1.heap.size 0 (nums wl))) := B1.out.trans (hb2.mono B1.out.size)
  have HF : Hid (Mix w w1.heap.size wl ks [a, b, c, d, e, f, g, h] ((w1.alloc (.cells (nums zeros).toArray 128)).setCells w1.heap.size 0 (nums wl))) := ⟨HRD.out, A2.out, R2.out, B2.out, hsz2⟩
  clear hb2 hrg hsz2 HRD A2 R2 B2
  simp only [arr]
  go_wp2_with (refine wpList_store_any rfl 128 (Operand.tmp 5) (Operand.tmp 22) rfl w1.heap.size 0 (nums wl).toArray rfl rfl (by rw [HI.out.1]; exact HTH.out) HI.out.2 HON.out (Mix w w1.heap.size wl ks [a, b, c, d, e, f, g, h]) HF.out ?_; intro w2 hF; simp only [Act.put])
  obtain ⟨hrd, ha2, hr2, hb2, hsz2⟩ := hF
  have HRD : Hid (Reads w2 w1.heap.size wl ks) := hrd
  have A2 : Hid (ArrAt w2 w.heap.size 96 [a, b, c, d, e, f, g, h]) := ha2
  have R2 : Hid (ArrAt w2 (w.heap.size + 1) 96 [0, 0, 0, 0, 0, 0, 0, 0]) := hr2
  have B2 : Hid (Below w.heap.size w w2) := hb2
  clear hrd ha2 hr2 hb2 HTH HON HI A1 R1 B1 HF
  have c0 := A2.out.cell 0 (by simp)
  have c1 := A2.out.cell 1 (by simp)
  have c2 := A2.out.cell 2 (by simp)
  have c3 := A2.out.cell 3 (by simp)
  have c4 := A2.out.cell 4 (by simp)
  have c5 := A2.out.cell 5 (by simp)
  have c6 := A2.out.cell 6 (by simp)
  have c7 := A2.out.cell 7 (by simp)
  simp only [List.getElem_cons_zero, List.getElem_cons_succ] at c0 c1 c2 c3 c4 c5 c6 c7
  go_region
  go_wp2
  go_region
  go_wp2
  go_loopw [6, 7, 8, 9, 10, 11, 12, 13, 39] (fun va vb vc vd ve vf vg vh vi wr => ∃ (k : Nat) (r : S8), k ≤ 64 ∧ r = rounds8 wl ks k ⟨a, b, c, d, e, f, g, h⟩ ∧ va = .int .u32 r.a ∧ vb = .int .u32 r.b ∧ vc = .int .u32 r.c ∧ vd = .int .u32 r.d ∧ ve = .int .u32 r.e ∧ vf = .int .u32 r.f ∧ vg = .int .u32 r.g ∧ vh = .int .u32 r.h ∧ vi = .int .i64 k ∧ Below w2.heap.size w2 wr) (fun _ _ _ _ _ _ _ _ vi _ => 64 - (intOf vi).toNat)
  case atStart => exact ⟨0, ⟨a, b, c, d, e, f, g, h⟩, by omega, rfl, rfl, rfl, rfl, rfl, rfl, rfl, rfl, rfl, rfl, (Below.refl _ _).drew.drew⟩
  case round =>
    obtain ⟨k, r, hk, hr, rfl, rfl, rfl, rfl, rfl, rfl, rfl, rfl, rfl, hb⟩ := hrel
    have HR : Hid _ := hr
    have HB : Hid (Below w2.heap.size w2 wr) := hb
    clear hr hb
    obtain ⟨a', b', c', d', e', f', g', h'⟩ := r
    simp only
    clear c0 c1 c2 c3 c4 c5 c6 c7
    by_cases hlt : k < 64
    · as_aux_lemma =>
        have i2 : (k : Int) < 64 := by omega
        have q0 := (HB.out.cell (p := ⟨w1.heap.size, k, none⟩) hsz2).trans (HRD.out.1 k (by omega))
        have q1 := (HB.out.cell (p := ⟨1, k, none⟩) (by show 1 < _; omega)).trans (HRD.out.2 k (by omega))
        generalize hx0 : wl[k] = x0 at q0
        generalize hx1 : ks[k] = x1 at q1
        have HX : Hid (ks.getD k 0 = x1 ∧ wl.getD k 0 = x0) := ⟨by rw [List.getD, List.getElem?_eq_getElem (by omega), ← hx1]; rfl, by rw [List.getD, List.getElem?_eq_getElem (by omega), ← hx0]; rfl⟩
        clear hx0 hx1
        go_wp2_with fail
        refine (turned_any e' 6 _ (by decide) (by decide)).mono ?_
        rintro e1 w3 ⟨rfl, rfl⟩
        go_wp2_with fail
        refine (turned_any e' 11 _ (by decide) (by decide)).mono ?_
        rintro e1 w3 ⟨rfl, rfl⟩
        go_wp2_with fail
        refine (turned_any e' 25 _ (by decide) (by decide)).mono ?_
        rintro e1 w3 ⟨rfl, rfl⟩
        go_wp2
        go_region
        go_wp2_with fail
        refine (turned_any a' 2 _ (by decide) (by decide)).mono ?_
        rintro e1 w3 ⟨rfl, rfl⟩
        go_wp2_with fail
        refine (turned_any a' 13 _ (by decide) (by decide)).mono ?_
        rintro e1 w3 ⟨rfl, rfl⟩
        go_wp2_with fail
        refine (turned_any a' 22 _ (by decide) (by decide)).mono ?_
        rintro e1 w3 ⟨rfl, rfl⟩
        go_wp2
        refine ⟨⟨k + 1, S8.step ⟨a', b', c', d', e', f', g', h'⟩ x1 x0, by omega, ?_, rfl, rfl, rfl, rfl, rfl, rfl, rfl, rfl, by go_num, HB.out.drew⟩, by simp [intOf]; omega⟩
        show _ = (rounds8 wl ks k _).step _ _
        rw [HX.out.1, HX.out.2, ← HR.out]
    · have HK : Hid (k = 64) := by show _ = _; omega
      have i3 : (64 : Int) ≤ (k : Int) := by omega
      have a2 := A2.out.up HB.out (by omega)
      have r2 := R2.out.up HB.out (by omega)
      have BF : Hid (Below w.heap.size w wr) := B2.out.trans (HB.out.mono B2.out.size)
      have A3 : Hid (ArrAt wr w.heap.size 96 [a, b, c, d, e, f, g, h]) := a2
      have R3 : Hid (ArrAt wr (w.heap.size + 1) 96 [0, 0, 0, 0, 0, 0, 0, 0]) := r2
      clear a2 r2 A2 R2 HRD HB HG
      have hix : ∀ (j : Nat) (hj : j < 8) (W : World), (Instr.index 96 (.agg #[.int .u32 a', .int .u32 b', .int .u32 c', .int .u32 d', .int .u32 e', .int .u32 f', .int .u32 g', .int .u32 h']) (.int .i64 j)).run Tryz.prog W = .ok (.int .u32 ([a', b', c', d', e', f', g', h'].getD j 0)) W := fun j hj W => ix8 a' b' c' d' e' f' g' h' j hj _ (nums_at [a', b', c', d', e', f', g', h'] j hj) W
      go_wp2
      go_loopw [113] (fun i wx => ∃ (j : Nat) (l : List Int), j ≤ 8 ∧ i = .int .i64 j ∧ Added [a, b, c, d, e, f, g, h] [a', b', c', d', e', f', g', h'] j l ∧ ArrAt wx w.heap.size 96 l ∧ ArrAt wx (w.heap.size + 1) 96 [0, 0, 0, 0, 0, 0, 0, 0] ∧ Below w.heap.size w wx) (fun i _ => 8 - (intOf i).toNat)
      case atStart => exact ⟨0, _, by omega, rfl, Added.zero _ _ rfl, A3.out, R3.out, BF.out⟩
      case round =>
        obtain ⟨j, l, hj, rfl, had, hA, hZ, hb⟩ := hrel
        clear A3 R3 BF
        have HD : Hid (Added [a, b, c, d, e, f, g, h] [a', b', c', d', e', f', g', h'] j l) := had
        have hll : l.length = 8 := had.1
        have HA : Hid (ArrAt _ w.heap.size 96 l) := hA
        have HZ : Hid (ArrAt _ (w.heap.size + 1) 96 [0, 0, 0, 0, 0, 0, 0, 0]) := hZ
        have BX : Hid (Below w.heap.size w _) := hb
        clear had hA hZ hb
        by_cases hj8 : j < 8
        · have y := hix j hj8
          have c0 := HA.out.cell j (by omega)
          have f0 := HA.out.fro j
          have j2 : (j : Int) < 8 := by omega
          clear hix
          generalize hx0 : l[j] = x0 at c0
          generalize hx1 : [a', b', c', d', e', f', g', h'].getD j 0 = x1 at y
          have HX : Hid (l[j] = x0 ∧ [a', b', c', d', e', f', g', h'].getD j 0 = x1) := ⟨hx0, hx1⟩
          clear hx0 hx1
          go_wp2
          refine ⟨⟨j + 1, l.set j ((x0 + x1) % 4294967296), by omega, by go_num, ?_, HA.out.set j _, HZ.out.other j _ (by omega), BX.out.setCell (p := ⟨w.heap.size, j, none⟩) (Nat.le_refl _) _⟩, by simp [intOf]; omega⟩
          have := HD.out.step (by omega) (by rfl)
          rwa [HX.out.1, HX.out.2] at this
        obtain rfl : j = 8 := by omega
        clear hix
        obtain rfl := HD.out.done rfl rfl
        clear HD
        have c0 := HA.out.cell 0 (by simp)
        have z0 := HZ.out.cell 0 (by simp)
        have g0 := HZ.out.fro 0
        have c1 := HA.out.cell 1 (by simp)
        have z1 := HZ.out.cell 1 (by simp)
        have g1 := HZ.out.fro 1
        have c2 := HA.out.cell 2 (by simp)
        have z2 := HZ.out.cell 2 (by simp)
        have g2 := HZ.out.fro 2
        have c3 := HA.out.cell 3 (by simp)
        have z3 := HZ.out.cell 3 (by simp)
        have g3 := HZ.out.fro 3
        have c4 := HA.out.cell 4 (by simp)
        have z4 := HZ.out.cell 4 (by simp)
        have g4 := HZ.out.fro 4
        have c5 := HA.out.cell 5 (by simp)
        have z5 := HZ.out.cell 5 (by simp)
        have g5 := HZ.out.fro 5
        have c6 := HA.out.cell 6 (by simp)
        have z6 := HZ.out.cell 6 (by simp)
        have g6 := HZ.out.fro 6
        have c7 := HA.out.cell 7 (by simp)
        have z7 := HZ.out.cell 7 (by simp)
        have g7 := HZ.out.fro 7
        simp only [List.getElem_cons_zero, List.getElem_cons_succ, List.zipWith] at c0 c1 c2 c3 c4 c5 c6 c7 z0 z1 z2 z3 z4 z5 z6 z7
        go_wp2
        refine bodyPost_ret (v := .agg #[.int .u32 ((a + a') % 4294967296), .int .u32 ((b + b') % 4294967296), .int .u32 ((c + c') % 4294967296), .int .u32 ((d + d') % 4294967296), .int .u32 ((e + e') % 4294967296), .int .u32 ((f + f') % 4294967296), .int .u32 ((g + g') % 4294967296), .int .u32 ((h + h') % 4294967296)]) (by simp [results, Tryz.results55, go_sem, z0, z1, z2, z3, z4, z5, z6, z7]) rfl ⟨?_, below8 BX.out (Nat.le_succ _) _ _ _ _ _ _ _ _⟩
        rw [HMX.out ⟨a', b', c', d', e', f', g', h'⟩ (by rw [HR.out, HK.out])]
end Go.Proofs.YtkmlooepakinfaaGreatDoor

/- What the digest's own digits of a state are. -/
namespace Go.Proofs.YtkmlooepakinfaaGreatDoor
open Go.RowKit

def hexC (n : Nat) : Nat := if n < 10 then 48 + n else 87 + n
def nib (x : Int) (s : Nat) : Int := bits .and .u32 (x / 2 ^ s) 15
/-- Digit j of a number, the greatest first. -/
def dgt (x : Int) (j : Nat) : UInt8 := UInt8.ofNat (hexC (nib x (28 - 4 * j)).toNat)
def dg (x : Int) (j : Nat) : List UInt8 := (List.range j).map (dgt x)
def dgs (l : List Int) : List UInt8 := l.flatMap fun x => dg x 8
def bcs (l : List UInt8) : List Value := l.map fun c => .int .u8 c.toNat
theorem info_p {i : Option TypeInfo} {z : Value} {s b : Nat} (h : i.map (fun i => (i.zero, i.size, i.bytes)) = some (some z, s, b)) : ∃ i0, i = some i0 ∧ i0.zero = some z ∧ i0.size = s ∧ i0.bytes = b := by
  cases i with
  | none => cases h
  | some i0 =>
    simp at h
    exact ⟨i0, rfl, h.1, h.2.1, h.2.2⟩

theorem nib_lt (x : Int) (s : Nat) : 0 ≤ nib x s ∧ nib x s < 16 := by
  unfold nib bits
  have h : (BitVec.ofInt 32 (x / 2 ^ s) &&& BitVec.ofInt 32 15).toNat < 16 := by
    rw [BitVec.toNat_and]
    exact Nat.lt_of_le_of_lt Nat.and_le_right (by decide)
  generalize hn : (BitVec.ofInt 32 (x / 2 ^ s) &&& BitVec.ofInt 32 15).toNat = n at h
  have e : IntKind.u32.wrap (n : Int) = n := by rw [IntKind.wrap_u32]; omega
  show 0 ≤ IntKind.u32.wrap ((BitVec.ofInt 32 (x / 2 ^ s) &&& BitVec.ofInt 32 15).toNat : Int) ∧ IntKind.u32.wrap ((BitVec.ofInt 32 (x / 2 ^ s) &&& BitVec.ofInt 32 15).toNat : Int) < 16
  rw [hn, e]
  omega

abbrev hexS : ByteArray := ⟨#[48, 49, 50, 51, 52, 53, 54, 55, 56, 57, 97, 98, 99, 100, 101, 102]⟩
theorem hexS_at : ∀ n : Nat, n < 16 → hexS[n]? = some (UInt8.ofNat (hexC n)) := by decide
theorem hex_ix (x : Int) (s : Nat) (W : World) : (Instr.index 9 (.string hexS) (.int .u32 (nib x s))).run Tryz.prog W = .ok (.int .u8 ((UInt8.ofNat (hexC (nib x s).toNat)).toNat)) W := by
  have h := nib_lt x s
  have h2 := hexS_at (nib x s).toNat (by omega)
  simp [Instr.index, run_underlying Tryz.underlying9, asIntOf, h.1, h2]

set_option maxHeartbeats 4000000 in
set_option maxRecDepth 100000 in
theorem digits_any (w : World) (a0 a1 a2 a3 a4 a5 a6 a7 : Int) :
    Calls Tryz.prog 57 #[.agg #[.int .u32 a0, .int .u32 a1, .int .u32 a2, .int .u32 a3, .int .u32 a4, .int .u32 a5, .int .u32 a6, .int .u32 a7]] w fun e w' => e = .returned (.string ⟨(dgs [a0, a1, a2, a3, a4, a5, a6, a7]).toArray⟩) ∧ Below w.heap.size w w' := by
  obtain ⟨i0, hi, hz0, hz1, hz2⟩ := info_p infB
  go_enter Tryz.func57, Tryz.ntmps57
  go_wp2_with (at_make; refine wpList_make_own _ rfl _ _ 131 rfl w.heap.size 5 i0 (.int .u8 0) 1 Tryz.underlying131 hi hz0 hz1 _ _ _ 64 rfl rfl ?m1 ?m2 ?m3 ?m4 ?_)
  case m1 => rfl
  case m2 => rw [hz2]; decide
  case m3 => unfold maxLen; decide
  case m4 => simp
  intro w2 hown hg2
  have a2 : ArrAt w2 w.heap.size 96 [a0, a1, a2, a3, a4, a5, a6, a7] := (hg2.block w.heap.size (by simp) (by simp)).trans (ArrAt.new w 96 [a0, a1, a2, a3, a4, a5, a6, a7])
  have HB2 : Hid (Below w.heap.size w w2) := ((Below.refl _ _).alloc (Nat.le_refl _) _).grown hg2 (by simp) (by intro k hk; cases hk)
  have c0 := a2.cell 0 (by simp)
  have c1 := a2.cell 1 (by simp)
  have c2 := a2.cell 2 (by simp)
  have c3 := a2.cell 3 (by simp)
  have c4 := a2.cell 4 (by simp)
  have c5 := a2.cell 5 (by simp)
  have c6 := a2.cell 6 (by simp)
  have c7 := a2.cell 7 (by simp)
  simp only [List.getElem_cons_zero, List.getElem_cons_succ] at c0 c1 c2 c3 c4 c5 c6 c7
  have HO2 : Hid (w2.ownsRow (w.heap.size + 1) 5 1 (.slice (some ⟨w.heap.size + 1, 0, none⟩) 0 64) 0 []) := by
    show World.ownsRow _ _ _ _ _ _ _
    refine ⟨rfl, Or.inr ?_⟩
    rcases hown.2 with ⟨h, _⟩ | ⟨g, cap, cur, hv, _, hh, r⟩
    · cases h
    · cases hv
      exact ⟨w.heap.size + 1, 64, cur, by simp, Nat.le_refl _, by simpa using hh, r⟩
  clear hown hg2 a2
  obtain ⟨l, hl⟩ : ∃ l : List Int, l = [a0, a1, a2, a3, a4, a5, a6, a7] := ⟨_, rfl⟩
  have hll : l.length = 8 := by rw [hl]; rfl
  have HIX : Hid (∀ (k : Nat) (hk : k < l.length) (W : World), (Instr.index 96 (.agg #[.int .u32 a0, .int .u32 a1, .int .u32 a2, .int .u32 a3, .int .u32 a4, .int .u32 a5, .int .u32 a6, .int .u32 a7]) (.int .i64 k)).run Tryz.prog W = .ok (.int .u32 l[k]) W) := fun k hk W => by
    subst hl
    refine ix8 a0 a1 a2 a3 a4 a5 a6 a7 k (by simpa using hk) _ ?_ W
    match k, hk with
    | 0, _ => rfl
    | 1, _ => rfl
    | 2, _ => rfl
    | 3, _ => rfl
    | 4, _ => rfl
    | 5, _ => rfl
    | 6, _ => rfl
    | 7, _ => rfl
  have HL : Hid (l = [a0, a1, a2, a3, a4, a5, a6, a7]) := hl
  clear hl
  go_wp2
  clear c0 c1 c2 c3 c4 c5 c6 c7
  go_loopw [3, 9] (fun v i wr => ∃ k : Nat, k ≤ 8 ∧ i = .int .i64 k ∧ wr.ownsRow (w.heap.size + 1) 5 1 v (8 * k) (bcs (dgs (l.take k))) ∧ Below w.heap.size w wr) (fun _ i _ => 8 - (intOf i).toNat)
  case atStart => exact ⟨0, by omega, rfl, HO2.out, HB2.out⟩
  case round =>
    obtain ⟨k, hk, rfl, hown, hb⟩ := hrel
    have HO : Hid (wr.ownsRow (w.heap.size + 1) 5 1 u3 (8 * k) (bcs (dgs (l.take k)))) := hown
    have HB : Hid (Below w.heap.size w wr) := hb
    clear hown hb HO2 HB2
    by_cases hlt : k < 8
    · have hix := HIX.out k (by omega)
      have i2 : (k : Int) < 8 := by omega
      generalize hx : l[k] = x at hix
      have HX : Hid (l[k] = x) := hx
      clear hx
      go_wp2
      go_loopw [3, 6] (fun v sh wr => ∃ j : Nat, j ≤ 8 ∧ sh = .int .i64 (28 - 4 * (j : Int)) ∧ wr.ownsRow (w.heap.size + 1) 5 1 v (8 * k + j) (bcs (dgs (l.take k) ++ dg x j)) ∧ Below w.heap.size w wr) (fun _ sh _ => (intOf sh + 4).toNat)
      case atStart => exact ⟨0, by omega, rfl, by simpa [dg] using HO.out, HB.out⟩
      case round =>
        clear HO HB
        obtain ⟨j, hj, rfl, hown, hb⟩ := hrel
        have HO : Hid (World.ownsRow _ (w.heap.size + 1) 5 1 _ (8 * k + j) (bcs (dgs (l.take k) ++ dg x j))) := hown
        have HB : Hid (Below w.heap.size w _) := hb
        clear hown hb
        by_cases hjt : j < 8
        · obtain ⟨m, hm⟩ : ∃ m : Nat, m = 28 - 4 * j := ⟨_, rfl⟩
          have hm2 : (28 : Int) - 4 * (j : Int) = (m : Int) := by omega
          have hsr : Op.shift .shr .u32 x .i64 (m : Int) = pure (.int .u32 (x / 2 ^ m)) := by
            rw [shift_shr _ _ _ _ (by omega) (by show (m : Int) ≤ 32; omega)]
            rfl
          have hxi : ∀ W : World, (Instr.index 9 (.string hexS) (.int .u32 (bits .and .u32 (x / 2 ^ m) 15))).run Tryz.prog W = .ok (.int .u8 ((dgt x j).toNat : Int)) W := fun W => by
            have := hex_ix x m W
            rw [hm] at this
            unfold dgt
            rw [hm]
            exact this
          have m0 : (0 : Int) ≤ (m : Int) := by omega
          generalize hc : ((dgt x j).toNat : Int) = ch at hxi
          have HC : Hid (((dgt x j).toNat : Int) = ch) := hc
          have HM : Hid (m = 28 - 4 * j) := hm
          clear hc hm
          go_wp2_with (at_builtin; refine wpList_append_own _ rfl _ _ 131 rfl (w.heap.size + 1) 5 i0 (.int .u8 0) 1 1 Tryz.underlying131 hi hz0 hz1 hz2 rfl (by decide) _ _ _ rfl (HO.out.alloc _) ⟨_, 0, none⟩ 1 1 [.int .u8 ch] rfl rfl ?c1 ?c2 ?c3 ?c4 ?c5 ?_)
          case c1 =>
            intro j u hj
            match j, hj with
            | 0, hj => simp at hj; subst hj; simp [Addr.add]
          case c2 => intro u hu; simp at hu; subst hu; rfl
          case c3 => unfold maxLen; omega
          case c4 => omega
          case c5 => have := HB.out.size; have := HO.out.lt; simp; rcases HO.out.2 with ⟨_, h⟩ | ⟨g, cap, cur, _, hg, hh, _⟩ <;> first | omega | (have := (Array.getElem?_eq_some_iff.1 hh).1; omega)
          intro v' w4 hown4 hg4 _
          have hrow : ∀ j, Value.ownBlock _ = some j → w.heap.size + 1 ≤ j := fun j hj => (HO.out.lt j hj).1
          have HB4 : Hid (Below w.heap.size w w4) := (HB.out.alloc HB.out.size _).grown hg4 (by have := HB.out.size; simp; omega) (fun j hj => by have := hrow j hj; omega)
          have HO4 : Hid (w4.ownsRow (w.heap.size + 1) 5 1 v' (8 * k + j + 1) (bcs (dgs (l.take k) ++ dg x j) ++ [.int .u8 ch])) := hown4
          clear hown4 hg4 hrow
          go_wp2
          refine ⟨⟨j + 1, by omega, ?_, ?_, HB4.out⟩, by simp [intOf]; omega⟩
          · have := HM.out
            congr 1
            omega
          · have e1 : bcs (dgs (l.take k) ++ dg x (j + 1)) = bcs (dgs (l.take k) ++ dg x j) ++ [.int .u8 ch] := by
              rw [← HC.out]
              simp [bcs, dg, List.range_succ]
            rw [e1]
            exact HO4.out
        · obtain rfl : j = 8 := by omega
          go_wp2
          refine ⟨⟨k + 1, by omega, by go_num, ?_, HB.out⟩, by simp [intOf]; omega⟩
          have e1 : dgs (l.take (k + 1)) = dgs (l.take k) ++ dg x 8 := by
            rw [List.take_succ_eq_append_getElem (by omega), HX.out]
            simp [dgs]
          rw [e1]
          exact HO.out
    · obtain rfl : k = 8 := by omega
      have ho := HO.out
      rw [List.take_of_length_le (by omega)] at ho
      have h64 : (dgs l).length = 64 := by
        have := ho.1
        simpa [bcs] using this
      obtain ⟨g, cap, rfl, hcells⟩ : ∃ g cap, u3 = .slice (some ⟨g, 0, none⟩) (8 * 8) cap ∧ ∀ j (hj : j < (dgs l).length), wr.cell? ((⟨g, 0, none⟩ : Addr).add j) = some (.int .u8 ((dgs l)[j].toNat : Int)) := by
        have hc := fun (g : Nat) (hg : u3.ownBlock = some g) => ho.cells hg
        rcases ho.2 with ⟨_, h⟩ | ⟨g, cap, cur, hv, _⟩
        · omega
        · exact ⟨g, cap, hv, fun j hj => hc g (by rw [hv]; rfl) j _ (by simp [bcs, hj])⟩
      have hcv : (convert 131 9 (.slice (some ⟨g, 0, none⟩) (8 * 8) cap)).run Tryz.prog wr = .ok (.string ⟨(dgs l).toArray⟩) wr := by
        rw [show 8 * 8 = (dgs l).length from h64.symm]
        exact run_convert_bytes_back wr 131 9 5 ⟨g, 0, none⟩ cap (dgs l) Tryz.underlying131 Tryz.underlying5 Tryz.underlying9 hcells
      clear ho hcells h64 HO
      go_wp2
      go_ret
      exact ⟨by rw [HL.out]; rfl, HB.out⟩
end Go.Proofs.YtkmlooepakinfaaGreatDoor

/- What comes behind a text, to make whole blocks. -/
namespace Go.Proofs.YtkmlooepakinfaaGreatDoor
open Go.RowKit

/-- How many bytes there are ahead of the length. -/
def endQ (n : Nat) : Nat := 64 - (n + 8) % 64
def lenB (n j : Nat) : UInt8 := UInt8.ofNat (8 * n / 2 ^ (56 - 8 * j) % 256)
def lenBs (n j : Nat) : List UInt8 := (List.range j).map (lenB n)
def endB (n : Nat) : List UInt8 := 128 :: (List.replicate (endQ n - 1) 0 ++ lenBs n 8)

set_option maxHeartbeats 4000000 in
set_option maxRecDepth 100000 in
theorem ending_any (w : World) (n : Nat) (hn : n ≤ 140737488355328) :
    Calls Tryz.prog 56 #[.int .i64 n] w fun e w' => e = .returned (.string ⟨(endB n).toArray⟩) ∧ Below w.heap.size w w' := by
  obtain ⟨i0, hi, hz0, hz1, hz2⟩ := info_p infB
  obtain ⟨q, hq⟩ : ∃ q, q = endQ n := ⟨_, rfl⟩
  have hq1 : 1 ≤ q ∧ q ≤ 64 := by rw [hq]; unfold endQ; omega
  have e1 : (63 : Int) - ((n : Int) + 8) % 64 = (q : Int) - 1 := by rw [hq]; unfold endQ; omega
  have hmk : (Instr.makeSlice 131 (.int .i64 (q : Int)) (.int .i64 ((q : Int) + 8))).run Tryz.prog w = .ok (.slice (some ⟨w.heap.size, 0, none⟩) q (q + 8)) (w.alloc (.cells (madeCells #[.int .u8 0] (q + 8)) 5)) := by
    have := run_make (P := Tryz.prog) w 131 5 i0 (.int .u8 0) Tryz.underlying131 hi hz0 .i64 .i64 (q : Int) ((q : Int) + 8) (by omega) (by omega) (by rw [hz2]; omega) (by omega)
    rw [hz1, show ((q : Int) + 8).toNat = q + 8 by omega, show (q : Int).toNat = q by omega, Nat.mul_one] at this
    exact this
  have ho : (w.alloc (.cells (madeCells #[.int .u8 0] (q + 8)) 5)).ownsRow w.heap.size 5 1 (.slice (some ⟨w.heap.size, 0, none⟩) q (q + 8)) q (bcs (List.replicate q 0)) := by
    refine ⟨by simp [bcs], Or.inr ⟨w.heap.size, q + 8, madeCells #[.int .u8 0] (q + 8), rfl, Nat.le_refl _, heap_alloc_new w _, by omega, by unfold maxLen; omega, by simp [madeCells], ?_⟩⟩
    rw [toList_madeCells_one]
    simp [bcs, List.take_replicate]
  have HO : Hid _ := ho
  have HQ : Hid (q = endQ n) := hq
  have e2 : (1 : Int) + ((q : Int) - 1) = q := by omega
  have c0 : (w.alloc (.cells (madeCells #[.int .u8 0] (q + 8)) 5)).cell? ⟨w.heap.size, 0, none⟩ = some (.int .u8 0) := by
    have := ho.cells rfl 0 (.int .u8 0) (by simp only [bcs, List.map_replicate]; rw [List.getElem?_replicate, if_pos (by omega)]; rfl)
    simpa [Addr.add] using this
  have f0 : (w.alloc (.cells (madeCells #[.int .u8 0] (q + 8)) 5)).frozen? ⟨w.heap.size, 0, none⟩ = false := ho.frozenAt 0
  have hq2 : (1 : Int) ≤ (q : Int) := by omega
  have hq3 : (q : Int) ≤ 64 := by omega
  have HO2 : Hid ((w.alloc (.cells ((madeCells #[.int .u8 0] (q + 8)).setIfInBounds 0 (.int .u8 128)) 5)).ownsRow w.heap.size 5 1 (.slice (some ⟨w.heap.size, 0, none⟩) q (q + 8)) (q + 0) (bcs (128 :: (List.replicate (q - 1) 0 ++ lenBs n 0)))) := by
    show World.ownsRow _ _ _ _ _ _ _
    refine ⟨by simp [bcs, lenBs]; omega, Or.inr ⟨w.heap.size, q + 8, _, rfl, Nat.le_refl _, heap_alloc_new w _, by omega, by unfold maxLen; omega, by simp [madeCells], ?_⟩⟩
    rw [Array.toList_setIfInBounds, toList_madeCells_one]
    obtain ⟨r, rfl⟩ : ∃ r, q = r + 1 := ⟨q - 1, by omega⟩
    rw [show r + 1 + 8 = (r + 8) + 1 by omega, List.replicate_succ, List.set_cons_zero, Nat.add_zero, Nat.mul_one, List.take_succ_cons, List.take_replicate, Nat.min_eq_left (by omega)]
    simp [bcs, lenBs]
  clear ho hq hq1 HO
  go_enter Tryz.func56, Tryz.ntmps56
  go_wp2
  go_loopw [4, 6] (fun v sh wr => ∃ j : Nat, j ≤ 8 ∧ sh = .int .i64 (56 - 8 * (j : Int)) ∧ wr.ownsRow w.heap.size 5 1 v (q + j) (bcs (128 :: (List.replicate (q - 1) 0 ++ lenBs n j))) ∧ Below w.heap.size w wr) (fun _ sh _ => (intOf sh + 8).toNat)
  case atStart => exact ⟨0, by omega, rfl, HO2.out, (Below.refl _ _).alloc (Nat.le_refl _) _⟩
  case round =>
    clear HO2
    obtain ⟨j, hj, rfl, hown, hb⟩ := hrel
    have HO : Hid (wr.ownsRow w.heap.size 5 1 u4 (q + j) (bcs (128 :: (List.replicate (q - 1) 0 ++ lenBs n j)))) := hown
    have HB : Hid (Below w.heap.size w wr) := hb
    clear hown hb c0 f0 hmk
    by_cases hjt : j < 8
    · obtain ⟨m, hm⟩ : ∃ m : Nat, m = 56 - 8 * j := ⟨_, rfl⟩
      have hm2 : (56 : Int) - 8 * (j : Int) = (m : Int) := by omega
      have hsr : Op.shift .shr .u64 ((n : Int) * 8) .i64 (m : Int) = pure (.int .u64 ((n : Int) * 8 / 2 ^ m)) := by
        rw [shift_shr _ _ _ _ (by omega) (by show (m : Int) ≤ 64; omega)]
        rfl
      have m0 : (0 : Int) ≤ (m : Int) := by omega
      have HC : Hid (((lenB n j).toNat : Int) = (n : Int) * 8 / 2 ^ m % 256) := by
        show _ = _
        unfold lenB
        rw [← hm, UInt8.toNat_ofNat', Nat.mod_mod]
        push_cast
        rw [Int.mul_comm]
      have HM : Hid (m = 56 - 8 * j) := hm
      clear hm
      go_wp2_with (at_builtin; refine wpList_append_own _ rfl _ _ 131 rfl w.heap.size 5 i0 (.int .u8 0) 1 1 Tryz.underlying131 hi hz0 hz1 hz2 rfl (by decide) _ _ _ rfl (HO.out.alloc _) ⟨_, 0, none⟩ 1 1 [.int .u8 ((n : Int) * 8 / 2 ^ m % 256)] rfl rfl ?c1 ?c2 ?c3 ?c4 ?c5 ?_)
      case c1 =>
        intro j u hj
        match j, hj with
        | 0, hj => simp at hj; subst hj; simp [Addr.add]
      case c2 => intro u hu; simp at hu; subst hu; rfl
      case c3 => unfold maxLen; omega
      case c4 => omega
      case c5 => have := HB.out.size; simp; omega
      intro v' w4 hown4 hg4 _
      have hrow : ∀ j, Value.ownBlock _ = some j → w.heap.size ≤ j := fun j hj => (HO.out.lt j hj).1
      have HB4 : Hid (Below w.heap.size w w4) := (HB.out.alloc HB.out.size _).grown hg4 (by have := HB.out.size; simp; omega) hrow
      have HO4 : Hid (w4.ownsRow w.heap.size 5 1 v' (q + j + 1) (bcs (128 :: (List.replicate (q - 1) 0 ++ lenBs n j)) ++ [.int .u8 ((n : Int) * 8 / 2 ^ m % 256)])) := hown4
      clear hown4 hg4 hrow
      go_wp2
      refine ⟨⟨j + 1, by omega, ?_, ?_, HB4.out⟩, by simp [intOf]; omega⟩
      · have := HM.out
        congr 1
        omega
      · have e1 : bcs (128 :: (List.replicate (q - 1) 0 ++ lenBs n (j + 1))) = bcs (128 :: (List.replicate (q - 1) 0 ++ lenBs n j)) ++ [.int .u8 ((n : Int) * 8 / 2 ^ m % 256)] := by
          rw [← HC.out]
          simp [bcs, lenBs, List.range_succ]
        rw [e1]
        exact HO4.out
    · obtain rfl : j = 8 := by omega
      obtain ⟨l, hl⟩ : ∃ l : List UInt8, l = 128 :: (List.replicate (q - 1) 0 ++ lenBs n 8) := ⟨_, rfl⟩
      have HL : Hid (endB n = l) := by show _ = _; unfold endB; rw [← HQ.out, hl]
      have ho := HO.out
      rw [← hl] at ho
      have h64 : l.length = q + 8 := by
        have := ho.1
        simpa [bcs] using this
      obtain ⟨g, cap, rfl, hcells⟩ : ∃ g cap, u4 = .slice (some ⟨g, 0, none⟩) (q + 8) cap ∧ ∀ j (hj : j < l.length), wr.cell? ((⟨g, 0, none⟩ : Addr).add j) = some (.int .u8 (l[j].toNat : Int)) := by
        have hc := fun (g : Nat) (hg : u4.ownBlock = some g) => ho.cells hg
        rcases ho.2 with ⟨_, h⟩ | ⟨g, cap, cur, hv, _⟩
        · omega
        · exact ⟨g, cap, hv, fun j hj => hc g (by rw [hv]; rfl) j _ (by simp [bcs, hj])⟩
      have hcv : (convert 131 9 (.slice (some ⟨g, 0, none⟩) (q + 8) cap)).run Tryz.prog wr = .ok (.string ⟨l.toArray⟩) wr := by
        rw [show q + 8 = l.length from h64.symm]
        exact run_convert_bytes_back wr 131 9 5 ⟨g, 0, none⟩ cap l Tryz.underlying131 Tryz.underlying5 Tryz.underlying9 hcells
      clear ho hcells h64 HO hl
      go_wp2
      go_ret
      exact ⟨by rw [HL.out]; rfl, HB.out⟩
end Go.Proofs.YtkmlooepakinfaaGreatDoor
