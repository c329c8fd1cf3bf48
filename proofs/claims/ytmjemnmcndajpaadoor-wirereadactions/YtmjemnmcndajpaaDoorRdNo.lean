/- What wire's reader does where the text does not go on as it must: it gives up by a panic. -/
import Derived.Test.YtmjemnmcndajpaaDoorReadNo
import Derived.Test.YtmjemnmcndajpaaDoorTexts
import Derived.Defers
import Derived.Recover
import Derived.Laws.Pointers
namespace Go.Proofs.YtmjemnmcndajpaaDoor
open Go.RowKit Go.Shelf

abbrev PE : Ending := .panicked [{ v := .iface 27 (.int .i64 1), recovered := false }]

theorem giveUp_any (w : World) : Calls Tryd.prog 56 #[] w fun e w' => e = PE ∧ w' = w := by
  go_enter Tryd.func56, Tryd.ntmps56
  go_wp2
  exact ⟨rfl, rfl, rfl⟩

set_option maxHeartbeats 1000000 in
set_option maxRecDepth 100000 in
theorem rd_number_no (b : Nat) (s : ByteArray) (w : World) (hs : s.size ≤ maxLen) (hno : NoNum s) (hc : w.cell? ⟨b, 0, none⟩ = some (.string s)) :
    Calls Tryd.prog 58 #[.pointer (some ⟨b, 0, none⟩)] w fun e w' => e = PE ∧ w' = w := by
  have HN : Hid (NoNum s) := hno
  clear hno
  go_enter Tryd.func58, Tryd.ntmps58
  go_wp2_with fail
  refine (ReadNumber_no s w hs HN.out).mono ?_
  rintro e w1 ⟨⟨k, hk, rfl⟩, rfl⟩
  go_wp2_with fail
  refine (giveUp_any w1).mono ?_
  rintro e w2 ⟨rfl, rfl⟩
  go_wp2
  exact ⟨rfl, rfl, rfl⟩

/-- No packed text stands at the beginning. -/
def NoText (s : ByteArray) : Prop := ¬ ∃ (t r : List UInt8), t.length ≤ 9007199254740991 ∧ s.data.toList = pk t.length ++ (t ++ r)

set_option maxHeartbeats 1000000 in
set_option maxRecDepth 100000 in
theorem rd_text_no (b : Nat) (s : ByteArray) (w : World) (hs : s.size ≤ maxLen) (hno : NoText s) (hc : w.cell? ⟨b, 0, none⟩ = some (.string s)) (hf : w.frozen? ⟨b, 0, none⟩ = false) :
    Calls Tryd.prog 57 #[.pointer (some ⟨b, 0, none⟩)] w fun e w' => e = PE ∧ w.grownBy w' (some b) := by
  by_cases hn : NoNum s
  · go_enter Tryd.func57, Tryd.ntmps57
    go_wp2_with fail
    refine (rd_number_no b s w hs hn hc).mono ?_
    rintro e w1 ⟨rfl, rfl⟩
    go_wp2
    exact ⟨rfl, rfl, grownBy_refl _ _⟩
  · obtain ⟨n, r, hn1, hr⟩ := Classical.not_not.1 hn
    have hlt : r.length < n := by
      rcases Nat.lt_or_ge r.length n with h | h
      · exact h
      · exact absurd ⟨r.take n, r.drop n, by rw [List.length_take]; omega, by rw [List.length_take, Nat.min_eq_left h, List.take_append_drop]; exact hr⟩ hno
    have HR : Hid _ := hr
    clear hn hno hr
    go_enter Tryd.func57, Tryd.ntmps57
    go_wp2_with fail
    refine (rd_number b s w n r hs hn1 HR.out hc hf).mono ?_
    rintro e w1 ⟨rfl, s1, hs1, _, rfl⟩
    have hz : (s1.size : Int) < (n : Int) := by rw [size_of hs1]; omega
    go_wp2_with fail
    refine (giveUp_any _).mono ?_
    rintro e w2 ⟨rfl, rfl⟩
    go_wp2
    exact ⟨rfl, rfl, grownBy_set w b 0 _⟩

/-- No packed list of so many texts at most stands at the beginning. -/
def NoList (s : ByteArray) : Prop := ¬ ∃ (l : List (List UInt8)) (r : List UInt8), l.length ≤ 2000 ∧ s.data.toList = pk l.length ++ (pkAll l ++ r)

theorem pkAll_snoc (l : List (List UInt8)) (t : List UInt8) : pkAll (l ++ [t]) = pkAll l ++ (pk t.length ++ t) := by
  induction l with
  | nil => simp [pkAll]
  | cons x l ih => simp only [List.cons_append, pkAll, ih, List.append_assoc]

set_option maxHeartbeats 4000000 in
set_option maxRecDepth 100000 in
theorem rd_list_no (b : Nat) (s : ByteArray) (w : World) (hs : s.size ≤ 140737488355328) (hno : NoList s) (hc : w.cell? ⟨b, 0, none⟩ = some (.string s)) (hf : w.frozen? ⟨b, 0, none⟩ = false) :
    Calls Tryd.prog 61 #[.pointer (some ⟨b, 0, none⟩), .int .i64 2000, .func (.func 57) #[] #[]] w fun e w' => e = PE ∧ w.grownBy w' (some b) := by
  have hsm : s.size ≤ maxLen := by unfold maxLen; omega
  by_cases hn : NoNum s
  · go_enter Tryd.func61, Tryd.ntmps61
    go_wp2_with fail
    refine (rd_number_no b s w hsm hn hc).mono ?_
    rintro e w1 ⟨rfl, rfl⟩
    go_wp2
    exact ⟨rfl, rfl, grownBy_refl _ _⟩
  obtain ⟨n, r, hn1, hr⟩ := Classical.not_not.1 hn
  have HR : Hid (s.data.toList = pk n ++ r) := hr
  have HN : Hid (NoList s) := hno
  clear hn hno hr
  by_cases hn2 : 2000 < n
  · have hn3 : (2000 : Int) < (n : Int) := by omega
    go_enter Tryd.func61, Tryd.ntmps61
    go_wp2_with fail
    refine (rd_number b s w n r hsm hn1 HR.out hc hf).mono ?_
    rintro e w1 ⟨rfl, s1, hs1, _, rfl⟩
    go_wp2_with fail
    refine (giveUp_any _).mono ?_
    rintro e w2 ⟨rfl, rfl⟩
    go_wp2
    exact ⟨rfl, rfl, grownBy_set w b 0 _⟩
  obtain ⟨i0, hi, hz0, hz1, hz2⟩ := info_parts infS
  have hbl : b < w.heap.size := World.block_lt_of_cell? w ⟨b, 0, none⟩ hc
  have hnl : n ≤ 2000 := Nat.le_of_not_lt hn2
  have hle : (n : Int) ≤ 2000 := by omega
  clear hn2
  go_enter Tryd.func61, Tryd.ntmps61
  go_wp2_with fail
  refine (rd_number b s w n r hsm hn1 HR.out hc hf).mono ?_
  rintro e w1 ⟨rfl, s1, h1, hs1, rfl⟩
  have H1 : Hid _ := h1
  have HC : Hid _ := hc
  clear h1 hc
  go_wp2_with (at_make; refine wpList_make_own _ rfl _ _ 24 rfl w.heap.size 9 i0 (.string ⟨#[]⟩) 1 Tryd.underlying24 hi hz0 hz1 _ _ _ n rfl rfl ?m1 ?m2 ?m3 ?m4 ?_)
  case m1 => rfl
  case m2 => rw [hz2]; omega
  case m3 => unfold maxLen; omega
  case m4 => simp
  intro w2 hown hg2
  have hc2 : w2.cell? ⟨b, 0, none⟩ = some (.string s1) := hg2.cell (World.cell?_setCell_same' _ _ _ (by rw [HC.out]; rfl)) (by simp)
  have hf2 : w2.frozen? ⟨b, 0, none⟩ = false := by
    rw [World.frozen?_of_block (w := w.setCell ⟨b, 0, none⟩ (.string s1)) (hg2.block b (by simp; exact hbl) (by simp))]
    simpa using hf
  have hgr : w.grownBy w2 (some b) := grownBy_trans (grownBy_set w b 0 _) ⟨hg2.os, hg2.tape, hg2.output, hg2.size, fun k hk _ => hg2.block k hk (by simp)⟩
  clear hg2 hf
  go_wp2
  go_loopw [8, 18] (fun v i wr => ∃ (k : Nat) (l : List (List UInt8)), k ≤ n ∧ i = .int .i64 k ∧ l.length = k ∧ wr.ownsRow w.heap.size 9 1 v k (strs l) ∧ (∃ s' : ByteArray, s.data.toList = pk n ++ (pkAll l ++ s'.data.toList) ∧ s'.size ≤ 140737488355328 ∧ wr.cell? ⟨b, 0, none⟩ = some (.string s')) ∧ wr.frozen? ⟨b, 0, none⟩ = false ∧ w.grownBy wr (some b)) (fun _ i _ => n - (intOf i).toNat)
  case atStart =>
    refine ⟨0, [], Nat.zero_le _, rfl, rfl, by simpa [strs] using hown, ⟨s1, by rw [HR.out, H1.out]; simp [pkAll], ?_, hc2⟩, hf2, hgr⟩
    have e1 := size_of HR.out
    have e2 := size_of H1.out
    rw [List.length_append] at e1
    omega
  case round =>
    obtain ⟨k, l, hk, rfl, hlk, hok, ⟨s2, h2, hs2, hck⟩, hfk, hgk⟩ := hrel
    clear hown hc2 hf2 hgr
    have H2 : Hid _ := h2
    have hsz := hgk.size
    have HLK : Hid _ := hlk
    have hs2m : s2.size ≤ maxLen := by unfold maxLen; omega
    clear h2 hlk
    by_cases hlt : k < n
    · by_cases hnt : NoText s2
      · have HT : Hid (NoText s2) := hnt
        clear hnt
        go_wp2_with fail
        refine (rd_text_no b s2 _ hs2m HT.out hck hfk).mono ?_
        rintro e w3 ⟨rfl, hg3⟩
        have HG3 : Hid (w.grownBy w3 (some b)) := grownBy_trans hgk hg3
        clear hg3 hgk
        go_wp2
        exact ⟨rfl, rfl, HG3.out⟩
      · obtain ⟨t, r3, ht1, ht2⟩ := Classical.not_not.1 hnt
        have hle1 : t.length ≤ 281474976710656 := by
          have := size_of ht2
          simp only [List.length_append] at this
          omega
        have H4 : Hid _ := ht2
        clear hnt ht2
        go_wp2_with fail
        refine (rd_text b s2 _ t r3 hs2m hle1 H4.out hck hfk).mono ?_
        rintro e w3 ⟨rfl, ⟨s3, h3, hs3, hc3⟩, hf3, hg3⟩
        have hok3 := hok.kept hg3 (Or.inr (fun e => by have := hok.lt b e; omega))
        have HG3 : Hid _ := grownBy_trans hgk hg3
        have H3 : Hid _ := h3
        have hsz3 := hg3.size
        clear hok hg3 h3 hck hfk hgk
        go_wp2_with (at_builtin; refine wpList_append_own _ rfl _ _ 24 rfl w.heap.size 9 i0 (.string ⟨#[]⟩) 1 16 Tryd.underlying24 hi hz0 hz1 hz2 rfl (by decide) _ _ _ rfl (hok3.alloc _) ⟨w3.heap.size, 0, none⟩ 1 1 [.string ⟨t.toArray⟩] rfl rfl ?c1 ?c2 ?c3 ?c4 ?c5 ?_)
        case c1 =>
          intro j u hj
          match j, hj with
          | 0, hj => simp at hj; subst hj; simp [Addr.add]
        case c2 => intro u hu; simp at hu; subst hu; rfl
        case c3 => unfold maxLen; omega
        case c4 => omega
        case c5 => simp; omega
        intro v' w4 hown4 hg4 _
        have hrow : ∀ j, u8.ownBlock = some j → w.heap.size ≤ j := fun j hj => (hok3.lt j hj).1
        have hnb : some b ≠ u8.ownBlock := fun e => by have := hrow b e.symm; omega
        have hlt3 : b < w3.heap.size := by omega
        have hc4 : w4.cell? ⟨b, 0, none⟩ = some (.string s3) := by
          rw [World.cell?_of_block (w := w3) ((hg4.block b (by simp; omega) hnb).trans (Below.heap_alloc w3 _ b hlt3))]
          exact hc3
        have hf4 : w4.frozen? ⟨b, 0, none⟩ = false := by
          rw [World.frozen?_of_block (w := w3) ((hg4.block b (by simp; omega) hnb).trans (Below.heap_alloc w3 _ b hlt3))]
          exact hf3
        have HG4 : Hid (w.grownBy w4 (some b)) := by
          have g1 := HG3.out
          have hs4 := hg4.size
          refine ⟨hg4.os.trans g1.os, hg4.tape.trans g1.tape, hg4.output.trans g1.output, by simp at hs4; omega, fun j hj hr => ?_⟩
          rw [hg4.block j (by simp; omega) (fun e => by have := hrow j e.symm; omega), Below.heap_alloc w3 _ j (by omega)]
          exact g1.block j hj hr
        have HO : Hid _ := hown4
        clear hown4 hg4 hok3 hrow hnb hc3 hf3
        go_wp2
        refine ⟨⟨k + 1, l ++ [t], by omega, by go_num, by rw [List.length_append, HLK.out]; rfl, ?_, ⟨s3, ?_, ?_, hc4⟩, hf4, HG4.out⟩, by simp [intOf]; omega⟩
        · rw [show strs (l ++ [t]) = strs l ++ [.string ⟨t.toArray⟩] from by simp [strs]]
          exact HO.out
        · rw [H2.out, H4.out, pkAll_snoc, H3.out]
          simp only [List.append_assoc]
        · have e1 := size_of H4.out
          have e2 := size_of H3.out
          simp only [List.length_append] at e1
          omega
    · exfalso
      obtain rfl : k = n := by omega
      exact HN.out ⟨l, s2.data.toList, by rw [HLK.out]; exact hnl, by rw [HLK.out]; exact H2.out⟩

set_option maxHeartbeats 1000000 in
theorem rd_texts_no (b : Nat) (s : ByteArray) (w : World) (hs : s.size ≤ 140737488355328) (hno : NoList s) (hc : w.cell? ⟨b, 0, none⟩ = some (.string s)) (hf : w.frozen? ⟨b, 0, none⟩ = false) :
    Calls Tryd.prog 41 #[.pointer (some ⟨b, 0, none⟩)] w fun e w' => e = PE ∧ w.grownBy w' (some b) := by
  have HN : Hid (NoList s) := hno
  clear hno
  go_enter Tryd.func41, Tryd.ntmps41
  go_wp2_with fail
  refine (rd_list_no b s w hs HN.out hc hf).mono ?_
  rintro e w1 ⟨rfl, hg⟩
  go_wp2
  exact ⟨rfl, rfl, hg⟩
end Go.Proofs.YtmjemnmcndajpaaDoor
