/- What wire's readList does where the text begins with a packed list of texts. -/
import Derived.Test.YtmjemnmcndajpaaDoorReader
namespace Go.Proofs.YtmjemnmcndajpaaDoor
open Go.RowKit Go.Shelf

def pkAll : List (List UInt8) → List UInt8
  | [] => []
  | t :: l => pk t.length ++ (t ++ pkAll l)
def strs (l : List (List UInt8)) : List Value := l.map fun t => .string ⟨t.toArray⟩
theorem infS : (Tryd.prog.info? 9).map (fun i => (i.zero, i.size, i.bytes)) = some (some (.string ⟨#[]⟩), 1, 16) := by kernel_rfl

set_option maxHeartbeats 2000000 in
set_option maxRecDepth 100000 in
theorem rd_list (b : Nat) (s : ByteArray) (w : World) (l : List (List UInt8)) (r : List UInt8) (hs : s.size ≤ maxLen) (hl : l.length ≤ 2000) (ht : ∀ t ∈ l, t.length ≤ 281474976710656) (h : s.data.toList = pk l.length ++ (pkAll l ++ r))
    (hc : w.cell? ⟨b, 0, none⟩ = some (.string s)) (hf : w.frozen? ⟨b, 0, none⟩ = false) :
    Calls Tryd.prog 61 #[.pointer (some ⟨b, 0, none⟩), .int .i64 2000, .func (.func 57) #[] #[]] w fun e w' => ∃ v, e = .returned v ∧ w'.ownsRow w.heap.size 9 1 v l.length (strs l) ∧ (∃ s' : ByteArray, s'.data.toList = r ∧ s'.size ≤ maxLen ∧ w'.cell? ⟨b, 0, none⟩ = some (.string s')) ∧ w'.frozen? ⟨b, 0, none⟩ = false ∧ w.grownBy w' (some b) := by
  obtain ⟨i0, hi, hz0, hz1, hz2⟩ := info_parts infS
  have hbl : b < w.heap.size := World.block_lt_of_cell? w ⟨b, 0, none⟩ hc
  go_enter Tryd.func61, Tryd.ntmps61
  go_wp2_with fail
  refine (rd_number b s _ l.length (pkAll l ++ r) hs (by omega) h hc hf).mono ?_
  rintro e w1 ⟨rfl, s1, h1, hs1, rfl⟩
  have hle : (l.length : Int) ≤ 2000 := by omega
  have H1 : Hid _ := h1
  have HC : Hid _ := hc
  have HT : Hid _ := ht
  clear h h1 hs hc ht
  go_wp2_with (at_make; refine wpList_make_own _ rfl _ _ 24 rfl w.heap.size 9 i0 (.string ⟨#[]⟩) 1 Tryd.underlying24 hi hz0 hz1 _ _ _ l.length rfl rfl ?m1 ?m2 ?m3 ?m4 ?_)
  case m1 => rfl
  case m2 => rw [hz2]; omega
  case m3 => unfold maxLen; omega
  case m4 => simp
  intro w2 hown hg2
  have hc2 : w2.cell? ⟨b, 0, none⟩ = some (.string s1) := hg2.cell (World.cell?_setCell_same' _ _ _ (by rw [HC.out]; rfl)) (by simp)
  have hf2 : w2.frozen? ⟨b, 0, none⟩ = false := by
    rw [World.frozen?_of_block (w := w.setCell ⟨b, 0, none⟩ (.string s1)) (hg2.block b (by simp; exact hbl) (by simp))]
    simpa using hf
  have hgr : w.grownBy w2 (some b) := grownBy_trans (grownBy_set w b 0 _) ⟨hg2.os, hg2.tape, hg2.output, hg2.size, fun k hk _ => hg2.block k hk (by simp)⟩
  clear hg2 hf
  go_wp2
  go_loopw [8, 18] (fun v i wr => ∃ k : Nat, k ≤ l.length ∧ i = .int .i64 k ∧ wr.ownsRow w.heap.size 9 1 v k (strs (l.take k)) ∧ (∃ s' : ByteArray, s'.data.toList = pkAll (l.drop k) ++ r ∧ s'.size ≤ maxLen ∧ wr.cell? ⟨b, 0, none⟩ = some (.string s')) ∧ wr.frozen? ⟨b, 0, none⟩ = false ∧ w.grownBy wr (some b)) (fun _ i _ => l.length - (intOf i).toNat)
  case atStart => exact ⟨0, Nat.zero_le _, rfl, by simpa [strs] using hown, ⟨s1, by simpa using H1.out, hs1, hc2⟩, hf2, hgr⟩
  case round =>
    obtain ⟨k, hk, rfl, hok, ⟨s2, h2, hs2, hck⟩, hfk, hgk⟩ := hrel
    clear hown hc2 hf2 hgr
    have H2 : Hid _ := h2
    have hsz := hgk.size
    clear h2
    by_cases hlt : k < l.length
    · obtain ⟨t, ht⟩ : ∃ t, l[k]? = some t := ⟨l[k], List.getElem?_eq_getElem hlt⟩
      have HD : Hid (l.drop k = t :: l.drop (k + 1)) := by
        obtain ⟨h', rfl⟩ := List.getElem?_eq_some_iff.1 ht
        exact List.drop_eq_getElem_cons h'
      have HK : Hid (l.take (k + 1) = l.take k ++ [t]) := by
        obtain ⟨h', rfl⟩ := List.getElem?_eq_some_iff.1 ht
        exact List.take_succ_eq_append_getElem h'
      have hle1 : t.length ≤ 281474976710656 := HT.out t (List.mem_of_getElem? ht)
      clear ht
      go_wp2_with fail
      refine (rd_text b s2 _ t (pkAll (l.drop (k + 1)) ++ r) hs2 hle1 (by rw [H2.out, HD.out]; simp [pkAll]) hck hfk).mono ?_
      rintro e w3 ⟨rfl, ⟨s3, h3, hs3, hc3⟩, hf3, hg3⟩
      have hok3 := hok.kept hg3 (Or.inr (fun e => by have := hok.lt b e; omega))
      have HG3 : Hid _ := grownBy_trans hgk hg3
      have H3 : Hid _ := h3
      have hsz3 := hg3.size
      clear hok hg3 h3 hck hfk hgk
      go_wp2_with (at_builtin; refine wpList_append_own _ rfl _ _ 24 rfl w.heap.size 9 i0 (.string ⟨#[]⟩) 1 16 Tryd.underlying24 hi hz0 hz1 hz2 rfl (by decide) _ _ _ rfl (hok3.alloc _) ⟨w3.heap.size, 0, none⟩ 1 1 [.string ⟨t.toArray⟩] rfl rfl ?c1 ?c2 ?c3 ?c4 ?c5 ?_)
      case c1 =>
        intro j u hj
        match j, hj with
        | 0, hj => simp at hj; subst hj; simp [Addr.add]
      case c2 => intro u hu; simp at hu; subst hu; rfl
      case c3 => unfold maxLen; omega
      case c4 => omega
      case c5 => simp; omega
      intro v' w4 hown4 hg4 _
      have hrow : ∀ j, u8.ownBlock = some j → w.heap.size ≤ j := fun j hj => (hok3.lt j hj).1
      have hnb : some b ≠ u8.ownBlock := fun e => by have := hrow b e.symm; omega
      have hlt3 : b < w3.heap.size := by omega
      have hc4 : w4.cell? ⟨b, 0, none⟩ = some (.string s3) := by
        rw [World.cell?_of_block (w := w3) ((hg4.block b (by simp; omega) hnb).trans (Below.heap_alloc w3 _ b hlt3))]
        exact hc3
      have hf4 : w4.frozen? ⟨b, 0, none⟩ = false := by
        rw [World.frozen?_of_block (w := w3) ((hg4.block b (by simp; omega) hnb).trans (Below.heap_alloc w3 _ b hlt3))]
        exact hf3
      have HG4 : Hid (w.grownBy w4 (some b)) := by
        have g1 := HG3.out
        have hs4 := hg4.size
        refine ⟨hg4.os.trans g1.os, hg4.tape.trans g1.tape, hg4.output.trans g1.output, by simp at hs4; omega, fun j hj hr => ?_⟩
        rw [hg4.block j (by simp; omega) (fun e => by have := hrow j e.symm; omega), Below.heap_alloc w3 _ j (by omega)]
        exact g1.block j hj hr
      have HO : Hid _ := hown4
      clear hown4 hg4 hok3 hrow hnb hc3 hf3
      go_wp2
      refine ⟨⟨k + 1, by omega, by go_num, ?_, ⟨s3, H3.out, hs3, hc4⟩, hf4, HG4.out⟩, by simp [intOf]; omega⟩
      rw [HK.out, show strs (l.take k ++ [t]) = strs (l.take k) ++ [.string ⟨t.toArray⟩] from by simp [strs]]
      exact HO.out
    · obtain rfl : k = l.length := by omega
      go_wp2
      go_ret
      refine ⟨_, rfl, by simpa using hok, ⟨s2, by simpa [pkAll] using H2.out, hs2, hck⟩, hfk, hgk⟩
end Go.Proofs.YtmjemnmcndajpaaDoor
