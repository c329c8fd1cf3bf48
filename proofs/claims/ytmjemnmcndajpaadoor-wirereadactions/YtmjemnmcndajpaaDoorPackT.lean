/- What wire's packer does with texts, and Texts. -/
import Derived.Test.YtmjemnmcndajpaaDoorSame
namespace Go.Proofs.YtmjemnmcndajpaaDoor
open Go.RowKit Go.Shelf

set_option maxHeartbeats 2000000 in
set_option maxRecDepth 100000 in
theorem ws_any (B b : Nat) (bs : List Value) (s : ByteArray) (w : World) (h : PkIs B b bs w) (hlen : bs.length + s.size ≤ 140737488355328) (hBw : B ≤ w.heap.size) :
    Calls Tryd.prog 68 #[.pointer (some ⟨b, 0, none⟩), .string s] w fun e w' => e = .returned (.tuple #[.int .i64 s.size, .nilIface]) ∧ (PkAt B b (.pointer (some ⟨b, 0, none⟩)) (bs ++ Lib.strCells s) w' ∧ Kp B b w w') := by
  obtain ⟨i0, hi, hz0, hz1, hz2⟩ := info_parts infB
  go_enter Tryd.func68, Tryd.ntmps68
  go_wp2_with (go_at_call 71; refine (cc_any B b bs _ h).mono ?_)
  rintro e w1 ⟨rfl, h1, hb1, hk1⟩
  obtain ⟨hB, v, hbk, hown, hne⟩ := h1
  have c0 : w1.cell? ⟨b, 0, none⟩ = some (.pointer (some ⟨b, 0, none⟩)) := by rw [Lib.cell_of_heap hbk]; rfl
  have c1 : w1.cell? ⟨b, 1, none⟩ = some v := by rw [Lib.cell_of_heap hbk]; rfl
  go_wp2_with (at_builtin; refine Lib.wpList_append_own_string _ rfl _ _ 74 9 rfl B 5 i0 Tryd.underlying74 Tryd.underlying9 hi hz0 hz1 hz2 _ _ _ rfl hown s rfl ?c3 ?c4 ?c5 ?_)
  case c3 => unfold maxLen; omega
  case c4 => omega
  case c5 => have := hb1.size; omega
  intro v' w2 hown' hgrow _
  have hlt : b < w1.heap.size := by
    rcases Nat.lt_or_ge b w1.heap.size with h' | h'
    · exact h'
    · simp [Array.getElem?_eq_none h'] at hbk
  have hb2 : w2.heap[b]? = some (.cells #[.pointer (some ⟨b, 0, none⟩), v] 78 (0, 0)) := by
    rw [hgrow.block b hlt (fun e => hne e.symm)]
    exact hbk
  have d0 : w2.cell? ⟨b, 0, none⟩ = some (.pointer (some ⟨b, 0, none⟩)) := by rw [Lib.cell_of_heap hb2]; rfl
  have d1 : w2.cell? ⟨b, 1, none⟩ = some v := by rw [Lib.cell_of_heap hb2]; rfl
  have f1 : w2.frozen? ⟨b, 1, none⟩ = false := Lib.frozen_of_heap hb2 1
  obtain ⟨ao, n', cap, rfl⟩ : ∃ ao n' cap, v' = .slice ao n' cap := by
    rcases hown'.2 with ⟨hv, _⟩ | ⟨g, cap, cur, hv, _⟩
    · exact ⟨_, _, _, hv⟩
    · exact ⟨_, _, _, hv⟩
  go_wp2
  go_ret2
  refine ⟨rfl, ?_, ?_, (hk1.grown hgrow (own_kind hown)).setCell ⟨b, 1, none⟩ rfl _⟩
  · exact Lib.BuilderAt.put (T := 78) (e := 5) hB hb2 (bs' := bs ++ Lib.strCells s) (by simpa [Lib.strCells_length] using hown') (by decide)
  · exact (hb1.grown hgrow (by have := hb1.size; omega) (fun k hk => (hown.lt k hk).1)).setCell (p := ⟨b, 1, none⟩) hB _

def pkT (s : ByteArray) : List UInt8 := pk s.size ++ s.data.toList
def pkSS : List ByteArray → List UInt8
  | [] => []
  | s :: l => pkT s ++ pkSS l
theorem pkSS_append (l m : List ByteArray) : pkSS (l ++ m) = pkSS l ++ pkSS m := by
  induction l with
  | nil => rfl
  | cons s l ih => simp only [List.cons_append, pkSS, ih, List.append_assoc]
theorem pkSS_all (l : List (List UInt8)) : pkSS (l.map fun t => ⟨t.toArray⟩) = pkAll l := by
  induction l with
  | nil => rfl
  | cons t l ih =>
    simp only [List.map_cons, pkSS, pkAll, ih, pkT]
    rw [show (⟨t.toArray⟩ : ByteArray).size = t.length from size_of rfl]
    simp
theorem byteCells_app (a b : List UInt8) : Lib.byteCells (a ++ b) = Lib.byteCells a ++ Lib.byteCells b := by simp [Lib.byteCells]

set_option maxHeartbeats 1000000 in
set_option maxRecDepth 100000 in
theorem pk_text (B b : Nat) (bs : List Value) (s : ByteArray) (w : World) (h : PkIs B b bs w) (hs : s.size ≤ 9007199254740991) (hlen : bs.length + (pkT s).length ≤ 140737488355328) (hBw : B ≤ w.heap.size) :
    Calls Tryd.prog 53 #[.pointer (some ⟨b, 0, none⟩), .string s] w fun e w' => e = .returned (.tuple #[]) ∧ (PkIs B b (bs ++ Lib.byteCells (pkT s)) w' ∧ Kp B b w w') := by
  have hl : (pkT s).length = (pk s.size).length + s.size := by unfold pkT; rw [List.length_append, size_of (s := s) rfl]
  go_enter Tryd.func53, Tryd.ntmps53
  go_wp2_with fail
  refine (number_any B b s.size bs w h hs (by omega) hBw).mono ?_
  rintro e w1 ⟨rfl, h1, hb1⟩
  go_wp2_with fail
  refine (ws_any B b _ s w1 h1 (by simp [Lib.byteCells]; omega) (Nat.le_trans hBw hb1.size)).mono ?_
  rintro e w2 ⟨rfl, h2, hb2⟩
  go_wp2
  go_end0
  refine ⟨rfl, ?_, hb1.trans hb2⟩
  unfold pkT
  rw [byteCells_app, ← List.append_assoc]
  exact Or.inr h2

set_option maxHeartbeats 2000000 in
set_option maxRecDepth 100000 in
theorem pk_list (B b g o cap : Nat) (bs : List Value) (ss : List ByteArray) (w : World) (h : PkIs B b bs w) (hn : ss.length ≤ 2000) (hs : ∀ s ∈ ss, s.size ≤ 100000) (hg : g < B) (hcell : ∀ j (hj : j < ss.length), w.cell? ⟨g, o + j, none⟩ = some (.string ss[j]))
    (hlen : bs.length + (pk ss.length ++ pkSS ss).length ≤ 140737488355328) (hBw : B ≤ w.heap.size) :
    Calls Tryd.prog 67 #[.pointer (some ⟨b, 0, none⟩), .slice (some ⟨g, o, none⟩) ss.length cap, .func (.func 53) #[] #[]] w fun e w' => e = .returned (.tuple #[]) ∧ (PkIs B b (bs ++ Lib.byteCells (pk ss.length ++ pkSS ss)) w' ∧ Kp B b w w') := by
  have HC : Hid _ := hcell
  have HS : Hid _ := hs
  have HL : Hid (bs.length + ((pk ss.length).length + (pkSS ss).length) ≤ 140737488355328) := by show _ ≤ _; simpa using hlen
  have hn1 : (ss.length : Int) ≤ 2000 := by omega
  clear hcell hs hlen
  go_enter Tryd.func67, Tryd.ntmps67
  go_wp2_with fail
  refine (number_any B b ss.length bs w h (by omega) (by have := HL.out; omega) hBw).mono ?_
  rintro e w1 ⟨rfl, h1, hb1⟩
  clear h
  go_wp2_with fail
  go_loopw [14] (fun i wr => ∃ k : Nat, k ≤ ss.length ∧ i = .int .i64 k ∧ PkIs B b (bs ++ Lib.byteCells (pk ss.length ++ pkSS (ss.take k))) wr ∧ Kp B b w wr) (fun i _ => ss.length - (intOf i).toNat)
  case atStart => exact ⟨0, Nat.zero_le _, rfl, by simpa [pkSS] using h1, hb1⟩
  case round =>
    obtain ⟨k, hk, rfl, hp, hb⟩ := hrel
    clear h1 hb1
    have hsz := hb.size
    by_cases hlt : k < ss.length
    · have hc : wr.cell? ⟨g, o + k, none⟩ = some (.string ss[k]) := (hb.bel.cell (p := ⟨g, o + k, none⟩) hg).trans (HC.out k hlt)
      have hts : ss.take (k + 1) = ss.take k ++ [ss[k]] := List.take_succ_eq_append_getElem hlt
      have hsp : pkSS (ss.take (k + 1)) = pkSS (ss.take k) ++ pkT ss[k] := by rw [hts, pkSS_append]; simp [pkSS]
      have hle : (pkSS (ss.take (k + 1))).length ≤ (pkSS ss).length := by
        have e1 : pkSS ss = pkSS (ss.take (k + 1)) ++ pkSS (ss.drop (k + 1)) := by rw [← pkSS_append, List.take_append_drop]
        rw [e1, List.length_append]
        omega
      have hsl : (ss[k]).size ≤ 9007199254740991 := Nat.le_trans (HS.out _ (List.getElem_mem hlt)) (by decide)
      have hlen1 : (bs ++ Lib.byteCells (pk ss.length ++ pkSS (ss.take k))).length + (pkT ss[k]).length ≤ 140737488355328 := by
        have := HL.out
        rw [hsp, List.length_append] at hle
        simp [Lib.byteCells]
        omega
      have H1 : Hid _ := hlen1
      have H2 : Hid _ := hsp
      have H3 : Hid (Kp B b w wr) := hb
      have H4 : Hid (PkIs B b (bs ++ Lib.byteCells (pk ss.length ++ pkSS (ss.take k))) wr) := hp
      have H5 : Hid _ := hsl
      clear hlen1 hsp hb hp hts hle hsl
      go_wp2_with fail
      refine (pk_text B b _ ss[k] wr H4.out H5.out H1.out (Nat.le_trans hBw hsz)).mono ?_
      rintro e w2 ⟨rfl, h2, hb2⟩
      have H6 : Hid (Kp B b wr w2) := hb2
      have H7 : Hid (PkIs B b (bs ++ Lib.byteCells (pk ss.length ++ pkSS (ss.take k)) ++ Lib.byteCells (pkT ss[k])) w2) := h2
      clear hb2 h2
      go_wp2
      refine ⟨⟨k + 1, by omega, by go_num, ?_, H3.out.trans H6.out⟩, by simp [intOf]; omega⟩
      rw [H2.out, ← List.append_assoc, byteCells_app, ← List.append_assoc]
      exact H7.out
    · obtain rfl : k = ss.length := by omega
      go_wp2
      go_end0
      refine ⟨rfl, ?_, hb⟩
      rw [List.take_length] at hp
      exact hp
end Go.Proofs.YtmjemnmcndajpaaDoor
