/- What Texts answers, errors too. -/
import Derived.Test.YtmjemnmcndajpaaDoorPackT
namespace Go.Proofs.YtmjemnmcndajpaaDoor
open Go.RowKit Go.Shelf

set_option maxHeartbeats 1000000 in
set_option maxRecDepth 100000 in
theorem pk_list0 (B b cap : Nat) (a : Option Addr) (bs : List Value) (w : World) (h : PkIs B b bs w) (hlen : bs.length + 1 ≤ 140737488355328) (hBw : B ≤ w.heap.size) :
    Calls Tryd.prog 67 #[.pointer (some ⟨b, 0, none⟩), .slice a 0 cap, .func (.func 53) #[] #[]] w fun e w' => e = .returned (.tuple #[]) ∧ (PkIs B b (bs ++ Lib.byteCells (pk 0 ++ pkSS [])) w' ∧ Kp B b w w') := by
  go_enter Tryd.func67, Tryd.ntmps67
  go_wp2_with fail
  refine (number_any B b 0 bs w h (by omega) (by rw [show (pk 0).length = 1 from rfl]; omega) hBw).mono ?_
  rintro e w1 ⟨rfl, h1, hb1⟩
  go_wp2_with fail
  refine wp_loop_rounds 1 ?_
  rw [rounds_succ]
  go_wp2
  go_end0
  exact ⟨rfl, by simpa [pkSS] using h1, hb1⟩

/-- A slice of these texts that lies in old memory, below block B. -/
def OldTexts (B : Nat) (w : World) (v : Value) (ss : List ByteArray) : Prop :=
  ∃ a cap, v = .slice a ss.length cap ∧ (ss = [] ∨ ∃ g o, a = some ⟨g, o, none⟩ ∧ g < B ∧ ∀ j (hj : j < ss.length), w.cell? ⟨g, o + j, none⟩ = some (.string ss[j]))
theorem old_of (w : World) (v : Value) (ss : List ByteArray) (h : IsTexts w v ss) : OldTexts w.heap.size w v ss := by
  obtain ⟨_, a, cap, rfl, hs⟩ := h
  refine ⟨a, cap, rfl, ?_⟩
  rcases hs with rfl | ⟨g, o, rfl, hc⟩
  · exact Or.inl rfl
  by_cases h0 : ss.length = 0
  · exact Or.inl (List.length_eq_zero_iff.1 h0)
  · exact Or.inr ⟨g, o, rfl, World.block_lt_of_cell? w ⟨g, o + 0, none⟩ (hc 0 (by omega)), hc⟩
theorem texts_below {B : Nat} {w w' : World} {v : Value} {ss : List ByteArray} (h : OldTexts B w v ss) (hb : Below B w w') : OldTexts B w' v ss := by
  obtain ⟨a, cap, rfl, hs⟩ := h
  refine ⟨a, cap, rfl, ?_⟩
  rcases hs with rfl | ⟨g, o, rfl, hg, hc⟩
  · exact Or.inl rfl
  · exact Or.inr ⟨g, o, rfl, hg, fun j hj => (hb.cell (p := ⟨g, o + j, none⟩) hg).trans (hc j hj)⟩
theorem texts_of {B : Nat} {w : World} {v : Value} {ss : List ByteArray} (h : OldTexts B w v ss) (hn : ss.length ≤ 4611686018427387904) : IsTexts w v ss := by
  obtain ⟨a, cap, rfl, hs⟩ := h
  refine ⟨hn, a, cap, rfl, ?_⟩
  rcases hs with rfl | ⟨g, o, rfl, hg, hc⟩
  · exact Or.inl rfl
  · exact Or.inr ⟨g, o, rfl, hc⟩

def okTexts (ss : List ByteArray) : Prop := ss.length ≤ 2000 ∧ ∀ s ∈ ss, s.size ≤ 100000

theorem pk_list_any (B b : Nat) (v : Value) (bs : List Value) (ss : List ByteArray) (w : World) (h : PkIs B b bs w) (hok : okTexts ss) (ho : OldTexts B w v ss) (hlen : bs.length + (pk ss.length ++ pkSS ss).length ≤ 140737488355328) (hBw : B ≤ w.heap.size) :
    Calls Tryd.prog 67 #[.pointer (some ⟨b, 0, none⟩), v, .func (.func 53) #[] #[]] w fun e w' => e = .returned (.tuple #[]) ∧ (PkIs B b (bs ++ Lib.byteCells (pk ss.length ++ pkSS ss)) w' ∧ Kp B b w w') := by
  obtain ⟨a, cap, rfl, hs⟩ := ho
  rcases hs with rfl | ⟨g, o, rfl, hg, hc⟩
  · exact pk_list0 B b cap a bs w h (by have : (pk ([] : List ByteArray).length ++ pkSS []).length = 1 := rfl; omega) hBw
  · exact pk_list B b g o cap bs ss w h hok.1 hok.2 hg hc hlen hBw

set_option maxHeartbeats 1000000 in
theorem pk_texts (B b : Nat) (v : Value) (bs : List Value) (ss : List ByteArray) (w : World) (h : PkIs B b bs w) (hok : okTexts ss) (ho : OldTexts B w v ss) (hlen : bs.length + (pk ss.length ++ pkSS ss).length ≤ 140737488355328) (hBw : B ≤ w.heap.size) :
    Calls Tryd.prog 52 #[.pointer (some ⟨b, 0, none⟩), v] w fun e w' => e = .returned (.tuple #[]) ∧ (PkIs B b (bs ++ Lib.byteCells (pk ss.length ++ pkSS ss)) w' ∧ Kp B b w w') := by
  go_enter Tryd.func52, Tryd.ntmps52
  go_wp2_with fail
  refine (pk_list_any B b v bs ss w h hok ho hlen hBw).mono ?_
  rintro e w1 ⟨rfl, h1, hb1⟩
  go_wp2
  go_end0
  exact ⟨rfl, h1, hb1⟩

theorem pkSS_len (ss : List ByteArray) (hs : ∀ s ∈ ss, s.size ≤ 100000) : (pkSS ss).length ≤ ss.length * 100008 := by
  induction ss with
  | nil => simp [pkSS]
  | cons s l ih =>
    have h1 := ih (fun t ht => hs t (List.mem_cons_of_mem _ ht))
    have h2 := hs s (List.mem_cons_self ..)
    have h3 := pk_len8 s.size (by omega)
    have h4 := size_of (s := s) rfl
    simp only [pkSS, pkT, List.length_append, List.length_cons]
    omega
theorem pkTexts_len (ss : List ByteArray) (h : okTexts ss) : (pk ss.length ++ pkSS ss).length ≤ 200016008 := by
  have h1 := pkSS_len ss h.2
  have h2 := pk_len8 ss.length (by have := h.1; omega)
  have h3 := h.1
  rw [List.length_append]
  omega

theorem te_texts (v : Value) (ss : List ByteArray) (w : World) (h : IsTexts w v ss) :
    (okTexts ss → Calls Tryd.prog 42 #[v] w fun e w' => e = .returned (.int .i64 0) ∧ w' = w) ∧
    (¬ okTexts ss → Calls Tryd.prog 42 #[v] w fun e w' => e = .returned (.int .i64 2) ∧ w' = w) := by
  obtain ⟨hn, a, cap, rfl, hs⟩ := h
  refine ⟨fun hok => ?_, fun hno => ?_⟩
  · refine te_ok _ ss.length ⟨_, _, rfl⟩ w hok.1 ?_
    rcases hs with rfl | ⟨g, o, rfl, hc⟩
    · exact cf_zero a cap w
    · exact cf_none g o cap ss w hn hc hok.2
  · by_cases hl : ss.length ≤ 2000
    · refine te_long _ ss.length ⟨_, _, rfl⟩ w hl ?_
      have hex : ∃ s ∈ ss, 100000 < s.size := Classical.byContradiction fun hne => hno ⟨hl, fun s hs => Nat.le_of_not_lt fun h => hne ⟨s, hs, h⟩⟩
      rcases hs with rfl | ⟨g, o, rfl, hc⟩
      · obtain ⟨s, hs, _⟩ := hex
        cases hs
      · exact cf_some g o cap ss w hn hc hex
    · exact te_many a ss.length cap w (by omega)
end Go.Proofs.YtmjemnmcndajpaaDoor
