/- What Texts answers, errors too. -/
import Derived.Test.YtligalcphlfmcadPackT
namespace Go.Proofs.Ytligalcphlfmcad
open Go.RowKit Go.Shelf

set_option maxHeartbeats 1000000 in
set_option maxRecDepth 100000 in
theorem pk_list0 (B b cap : Nat) (a : Option Addr) (bs : List Value) (w : World) (h : PkIs B b bs w) (hlen : bs.length + 1 ≤ 140737488355328) (hBw : B ≤ w.heap.size) :
    Calls Try.prog 50 #[.pointer (some ⟨b, 0, none⟩), .slice a 0 cap, .func (.func 51) #[] #[]] w fun e w' => e = .returned (.tuple #[]) ∧ (PkIs B b (bs ++ Lib.byteCells (pk 0 ++ pkSS [])) w' ∧ Kp B b w w') := by
  go_enter Try.func50, Try.ntmps50
  go_wp2_with fail
  refine (number_any B b 0 bs w h (by omega) (by rw [show (pk 0).length = 1 from rfl]; omega) hBw).mono ?_
  rintro e w1 ⟨rfl, h1, hb1⟩
  go_wp2_with fail
  refine wp_loop_rounds 1 ?_
  rw [rounds_succ]
  go_wp2
  go_end0
  exact ⟨rfl, by simpa [pkSS] using h1, hb1⟩

/-- A slice of these texts that lies in old memory, below block B. -/
def OldTexts (B : Nat) (w : World) (v : Value) (ss : List ByteArray) : Prop :=
  ∃ a cap, v = .slice a ss.length cap ∧ (ss = [] ∨ ∃ g o, a = some ⟨g, o, none⟩ ∧ g < B ∧ ∀ j (hj : j < ss.length), w.cell? ⟨g, o + j, none⟩ = some (.string ss[j]))
theorem old_of (w : World) (v : Value) (ss : List ByteArray) (h : IsTexts w v ss) : OldTexts w.heap.size w v ss := by
  obtain ⟨_, a, cap, rfl, hs⟩ := h
  refine ⟨a, cap, rfl, ?_⟩
  rcases hs with rfl | ⟨g, o, rfl, hc⟩
  · exact Or.inl rfl
  by_cases h0 : ss.length = 0
  · exact Or.inl (List.length_eq_zero_iff.1 h0)
  · exact Or.inr ⟨g, o, rfl, World.block_lt_of_cell? w ⟨g, o + 0, none⟩ (hc 0 (by omega)), hc⟩
theorem texts_below {B : Nat} {w w' : World} {v : Value} {ss : List ByteArray} (h : OldTexts B w v ss) (hb : Below B w w') : OldTexts B w' v ss := by
  obtain ⟨a, cap, rfl, hs⟩ := h
  refine ⟨a, cap, rfl, ?_⟩
  rcases hs with rfl | ⟨g, o, rfl, hg, hc⟩
  · exact Or.inl rfl
  · exact Or.inr ⟨g, o, rfl, hg, fun j hj => (hb.cell (p := ⟨g, o + j, none⟩) hg).trans (hc j hj)⟩
theorem texts_of {B : Nat} {w : World} {v : Value} {ss : List ByteArray} (h : OldTexts B w v ss) (hn : ss.length ≤ 4611686018427387904) : IsTexts w v ss := by
  obtain ⟨a, cap, rfl, hs⟩ := h
  refine ⟨hn, a, cap, rfl, ?_⟩
  rcases hs with rfl | ⟨g, o, rfl, hg, hc⟩
  · exact Or.inl rfl
  · exact Or.inr ⟨g, o, rfl, hc⟩

def okTexts (ss : List ByteArray) : Prop := ss.length ≤ 2000 ∧ ∀ s ∈ ss, s.size ≤ 100000

theorem pk_list_any (B b : Nat) (v : Value) (bs : List Value) (ss : List ByteArray) (w : World) (h : PkIs B b bs w) (hok : okTexts ss) (ho : OldTexts B w v ss) (hlen : bs.length + (pk ss.length ++ pkSS ss).length ≤ 140737488355328) (hBw : B ≤ w.heap.size) :
    Calls Try.prog 50 #[.pointer (some ⟨b, 0, none⟩), v, .func (.func 51) #[] #[]] w fun e w' => e = .returned (.tuple #[]) ∧ (PkIs B b (bs ++ Lib.byteCells (pk ss.length ++ pkSS ss)) w' ∧ Kp B b w w') := by
  obtain ⟨a, cap, rfl, hs⟩ := ho
  rcases hs with rfl | ⟨g, o, rfl, hg, hc⟩
  · exact pk_list0 B b cap a bs w h (by have : (pk ([] : List ByteArray).length ++ pkSS []).length = 1 := rfl; omega) hBw
  · exact pk_list B b g o cap bs ss w h hok.1 hok.2 hg hc hlen hBw

set_option maxHeartbeats 1000000 in
theorem pk_texts (B b : Nat) (v : Value) (bs : List Value) (ss : List ByteArray) (w : World) (h : PkIs B b bs w) (hok : okTexts ss) (ho : OldTexts B w v ss) (hlen : bs.length + (pk ss.length ++ pkSS ss).length ≤ 140737488355328) (hBw : B ≤ w.heap.size) :
    Calls Try.prog 32 #[.pointer (some ⟨b, 0, none⟩), v] w fun e w' => e = .returned (.tuple #[]) ∧ (PkIs B b (bs ++ Lib.byteCells (pk ss.length ++ pkSS ss)) w' ∧ Kp B b w w') := by
  go_enter Try.func32, Try.ntmps32
  go_wp2_with fail
  refine (pk_list_any B b v bs ss w h hok ho hlen hBw).mono ?_
  rintro e w1 ⟨rfl, h1, hb1⟩
  go_wp2
  go_end0
  exact ⟨rfl, h1, hb1⟩

theorem pkSS_len (ss : List ByteArray) (hs : ∀ s ∈ ss, s.size ≤ 100000) : (pkSS ss).length ≤ ss.length * 100008 := by
  induction ss with
  | nil => simp [pkSS]
  | cons s l ih =>
    have h1 := ih (fun t ht => hs t (List.mem_cons_of_mem _ ht))
    have h2 := hs s (List.mem_cons_self ..)
    have h3 := pk_len8 s.size (by omega)
    have h4 := size_of (s := s) rfl
    simp only [pkSS, pkT, List.length_append, List.length_cons]
    omega
theorem pkTexts_len (ss : List ByteArray) (h : okTexts ss) : (pk ss.length ++ pkSS ss).length ≤ 200016008 := by
  have h1 := pkSS_len ss h.2
  have h2 := pk_len8 ss.length (by have := h.1; omega)
  have h3 := h.1
  rw [List.length_append]
  omega

set_option maxHeartbeats 1000000 in
set_option maxRecDepth 100000 in
theorem packed_texts (v : Value) (ss : List ByteArray) (w : World) (hok : okTexts ss) (ht : OldTexts w.heap.size w v ss) :
    Calls Try.prog 31 #[v, .func (.func 32) #[] #[]] w fun e w' => e = .returned (.string ⟨(pk ss.length ++ pkSS ss).toArray⟩) ∧ Below w.heap.size w w' := by
  have hl := pkTexts_len ss hok
  have hpos := pk_pos ss.length
  have b0 : Below w.heap.size w (w.alloc (.cells #[.pointer none, .slice none 0 0] 86)) := (Below.refl _ _).alloc (Nat.le_refl _) _
  have HO : Hid (OldTexts w.heap.size (w.alloc (.cells #[.pointer none, .slice none 0 0] 86)) v ss) := texts_below ht b0
  have H0 : Hid _ := b0
  have HK : Hid _ := hok
  obtain ⟨a, cap, rfl, _⟩ := ht
  clear b0 hok
  go_enter Try.func31, Try.ntmps31
  go_wp2_with fail
  refine (pk_texts w.heap.size w.heap.size _ [] ss _ (Lib.fresh_isBuilder _ _ w) HK.out HO.out (by simp only [List.length_nil]; omega) (by simp)).mono ?_
  rintro e w1 ⟨rfl, h1, hb1⟩
  go_wp2_with fail
  refine (st_any w.heap.size w.heap.size (pk ss.length ++ pkSS ss) w1 (by simpa using h1) (by intro h; rw [List.append_eq_nil_iff] at h; rw [h.1] at hpos; simp at hpos)).mono ?_
  rintro e w2 ⟨rfl, hb2⟩
  go_wp2
  go_ret
  exact ⟨rfl, (H0.out.trans hb1.bel).trans hb2⟩

theorem te_texts (v : Value) (ss : List ByteArray) (w : World) (h : IsTexts w v ss) :
    (okTexts ss → Calls Try.prog 30 #[v] w fun e w' => e = .returned (.int .i64 0) ∧ w' = w) ∧
    (¬ okTexts ss → Calls Try.prog 30 #[v] w fun e w' => e = .returned (.int .i64 2) ∧ w' = w) := by
  obtain ⟨hn, a, cap, rfl, hs⟩ := h
  refine ⟨fun hok => ?_, fun hno => ?_⟩
  · refine te_ok _ ss.length ⟨_, _, rfl⟩ w hok.1 ?_
    rcases hs with rfl | ⟨g, o, rfl, hc⟩
    · exact cf_zero a cap w
    · exact cf_none g o cap ss w hn hc hok.2
  · by_cases hl : ss.length ≤ 2000
    · refine te_long _ ss.length ⟨_, _, rfl⟩ w hl ?_
      have hex : ∃ s ∈ ss, 100000 < s.size := Classical.byContradiction fun hne => hno ⟨hl, fun s hs => Nat.le_of_not_lt fun h => hne ⟨s, hs, h⟩⟩
      rcases hs with rfl | ⟨g, o, rfl, hc⟩
      · obtain ⟨s, hs, _⟩ := hex
        cases hs
      · exact cf_some g o cap ss w hn hc hex
    · exact te_many a ss.length cap w (by omega)

set_option maxHeartbeats 1000000 in
set_option maxRecDepth 100000 in
theorem Texts_yes (v : Value) (ss : List ByteArray) (w : World) (hok : okTexts ss) (ht : IsTexts w v ss) :
    Calls Try.prog 13 #[v] w fun e w' => e = .returned (.tuple #[.string ⟨(pk ss.length ++ pkSS ss).toArray⟩, .int .i64 0]) ∧ Below w.heap.size w w' := by
  have H1 : Hid (Calls Try.prog 30 #[v] w fun e w' => e = .returned (.int .i64 0) ∧ w' = w) := (te_texts v ss w ht).1 hok
  have H2 : Hid _ := old_of w v ss ht
  have HK : Hid _ := hok
  obtain ⟨_, a, cap, rfl, _⟩ := ht
  clear hok
  go_enter Try.func13, Try.ntmps13
  go_wp2_with fail
  refine (H1.out).mono ?_
  rintro e w' ⟨rfl, rfl⟩
  go_wp2_with fail
  refine (packed_texts _ ss w' HK.out H2.out).mono ?_
  rintro e w1 ⟨rfl, hb1⟩
  go_wp2
  go_ret2
  exact ⟨rfl, hb1⟩

set_option maxHeartbeats 1000000 in
theorem Texts_no (v : Value) (ss : List ByteArray) (w : World) (hok : ¬ okTexts ss) (ht : IsTexts w v ss) :
    Calls Try.prog 13 #[v] w fun e w' => e = .returned (.tuple #[.string ⟨#[]⟩, .int .i64 2]) ∧ w' = w := by
  have H1 : Hid (Calls Try.prog 30 #[v] w fun e w' => e = .returned (.int .i64 2) ∧ w' = w) := (te_texts v ss w ht).2 hok
  obtain ⟨_, a, cap, rfl, _⟩ := ht
  clear hok
  go_enter Try.func13, Try.ntmps13
  go_wp2_with fail
  refine (H1.out).mono ?_
  rintro e w' ⟨rfl, rfl⟩
  go_wp2
  go_ret2
  exact ⟨rfl, rfl⟩
end Go.Proofs.Ytligalcphlfmcad
