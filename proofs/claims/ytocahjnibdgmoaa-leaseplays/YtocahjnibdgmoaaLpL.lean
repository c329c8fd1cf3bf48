/- SameTexts, textsAre of two rows that hold the same; the document's RightTerms. -/
import Derived.Test.YtocahjnibdgmoaaLpK
namespace Go.Proofs.Ytocahjnibdgmoaa
open Go.RowKit Go.Shelf Go.Sort

set_option maxHeartbeats 4000000 in
set_option maxRecDepth 100000 in
theorem SameT (v u : Value) (T : List (List UInt8)) (w : World) {B1 B2 : Nat} (h : w.ownsRow B1 9 1 v T.length (T.map encStr)) (h' : w.ownsRow B2 9 1 u T.length (T.map encStr)) (hn : T.length ≤ 1000000) :
    Calls Try.prog 39 #[v, u] w fun e w' => e = .returned (.bool true) ∧ ∃ n, w' = w.drewN n := by
  obtain ⟨a, cap, rfl⟩ := row_shape h
  obtain ⟨a', cap', rfl⟩ := row_shape h'
  obtain ⟨n, hN⟩ : ∃ n, n = T.length := ⟨_, rfl⟩
  have H : Hid (n = T.length ∧ n ≤ 1000000 ∧ w.ownsRow B1 9 1 (.slice a T.length cap) T.length (T.map encStr) ∧ w.ownsRow B2 9 1 (.slice a' T.length cap') T.length (T.map encStr)) := ⟨hN, by omega, h, h'⟩
  rw [← hN]
  clear h h' hn hN
  go_enter Try.func39, Try.ntmps39
  go_wp2
  go_loopw [5] (fun i wr => ∃ k m : Nat, k ≤ n ∧ i = .int .i64 (k : Int) ∧ wr = w.drewN m) (fun i _ => n - (RowKit.intOf i).toNat)
  case atStart => exact ⟨0, 0, Nat.zero_le _, rfl, rfl⟩
  case round =>
    obtain ⟨k, m, hk, rfl, rfl⟩ := hrel
    by_cases hlt : k < n
    · obtain ⟨hN, hb, h, h'⟩ := H.out
      have hki : (k : Int) < (n : Int) := by omega
      obtain ⟨g1, p1, hv1, c1⟩ := row_s (w := w) (l := T) (.inl h) k (by omega)
      obtain ⟨g2, p2, hv2, c2⟩ := row_s (w := w) (l := T) (.inl h') k (by omega)
      cases hv1
      cases hv2
      obtain ⟨k1, hk1⟩ : ∃ k1, k1 = k + 1 := ⟨_, rfl⟩
      have ek1 : (k : Int) + 1 = (k1 : Int) := by omega
      have ek2 : IntKind.i64.wrap (k1 : Int) = (k1 : Int) := by rw [IntKind.wrap_i64]; omega
      have HK : Hid (k1 = k + 1 ∧ k < n) := ⟨hk1, hlt⟩
      generalize (⟨(T[k]'(by omega)).toArray⟩ : ByteArray) = x at c1 c2
      clear hN hb h h' hk1 hk hlt
      go_wp2
      go_quiet (fail)
      go_wp2
      refine ⟨⟨k1, m + nq, by have := HK.out; omega, rfl, by simp⟩, ?_⟩
      have := HK.out
      simp [RowKit.intOf]; omega
    · have hki : ¬ (k : Int) < (n : Int) := by omega
      clear hk hlt
      go_wp2
      go_ret
      exact ⟨rfl, m, rfl⟩

set_option maxHeartbeats 1000000 in
theorem textsT (v u : Value) (er : Int) (T : List (List UInt8)) (w : World) {B1 B2 : Nat} (h : w.ownsRow B1 9 1 v T.length (T.map encStr)) (h' : w.ownsRow B2 9 1 u T.length (T.map encStr)) (hn : T.length ≤ 1000000) (he : er ≠ 0 → T = []) :
    Calls Try.prog 20 #[v, .int .i64 er, .int .i64 er, u] w fun e w' => e = .returned (.bool true) ∧ ∃ n, w' = w.drewN n := by
  by_cases h0 : er = 0
  · subst h0
    have HS : Hid (Calls Try.prog 39 #[v, u] w fun e w' => e = .returned (.bool true) ∧ ∃ n, w' = w.drewN n) := SameT v u T w h h' hn
    obtain ⟨a, cap, rfl⟩ := row_shape h
    obtain ⟨a', cap', rfl⟩ := row_shape h'
    clear h h' he hn
    go_enter Try.func20, Try.ntmps20
    go_wp2_with (first | (go_at_call 39; refine HS.out.mono ?_; rintro e w' ⟨rfl, n, rfl⟩) | go_in)
    go_ret
    exact ⟨rfl, n, rfl⟩
  · have e0 := he h0
    subst e0
    have HS : Hid (Calls Try.prog 39 #[v, .slice none 0 0] w fun e w' => e = .returned (.bool true) ∧ ∃ n, w' = w.drewN n) := SameT (B2 := 0) v _ [] w h (World.ownsRow_nil _ _ _ _) hn
    obtain ⟨a, cap, rfl⟩ := row_shape h
    obtain ⟨a', cap', rfl⟩ := row_shape h'
    have k0 : (er == 0) = false := beq_eq_false_iff_ne.2 h0
    have k1 : (er != 0) = true := by simpa using h0
    clear h h' he hn h0
    go_enter Try.func20, Try.ntmps20
    go_wp2_with (first | (go_at_call 39; refine HS.out.mono ?_; rintro e w' ⟨rfl, n, rfl⟩) | go_in)
    go_ret
    exact ⟨by simp, n, rfl⟩

set_option maxHeartbeats 4000000 in
theorem right_any (a b c : Int) (w : World) :
    Calls Try.prog 8 #[.agg #[.int .i64 a, .int .i64 b, .int .i64 c]] w fun e w' => ∃ r : Bool, e = .returned (.bool r) ∧ (r = true ↔ termsOk a b c) ∧ Below w.heap.size w w' := by
  have HB : Hid (Below w.heap.size w (w.alloc (.cells #[.int .i64 a, .int .i64 b, .int .i64 c] 23))) := (Below.refl _ w).alloc (Nat.le_refl _) _
  have hx := heap_alloc_new w (.cells #[.int .i64 a, .int .i64 b, .int .i64 c] 23)
  have c0 : (w.alloc (.cells #[.int .i64 a, .int .i64 b, .int .i64 c] 23)).cell? ⟨w.heap.size, 0, none⟩ = some (.int .i64 a) := Lib.cell_of_heap hx 0
  have c1 : (w.alloc (.cells #[.int .i64 a, .int .i64 b, .int .i64 c] 23)).cell? ⟨w.heap.size, 1, none⟩ = some (.int .i64 b) := Lib.cell_of_heap hx 1
  have c2 : (w.alloc (.cells #[.int .i64 a, .int .i64 b, .int .i64 c] 23)).cell? ⟨w.heap.size, 2, none⟩ = some (.int .i64 c) := Lib.cell_of_heap hx 2
  clear hx
  by_cases h1 : 1 ≤ a
  · by_cases h2 : a ≤ 1000000000
    · by_cases h3 : 1 ≤ b
      · by_cases h4 : b ≤ 10
        · by_cases h5 : 1 ≤ c
          · by_cases h6 : c ≤ 5
            · go_enter Try.func8, Try.ntmps8
              go_wp2
              go_ret
              first | exact .inl ⟨rfl, by unfold termsOk; omega, HB.out⟩ | exact ⟨true, rfl, ⟨fun _ => by unfold termsOk; omega, fun _ => rfl⟩, HB.out⟩
            · go_enter Try.func8, Try.ntmps8
              go_wp2
              go_ret
              first | exact .inl ⟨rfl, by unfold termsOk; omega, HB.out⟩ | exact ⟨true, rfl, ⟨fun _ => by unfold termsOk; omega, fun _ => rfl⟩, HB.out⟩
          · go_enter Try.func8, Try.ntmps8
            go_wp2
            go_ret
            first | exact .inl ⟨rfl, by unfold termsOk; omega, HB.out⟩ | exact ⟨true, rfl, ⟨fun _ => by unfold termsOk; omega, fun _ => rfl⟩, HB.out⟩
        · go_enter Try.func8, Try.ntmps8
          go_wp2
          go_ret
          first | exact .inl ⟨rfl, by unfold termsOk; omega, HB.out⟩ | exact ⟨true, rfl, ⟨fun _ => by unfold termsOk; omega, fun _ => rfl⟩, HB.out⟩
      · go_enter Try.func8, Try.ntmps8
        go_wp2
        go_ret
        first | exact .inl ⟨rfl, by unfold termsOk; omega, HB.out⟩ | exact ⟨true, rfl, ⟨fun _ => by unfold termsOk; omega, fun _ => rfl⟩, HB.out⟩
    · go_enter Try.func8, Try.ntmps8
      go_wp2
      go_ret
      first | exact .inl ⟨rfl, by unfold termsOk; omega, HB.out⟩ | exact ⟨true, rfl, ⟨fun _ => by unfold termsOk; omega, fun _ => rfl⟩, HB.out⟩
  · go_enter Try.func8, Try.ntmps8
    go_wp2
    go_ret
    first | exact .inl ⟨rfl, by unfold termsOk; omega, HB.out⟩ | exact ⟨true, rfl, ⟨fun _ => by unfold termsOk; omega, fun _ => rfl⟩, HB.out⟩
end Go.Proofs.Ytocahjnibdgmoaa
