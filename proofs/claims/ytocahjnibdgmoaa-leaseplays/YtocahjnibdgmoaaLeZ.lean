/- LeaseOver, walked. -/
import Derived.Test.YtocahjnibdgmoaaLeY
namespace Go.Proofs.Ytocahjnibdgmoaa
open Go.RowKit Go.Shelf Go.Maps Go.WideMaps Go.Sort

/-- The terms, in a block. -/
def wT (w : World) (a b c : Int) : World := w.alloc (.cells #[.int .i64 a, .int .i64 b, .int .i64 c] 23)
theorem wT_cells {w W : World} {a b c : Int} (h : Below (wT w a b c).heap.size (wT w a b c) W) : W.cell? ⟨w.heap.size, 0, none⟩ = some (.int .i64 a) ∧ W.cell? ⟨w.heap.size, 1, none⟩ = some (.int .i64 b) ∧ W.cell? ⟨w.heap.size, 2, none⟩ = some (.int .i64 c) := by
  have hz : (wT w a b c).heap.size = w.heap.size + 1 := World.size_alloc _ _
  have hb : W.heap[w.heap.size]? = some (.cells #[.int .i64 a, .int .i64 b, .int .i64 c] 23 (0, 0)) := (h.block _ (by omega)).trans (heap_alloc_new w _)
  exact ⟨Lib.cell_of_heap hb 0, Lib.cell_of_heap hb 1, Lib.cell_of_heap hb 2⟩
theorem wT_bel {w W : World} {a b c : Int} (h : Below (wT w a b c).heap.size (wT w a b c) W) : Below w.heap.size w W := by
  have hA : Below w.heap.size w (wT w a b c) := (Below.refl _ w).alloc (Nat.le_refl _) _
  exact hA.trans (h.mono hA.size)

set_option maxHeartbeats 4000000 in
set_option maxRecDepth 100000 in
theorem over_no (a b c wt bt mr : Int) (w : World) (h : ¬ termsOk a b c) :
    Calls Try.prog 5 #[.agg #[.int .i64 a, .int .i64 b, .int .i64 c], .int .i64 wt, .int .i64 bt, .int .i64 mr] w fun e w' => e = .returned (.bool true) ∧ Below w.heap.size w w' := by
  have HBg : Hid (Calls Try.prog 6 #[] (wT w a b c) fun e w' => e = .returned (.bool true) ∧ Hid (Below (wT w a b c).heap.size (wT w a b c) w')) := lbegun _
  have HN : Hid (∀ W, Calls Try.prog 7 #[.agg #[.int .i64 a, .int .i64 b, .int .i64 c]] W fun e w' => e = .returned (.tuple #[.pointer none, .int .i64 3]) ∧ Hid (Below W.heap.size W w')) := fun W => LNew_no a b c W h
  clear h
  go_enter Try.func5, Try.ntmps5
  go_wp2_with (first
    | (go_at_call 6; refine HBg.out.mono ?_; rintro e w1 ⟨rfl, R1⟩; obtain ⟨c0, c1, c2⟩ := wT_cells R1.out)
    | (go_at_call 7; refine (HN.out _).mono ?_; rintro e w2 ⟨rfl, R2⟩)
    | go_in)
  go_ret
  have h1 := wT_bel R1.out
  exact ⟨rfl, h1.trans (R2.out.mono h1.size)⟩

set_option maxHeartbeats 4000000 in
set_option maxRecDepth 100000 in
theorem over_yes (a b c : Nat) (wt bt mr : Int) (w : World) (h : termsOk a b c) (hwt : -9223372036854775808 ≤ wt ∧ wt ≤ 9223372036854775807) (hbt : -9223372036854775808 ≤ bt ∧ bt ≤ 9223372036854775807) (hmr : -9223372036854775808 ≤ mr ∧ mr ≤ 9223372036854775807) :
    Calls Try.prog 5 #[.agg #[.int .i64 a, .int .i64 b, .int .i64 c], .int .i64 wt, .int .i64 bt, .int .i64 mr] w fun e w' => e = .returned (.bool true) ∧ Below w.heap.size w w' := by
  obtain ⟨w0, hw0⟩ : ∃ w0, w0 = wT w a b c := ⟨_, rfl⟩
  have HBg : Hid (Calls Try.prog 6 #[] (wT w a b c) fun e w' => e = .returned (.bool true) ∧ Hid (Below w0.heap.size w0 w')) := by rw [hw0]; exact lbegun _
  have HC : Hid (∀ W, Below w0.heap.size w0 W → W.cell? ⟨w.heap.size, 0, none⟩ = some (.int .i64 a) ∧ W.cell? ⟨w.heap.size, 1, none⟩ = some (.int .i64 b) ∧ W.cell? ⟨w.heap.size, 2, none⟩ = some (.int .i64 c)) := fun W hb => wT_cells (by rw [← hw0]; exact hb)
  have HE : Hid (∀ W, Below w0.heap.size w0 W → Below w.heap.size w W) := fun W hb => wT_bel (a := a) (b := b) (c := c) (by rw [← hw0]; exact hb)
  have HN : Hid (∀ W, Below w0.heap.size w0 W → Calls Try.prog 7 #[.agg #[.int .i64 a, .int .i64 b, .int .i64 c]] W fun e w' => ∃ Bk, e = .returned (.tuple #[.pointer (some ⟨Bk, 0, none⟩), .int .i64 0]) ∧ Hid (BA w0 Bk a b c 0 [] w')) := fun W hb => BA.new h hb
  have HA : Hid (∀ W Bk, BA w0 Bk a b c 0 [] W → Calls Try.prog 10 #[.pointer (some ⟨Bk, 0, none⟩), .string ⟨#[97]⟩] W fun e w' => e = .returned (.int .i64 0) ∧ Hid (BA w0 Bk a b c 0 [⟨[97], false, 0, []⟩] w')) := fun W Bk h => by
    have := h.add tA tA_sz
    rw [addA.1, addA.2] at this
    exact this
  have HG : Hid (∀ W Bk, BA w0 Bk a b c 0 [⟨[97], false, 0, []⟩] W → Calls Try.prog 12 #[.pointer (some ⟨Bk, 0, none⟩), .string ⟨#[97]⟩, .int .i64 1, .int .i64 0] W fun e w' => e = .returned (.int .i64 0) ∧ Hid (BA w0 Bk a b c 0 (P1 a) w')) := fun W Bk h2 => by
    have := h2.grant tA tA_sz 1 0 (by decide)
    rw [tA_list, (grantA h).1, (grantA h).2] at this
    exact this
  obtain ⟨k1, k2, k3, k4, k5, k6⟩ := h
  obtain ⟨x, hx⟩ : ∃ x, x = chs bt (a + 1) := ⟨_, rfl⟩
  obtain ⟨y, hy⟩ : ∃ y, y = chs wt (2 * a) := ⟨_, rfl⟩
  have hxl : x ≤ a := by have := chs_lt bt (m := a + 1) (by omega); omega
  have hyl : y < 2 * a := by have := chs_lt wt (m := 2 * a) (by omega); omega
  obtain ⟨a1, ha1⟩ : ∃ a1, a1 = a + 1 := ⟨_, rfl⟩
  obtain ⟨a2, ha2⟩ : ∃ a2, a2 = 2 * a := ⟨_, rfl⟩
  obtain ⟨n, hn⟩ : ∃ n, n = x + y := ⟨_, rfl⟩
  obtain ⟨t, ht⟩ : ∃ t, t = x + a := ⟨_, rfl⟩
  obtain ⟨z, hz⟩ : ∃ z, z = chs mr 2 := ⟨_, rfl⟩
  have HCh : Hid (∀ W, (Calls Try.prog 9 #[.int .i64 bt, .int .i64 a1] W fun e w' => e = .returned (.int .i64 (x : Int)) ∧ w' = W) ∧ (Calls Try.prog 9 #[.int .i64 wt, .int .i64 a2] W fun e w' => e = .returned (.int .i64 (y : Int)) ∧ w' = W) ∧ (Calls Try.prog 9 #[.int .i64 mr, .int .i64 2] W fun e w' => e = .returned (.int .i64 (z : Int)) ∧ w' = W)) := fun W => by
    rw [hx, hy, hz, ha1, ha2]
    exact ⟨choose_any bt (a + 1) W hbt.1 hbt.2 (by omega), choose_any wt (2 * a) W hwt.1 hwt.2 (by omega), choose_any mr 2 W hmr.1 hmr.2 (by omega)⟩
  have e1 : (a : Int) + 1 = (a1 : Int) := by omega
  have f1 : IntKind.i64.wrap (a1 : Int) = (a1 : Int) := by rw [IntKind.wrap_i64]; omega
  have e2 : 2 * (a : Int) = (a2 : Int) := by omega
  have f2 : IntKind.i64.wrap (a2 : Int) = (a2 : Int) := by rw [IntKind.wrap_i64]; omega
  have e3 : (x : Int) + (y : Int) = (n : Int) := by omega
  have f3 : IntKind.i64.wrap (n : Int) = (n : Int) := by rw [IntKind.wrap_i64]; omega
  have e4 : (x : Int) + (a : Int) = (t : Int) := by omega
  have f4 : IntKind.i64.wrap (t : Int) = (t : Int) := by rw [IntKind.wrap_i64]; omega
  have hB := beatA (a := a) (b := b) (c := c) ⟨k1, k2, k3, k4, k5, k6⟩ (at_ := x) (by omega) (by omega)
  rw [e4] at hB
  have HBt : Hid (∀ W Bk, BA w0 Bk a b c 0 (P1 a) W → Calls Try.prog 14 #[.pointer (some ⟨Bk, 0, none⟩), .string ⟨#[97]⟩, .int .i64 1, .int .i64 x] W fun e w' => e = .returned (.int .i64 0) ∧ Hid (BA w0 Bk a b c x (P1 t) w')) := fun W Bk h2 => by
    have := h2.beat tA tA_sz 1 x (by decide)
    rw [tA_list, hB.1, hB.2.1, hB.2.2] at this
    exact this
  have HNl : Hid (n ≤ 3000000000) := by unfold Hid; omega
  have HXN : Hid (x ≤ n) := by unfold Hid; omega
  clear hB k1 k2 k3 k4 k5 k6 hx hy hz ha1 ha2 hn ht hwt hbt hmr hxl hyl hw0
  by_cases hnm : 1000000000 < (n : Int)
  · go_enter Try.func5, Try.ntmps5
    go_wp2_with (first
      | (go_at_call 6; refine HBg.out.mono ?_; rintro e w1 ⟨rfl, R1⟩; obtain ⟨c0, c1, c2⟩ := HC.out _ R1.out)
      | (go_at_call 7; refine (HN.out _ R1.out).mono ?_; rintro e w2 ⟨Bk, rfl, R2⟩)
      | (go_at_call 10; refine (HA.out _ _ R2.out).mono ?_; rintro e w3 ⟨rfl, R3⟩)
      | (go_at_call 12; refine (HG.out _ _ R3.out).mono ?_; rintro e w4 ⟨rfl, R4⟩; obtain ⟨d0, d1, d2⟩ := HC.out _ R4.out.bel)
      | (go_at_call 9; first | (with_reducible refine (HCh.out _).1.mono ?_; rintro e w' ⟨rfl, rfl⟩) | (with_reducible refine (HCh.out _).2.1.mono ?_; rintro e w' ⟨rfl, rfl⟩) | (with_reducible refine (HCh.out _).2.2.mono ?_; rintro e w' ⟨rfl, rfl⟩))
      | (go_at_call 14; refine (HBt.out _ _ R4.out).mono ?_; rintro e w5 ⟨rfl, R5⟩; obtain ⟨g0, g1, g2⟩ := HC.out _ R5.out.bel)
      | go_in)
    go_ret
    exact ⟨rfl, HE.out _ R5.out.bel⟩
  · have hT := tickA (at_ := x) (now := n) (t := t) (by omega) (by have := HXN.out; omega) (by omega)
    have hD := doneA (now := n) (t := t) (by omega) (by omega)
    by_cases hov : (n : Int) ≤ (t : Int)
    · rw [if_pos hov, if_pos hov] at hD
      have hov2 : ¬ (t : Int) < (n : Int) := by omega
      have HTk : Hid (∀ W Bk, BA w0 Bk a b c x (P1 t) W → Calls Try.prog 18 #[.pointer (some ⟨Bk, 0, none⟩), .int .i64 n] W fun e w' => ∃ ao cap, e = .returned (.tuple #[.slice ao 0 cap, .int .i64 0]) ∧ Hid (w'.ownsRow 0 9 1 (.slice ao 0 cap) 0 (([] : List (List UInt8)).map encStr) ∧ BA w0 Bk a b c n (P1 t) w')) := fun W Bk h2 => by
        have := h2.tick n
        rw [hT.1, hT.2.1, hT.2.2.1, hT.2.2.2, if_pos hov, if_pos hov] at this
        refine this.mono ?_
        rintro e w' ⟨ao, cap, rfl, r1, r2⟩
        exact ⟨ao, cap, rfl, own_low r1 (Nat.zero_le _), r2⟩
      have HLs : Hid (∀ W Bk, BA w0 Bk a b c n (P1 t) W → Calls Try.prog 23 #[.pointer (some ⟨Bk, 0, none⟩)] W fun e w' => ∃ ao cap, e = .returned (.slice ao 1 cap) ∧ Hid (BA w0 Bk a b c n (P1 t) w' ∧ Below W.heap.size W w')) := fun W Bk h2 => by
        refine h2.leases.mono ?_
        rintro e w' ⟨ao, cap, rfl, r1, r2, r3⟩
        exact ⟨ao, cap, rfl, r2, r3⟩
      have HOw : Hid (∀ (W W' : World) ao cap, W.ownsRow 0 9 1 (.slice ao 0 cap) 0 (([] : List (List UInt8)).map encStr) → Below W.heap.size W W' → W'.ownsRow 0 9 1 (.slice ao 0 cap) 0 (([] : List (List UInt8)).map encStr)) := fun W W' ao cap r1 r2 => own_heapL r1 fun g hg => r2.block g (r1.lt g hg).2
      have HHs : Hid (∀ (W : World) v, W.ownsRow 0 9 1 v 0 (([] : List (List UInt8)).map encStr) → Calls Try.prog 25 #[v, .string ⟨#[97]⟩] W fun e w' => e = .returned (.bool false) ∧ w' = W) := fun W v r1 => HasText_L (l := ([] : List (List UInt8))) tA r1 (by decide)
      have HDn : Hid (∀ W Bk, BA w0 Bk a b c n (P1 t) W → ∀ g, Calls Try.prog 16 #[.pointer (some ⟨Bk, 0, none⟩), .string ⟨#[97]⟩, .int .i64 1, .int .i64 n, .bool g] W fun e w' => e = .returned (.int .i64 0) ∧ Hid (Below w0.heap.size w0 w')) := fun W Bk h2 g => by
        have := h2.done tA tA_sz 1 n (by decide) g
        rw [tA_list, hD] at this
        refine this.mono ?_
        rintro e w' ⟨rfl, r1⟩
        exact ⟨rfl, r1.bel⟩
      clear hT hD
      go_enter Try.func5, Try.ntmps5
      go_wp2_with (first
      | (go_at_call 6; refine HBg.out.mono ?_; rintro e w1 ⟨rfl, R1⟩; obtain ⟨c0, c1, c2⟩ := HC.out _ R1.out)
      | (go_at_call 7; refine (HN.out _ R1.out).mono ?_; rintro e w2 ⟨Bk, rfl, R2⟩)
      | (go_at_call 10; refine (HA.out _ _ R2.out).mono ?_; rintro e w3 ⟨rfl, R3⟩)
      | (go_at_call 12; refine (HG.out _ _ R3.out).mono ?_; rintro e w4 ⟨rfl, R4⟩; obtain ⟨d0, d1, d2⟩ := HC.out _ R4.out.bel)
      | (go_at_call 9; first | (with_reducible refine (HCh.out _).1.mono ?_; rintro e w' ⟨rfl, rfl⟩) | (with_reducible refine (HCh.out _).2.1.mono ?_; rintro e w' ⟨rfl, rfl⟩) | (with_reducible refine (HCh.out _).2.2.mono ?_; rintro e w' ⟨rfl, rfl⟩))
      | (go_at_call 14; refine (HBt.out _ _ R4.out).mono ?_; rintro e w5 ⟨rfl, R5⟩; obtain ⟨g0, g1, g2⟩ := HC.out _ R5.out.bel)
      | (go_at_call 18; refine (HTk.out _ _ R5.out).mono ?_; rintro e w6 ⟨ao, cap, rfl, R6⟩)
      | (go_at_call 23; refine (HLs.out _ _ R6.out.2).mono ?_; rintro e w7 ⟨ao7, cap7, rfl, R7⟩; have R8 := HOw.out _ _ _ _ R6.out.1 R7.out.2; obtain ⟨h0, h1, h2⟩ := HC.out _ R7.out.1.bel)
      | (go_at_call 25; refine (HHs.out _ _ R8).mono ?_; rintro e w' ⟨rfl, rfl⟩)
      | (go_at_call 16; refine (HDn.out _ _ R7.out.1 _).mono ?_; rintro e w8 ⟨rfl, R9⟩)
      | go_in)
      go_ret
      exact ⟨rfl, HE.out _ R9.out⟩
    · rw [if_neg hov, if_neg hov] at hD
      have hov2 : (t : Int) < (n : Int) := by omega
      have HTk : Hid (∀ W Bk, BA w0 Bk a b c x (P1 t) W → Calls Try.prog 18 #[.pointer (some ⟨Bk, 0, none⟩), .int .i64 n] W fun e w' => ∃ ao cap, e = .returned (.tuple #[.slice ao 1 cap, .int .i64 0]) ∧ Hid (w'.ownsRow 0 9 1 (.slice ao 1 cap) 1 (([[97]] : List (List UInt8)).map encStr) ∧ BA w0 Bk a b c n [⟨[97], false, 1, []⟩] w')) := fun W Bk h2 => by
        have := h2.tick n
        rw [hT.1, hT.2.1, hT.2.2.1, hT.2.2.2, if_neg hov, if_neg hov] at this
        refine this.mono ?_
        rintro e w' ⟨ao, cap, rfl, r1, r2⟩
        exact ⟨ao, cap, rfl, own_low r1 (Nat.zero_le _), r2⟩
      have HLs : Hid (∀ W Bk, BA w0 Bk a b c n [⟨[97], false, 1, []⟩] W → Calls Try.prog 23 #[.pointer (some ⟨Bk, 0, none⟩)] W fun e w' => ∃ ao cap, e = .returned (.slice ao 0 cap) ∧ Hid (BA w0 Bk a b c n [⟨[97], false, 1, []⟩] w' ∧ Below W.heap.size W w')) := fun W Bk h2 => by
        refine h2.leases.mono ?_
        rintro e w' ⟨ao, cap, rfl, r1, r2, r3⟩
        exact ⟨ao, cap, rfl, r2, r3⟩
      have HOw : Hid (∀ (W W' : World) ao cap, W.ownsRow 0 9 1 (.slice ao 1 cap) 1 (([[97]] : List (List UInt8)).map encStr) → Below W.heap.size W W' → W'.ownsRow 0 9 1 (.slice ao 1 cap) 1 (([[97]] : List (List UInt8)).map encStr)) := fun W W' ao cap r1 r2 => own_heapL r1 fun g hg => r2.block g (r1.lt g hg).2
      have HHs : Hid (∀ (W : World) v, W.ownsRow 0 9 1 v 1 (([[97]] : List (List UInt8)).map encStr) → Calls Try.prog 25 #[v, .string ⟨#[97]⟩] W fun e w' => e = .returned (.bool true) ∧ w' = W) := fun W v r1 => HasText_L (l := ([[97]] : List (List UInt8))) tA r1 (by decide)
      have HDn : Hid (∀ W Bk, BA w0 Bk a b c n [⟨[97], false, 1, []⟩] W → ∀ g, Calls Try.prog 16 #[.pointer (some ⟨Bk, 0, none⟩), .string ⟨#[97]⟩, .int .i64 1, .int .i64 n, .bool g] W fun e w' => e = .returned (.int .i64 5) ∧ Hid (Below w0.heap.size w0 w')) := fun W Bk h2 g => by
        have := h2.done tA tA_sz 1 n (by decide) g
        rw [tA_list, hD] at this
        refine this.mono ?_
        rintro e w' ⟨rfl, r1⟩
        exact ⟨rfl, r1.bel⟩
      clear hT hD
      go_enter Try.func5, Try.ntmps5
      go_wp2_with (first
      | (go_at_call 6; refine HBg.out.mono ?_; rintro e w1 ⟨rfl, R1⟩; obtain ⟨c0, c1, c2⟩ := HC.out _ R1.out)
      | (go_at_call 7; refine (HN.out _ R1.out).mono ?_; rintro e w2 ⟨Bk, rfl, R2⟩)
      | (go_at_call 10; refine (HA.out _ _ R2.out).mono ?_; rintro e w3 ⟨rfl, R3⟩)
      | (go_at_call 12; refine (HG.out _ _ R3.out).mono ?_; rintro e w4 ⟨rfl, R4⟩; obtain ⟨d0, d1, d2⟩ := HC.out _ R4.out.bel)
      | (go_at_call 9; first | (with_reducible refine (HCh.out _).1.mono ?_; rintro e w' ⟨rfl, rfl⟩) | (with_reducible refine (HCh.out _).2.1.mono ?_; rintro e w' ⟨rfl, rfl⟩) | (with_reducible refine (HCh.out _).2.2.mono ?_; rintro e w' ⟨rfl, rfl⟩))
      | (go_at_call 14; refine (HBt.out _ _ R4.out).mono ?_; rintro e w5 ⟨rfl, R5⟩; obtain ⟨g0, g1, g2⟩ := HC.out _ R5.out.bel)
      | (go_at_call 18; refine (HTk.out _ _ R5.out).mono ?_; rintro e w6 ⟨ao, cap, rfl, R6⟩)
      | (go_at_call 23; refine (HLs.out _ _ R6.out.2).mono ?_; rintro e w7 ⟨ao7, cap7, rfl, R7⟩; have R8 := HOw.out _ _ _ _ R6.out.1 R7.out.2; obtain ⟨h0, h1, h2⟩ := HC.out _ R7.out.1.bel)
      | (go_at_call 25; refine (HHs.out _ _ R8).mono ?_; rintro e w' ⟨rfl, rfl⟩)
      | (go_at_call 16; refine (HDn.out _ _ R7.out.1 _).mono ?_; rintro e w8 ⟨rfl, R9⟩)
      | go_in)
      go_ret
      exact ⟨rfl, HE.out _ R9.out⟩

theorem over_walk (a b c wt bt mr : Int) (w : World) (hwt : -9223372036854775808 ≤ wt ∧ wt ≤ 9223372036854775807) (hbt : -9223372036854775808 ≤ bt ∧ bt ≤ 9223372036854775807) (hmr : -9223372036854775808 ≤ mr ∧ mr ≤ 9223372036854775807) :
    Calls Try.prog 5 #[.agg #[.int .i64 a, .int .i64 b, .int .i64 c], .int .i64 wt, .int .i64 bt, .int .i64 mr] w fun e w' => e = .returned (.bool true) ∧ Below w.heap.size w w' := by
  by_cases h : termsOk a b c
  · obtain ⟨a', b', c', rfl, rfl, rfl⟩ := termsNat h
    exact over_yes a' b' c' wt bt mr w h hwt hbt hmr
  · exact over_no a b c wt bt mr w h
end Go.Proofs.Ytocahjnibdgmoaa
