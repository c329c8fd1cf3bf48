/- ContainsFunc at texts, by a function, and by a closure that only looks. -/
import Derived.Test.YtankaiopdbcndaaGreatDoorTc7
namespace Go.Proofs.YtankaiopdbcndaaGreatDoor
open Go.RowKit Go.Shelf Go.Maps

set_option maxHeartbeats 4000000 in
set_option maxRecDepth 100000 in
theorem idxSn (v : Value) (L : List ByteArray) (N : Nat) (p : ByteArray → Bool) (w : World) (hn : L.length ≤ 1048576) (hl : TxIn w v L) (eg : ∀ args w, (callFunc N args).run Tryz.prog w = .ok (.enter N args) w)
    (hc : ∀ x ∈ L, ∀ W, Below w.heap.size w W → Calls Tryz.prog N #[.string x] W fun e w' => e = .returned (.bool (p x)) ∧ Below W.heap.size W w') :
    Calls Tryz.prog 72 #[v, .func (.func N) #[] #[]] w fun e w' => ∃ r : Int, e = .returned (.int .i64 r) ∧ decide (0 ≤ r) = L.any p ∧ Below w.heap.size w w' := by
  obtain ⟨_, _, ao, cap, rfl, hmem⟩ := hl
  have HL : Hid (L = [] ∨ ∃ g o, ao = some ⟨g, o, none⟩ ∧ g < w.heap.size ∧ ∀ j (hj : j < L.length), w.cell? ⟨g, o + j, none⟩ = some (.string L[j])) := hmem
  clear hmem
  have HCa : Hid (∀ x ∈ L, ∀ W, Below w.heap.size w W → Calls Tryz.prog N #[.string x] W fun e w' => e = .returned (.bool (p x)) ∧ Below W.heap.size W w') := hc
  have hn1 : (L.length : Int) ≤ 1048576 := by omega
  clear hc
  go_enter Tryz.func72, Tryz.ntmps72
  go_wp2
  go_loopw [8] (fun i wr => ∃ k : Nat, k ≤ L.length ∧ i = .int .i64 (k : Int) ∧ Hid (∀ j, (hj : j < L.length) → j < k → p L[j] = false) ∧ Hid (Below w.heap.size w wr)) (fun i _ => L.length - (intOf i).toNat)
  case atStart =>
    refine ⟨0, Nat.zero_le _, rfl, ?_, Below.refl _ _⟩
    exact (fun j hj h => absurd h (Nat.not_lt_zero _) : ∀ j, (hj : j < L.length) → j < 0 → p L[j] = false)
  case round =>
    obtain ⟨k, hk, rfl, HN, HB⟩ := hrel
    have hb := HB.out
    by_cases hlt : k < L.length
    · have hki : (k : Int) < (L.length : Int) := by omega
      rcases HL.out with h | ⟨g, o, rfl, hg, hcc⟩
      · exfalso; rw [h] at hlt; exact absurd hlt (by simp)
      have c0 : wr.cell? ⟨g, o + k, none⟩ = some (.string L[k]) := (hb.cell (p := ⟨g, o + k, none⟩) hg).trans (hcc k hlt)
      have HC := HCa.out _ (List.getElem_mem hlt) wr hb
      have HP : p L[k] = true → L.any p = true := fun h => List.any_eq_true.2 ⟨L[k], List.getElem_mem hlt, h⟩
      have HN2 : p L[k] = false → ∀ j, (hj : j < L.length) → j < k + 1 → p L[j] = false := fun h j hj hjk => by
        rcases (show j < k ∨ j = k by omega) with e | e
        · exact HN.out j hj e
        · subst e; exact h
      generalize hx : L[k] = x at c0 HC HP HN2
      have HC2 : Hid (Calls Tryz.prog N #[.string x] wr fun e w' => e = .returned (.bool (p x)) ∧ Below wr.heap.size wr w') := HC
      clear hcc hx HC
      cases hpx : p x with
      | true =>
        have HT : Hid (L.any p = true) := HP hpx
        rw [hpx] at HC2
        clear HP HN2 hb hpx
        go_wp2_with (first | (go_at_fn N; refine HC2.out.mono ?_; rintro e w1 ⟨rfl, hb1⟩) | go_in)
        go_ret
        refine ⟨k, rfl, ?_, HB.out.trans (hb1.mono HB.out.size)⟩
        rw [HT.out]
        simp
      | false =>
        have HT : Hid (∀ j, (hj : j < L.length) → j < k + 1 → p L[j] = false) := HN2 hpx
        rw [hpx] at HC2
        clear HP HN2 hb hpx
        go_wp2_with (first | (go_at_fn N; refine HC2.out.mono ?_; rintro e w1 ⟨rfl, hb1⟩) | go_in)
        exact ⟨⟨k + 1, by omega, by go_num, HT, HB.out.trans (hb1.mono HB.out.size)⟩, by simp [intOf]; omega⟩
    · obtain rfl : k = L.length := by omega
      have HT : Hid (L.any p = false) := by
        show _ = _
        rw [List.any_eq_false]
        intro x hx
        obtain ⟨j, hj, rfl⟩ := List.mem_iff_getElem.1 hx
        rw [HN.out j hj hj]
        simp
      clear hb HCa
      go_wp2
      go_ret
      refine ⟨-1, rfl, ?_, HB.out⟩
      rw [HT.out]
      rfl

set_option maxHeartbeats 1000000 in
theorem conSn (v : Value) (L : List ByteArray) (N : Nat) (p : ByteArray → Bool) (w : World) (hn : L.length ≤ 1048576) (hl : TxIn w v L) (eg : ∀ args w, (callFunc N args).run Tryz.prog w = .ok (.enter N args) w)
    (hc : ∀ x ∈ L, ∀ W, Below w.heap.size w W → Calls Tryz.prog N #[.string x] W fun e w' => e = .returned (.bool (p x)) ∧ Below W.heap.size W w') :
    Calls Tryz.prog 48 #[v, .func (.func N) #[] #[]] w fun e w' => e = .returned (.bool (L.any p)) ∧ Below w.heap.size w w' := by
  have HI : Hid (Calls Tryz.prog 72 #[v, .func (.func N) #[] #[]] w fun e w' => ∃ r : Int, e = .returned (.int .i64 r) ∧ decide (0 ≤ r) = L.any p ∧ Below w.heap.size w w') := idxSn v L N p w hn hl eg hc
  clear hc hl eg hn
  go_enter Tryz.func48, Tryz.ntmps48
  go_wp2_with (first | (go_at_call 72; refine HI.out.mono ?_; rintro e w1 ⟨r, rfl, hr, hb1⟩; have HR : Hid (decide (0 ≤ r) = L.any p) := hr; clear hr) | go_in)
  go_ret
  exact ⟨by rw [← HR.out]; first | rfl | simp, hb1⟩

set_option maxHeartbeats 4000000 in
set_option maxRecDepth 100000 in
theorem idxSc (v : Value) (L : List ByteArray) (N : Nat) (x0 : Value) (p : ByteArray → Bool) (w : World) (hn : L.length ≤ 1048576) (hl : TxIn w v L) (eg : ∀ args w, (callFunc N args).run Tryz.prog w = .ok (.enter N args) w)
    (hc : ∀ x ∈ L, ∀ W, Below w.heap.size w W → Calls Tryz.prog N #[.string x, x0] W fun e w' => e = .returned (.bool (p x)) ∧ Below W.heap.size W w') :
    Calls Tryz.prog 72 #[v, .func (.func N) #[] #[x0]] w fun e w' => ∃ r : Int, e = .returned (.int .i64 r) ∧ decide (0 ≤ r) = L.any p ∧ Below w.heap.size w w' := by
  obtain ⟨_, _, ao, cap, rfl, hmem⟩ := hl
  have HL : Hid (L = [] ∨ ∃ g o, ao = some ⟨g, o, none⟩ ∧ g < w.heap.size ∧ ∀ j (hj : j < L.length), w.cell? ⟨g, o + j, none⟩ = some (.string L[j])) := hmem
  clear hmem
  have HCa : Hid (∀ x ∈ L, ∀ W, Below w.heap.size w W → Calls Tryz.prog N #[.string x, x0] W fun e w' => e = .returned (.bool (p x)) ∧ Below W.heap.size W w') := hc
  have hn1 : (L.length : Int) ≤ 1048576 := by omega
  clear hc
  go_enter Tryz.func72, Tryz.ntmps72
  go_wp2
  go_loopw [8] (fun i wr => ∃ k : Nat, k ≤ L.length ∧ i = .int .i64 (k : Int) ∧ Hid (∀ j, (hj : j < L.length) → j < k → p L[j] = false) ∧ Hid (Below w.heap.size w wr)) (fun i _ => L.length - (intOf i).toNat)
  case atStart =>
    refine ⟨0, Nat.zero_le _, rfl, ?_, Below.refl _ _⟩
    exact (fun j hj h => absurd h (Nat.not_lt_zero _) : ∀ j, (hj : j < L.length) → j < 0 → p L[j] = false)
  case round =>
    obtain ⟨k, hk, rfl, HN, HB⟩ := hrel
    have hb := HB.out
    by_cases hlt : k < L.length
    · have hki : (k : Int) < (L.length : Int) := by omega
      rcases HL.out with h | ⟨g, o, rfl, hg, hcc⟩
      · exfalso; rw [h] at hlt; exact absurd hlt (by simp)
      have c0 : wr.cell? ⟨g, o + k, none⟩ = some (.string L[k]) := (hb.cell (p := ⟨g, o + k, none⟩) hg).trans (hcc k hlt)
      have HC := HCa.out _ (List.getElem_mem hlt) wr hb
      have HP : p L[k] = true → L.any p = true := fun h => List.any_eq_true.2 ⟨L[k], List.getElem_mem hlt, h⟩
      have HN2 : p L[k] = false → ∀ j, (hj : j < L.length) → j < k + 1 → p L[j] = false := fun h j hj hjk => by
        rcases (show j < k ∨ j = k by omega) with e | e
        · exact HN.out j hj e
        · subst e; exact h
      generalize hx : L[k] = x at c0 HC HP HN2
      have HC2 : Hid (Calls Tryz.prog N #[.string x, x0] wr fun e w' => e = .returned (.bool (p x)) ∧ Below wr.heap.size wr w') := HC
      clear hcc hx HC
      cases hpx : p x with
      | true =>
        have HT : Hid (L.any p = true) := HP hpx
        rw [hpx] at HC2
        clear HP HN2 hb hpx
        go_wp2_with (first | (go_at_fn N; refine HC2.out.mono ?_; rintro e w1 ⟨rfl, hb1⟩) | go_in)
        go_ret
        refine ⟨k, rfl, ?_, HB.out.trans (hb1.mono HB.out.size)⟩
        rw [HT.out]
        simp
      | false =>
        have HT : Hid (∀ j, (hj : j < L.length) → j < k + 1 → p L[j] = false) := HN2 hpx
        rw [hpx] at HC2
        clear HP HN2 hb hpx
        go_wp2_with (first | (go_at_fn N; refine HC2.out.mono ?_; rintro e w1 ⟨rfl, hb1⟩) | go_in)
        exact ⟨⟨k + 1, by omega, by go_num, HT, HB.out.trans (hb1.mono HB.out.size)⟩, by simp [intOf]; omega⟩
    · obtain rfl : k = L.length := by omega
      have HT : Hid (L.any p = false) := by
        show _ = _
        rw [List.any_eq_false]
        intro x hx
        obtain ⟨j, hj, rfl⟩ := List.mem_iff_getElem.1 hx
        rw [HN.out j hj hj]
        simp
      clear hb HCa
      go_wp2
      go_ret
      refine ⟨-1, rfl, ?_, HB.out⟩
      rw [HT.out]
      rfl

set_option maxHeartbeats 1000000 in
theorem conSc (v : Value) (L : List ByteArray) (N : Nat) (x0 : Value) (p : ByteArray → Bool) (w : World) (hn : L.length ≤ 1048576) (hl : TxIn w v L) (eg : ∀ args w, (callFunc N args).run Tryz.prog w = .ok (.enter N args) w)
    (hc : ∀ x ∈ L, ∀ W, Below w.heap.size w W → Calls Tryz.prog N #[.string x, x0] W fun e w' => e = .returned (.bool (p x)) ∧ Below W.heap.size W w') :
    Calls Tryz.prog 48 #[v, .func (.func N) #[] #[x0]] w fun e w' => e = .returned (.bool (L.any p)) ∧ Below w.heap.size w w' := by
  have HI : Hid (Calls Tryz.prog 72 #[v, .func (.func N) #[] #[x0]] w fun e w' => ∃ r : Int, e = .returned (.int .i64 r) ∧ decide (0 ≤ r) = L.any p ∧ Below w.heap.size w w') := idxSc v L N x0 p w hn hl eg hc
  clear hc hl eg hn
  go_enter Tryz.func48, Tryz.ntmps48
  go_wp2_with (first | (go_at_call 72; refine HI.out.mono ?_; rintro e w1 ⟨r, rfl, hr, hb1⟩; have HR : Hid (decide (0 ≤ r) = L.any p) := hr; clear hr) | go_in)
  go_ret
  exact ⟨by rw [← HR.out]; first | rfl | simp, hb1⟩
end Go.Proofs.YtankaiopdbcndaaGreatDoor
