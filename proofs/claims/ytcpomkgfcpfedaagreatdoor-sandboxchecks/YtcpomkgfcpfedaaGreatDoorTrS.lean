/- Check: do paths rise? -/
import Derived.Test.YtcpomkgfcpfedaaGreatDoorTrB
namespace Go.Proofs.YtcpomkgfcpfedaaGreatDoor
open Go.RowKit Go.Shelf Go.Maps Go.WideMaps

theorem cmpB_neg (x y : ByteArray) : decide (cmpB x y < 0) = decide (x.data.toList < y.data.toList) := by
  unfold cmpB
  rw [Lib.toList_data, Lib.toList_data, tlt]
  by_cases h : x.data.toList < y.data.toList
  · simp [h]
  · by_cases h2 : x.data.toList = y.data.toList
    · simp [h2, List.lt_irrefl]
    · simp [h, h2]

/-- How the look ends. -/
def SortedP (L : List Fl) (w : World) (e : Ending) (w' : World) : Prop := ∃ b, e = .returned (.bool b) ∧ (b = true ↔ adjF L) ∧ Below w.heap.size w w'

set_option maxHeartbeats 2000000 in
set_option maxRecDepth 100000 in
theorem isSorted_any (ao : Option Addr) (cap : Nat) (L : List Fl) (w : World) (hn : L.length ≤ 1000000) (hl : IsFl w ao L) :
    Calls Tryz.prog 44 #[.slice ao L.length cap, .func (.func 45) #[] #[]] w (SortedP L w) := by
  have HL : Hid (IsFl w ao L) := hl
  have hn1 : (L.length : Int) ≤ 1000000 := by omega
  clear hl
  go_enter Tryz.func44, Tryz.ntmps44
  go_wp2
  go_loopw [5] (fun i wr => ∃ k : Nat, k ≤ L.length ∧ i = .int .i64 ((k : Int) - 1) ∧ (∀ j, (hj : j + 1 < L.length) → k ≤ j + 1 → ¬ pth L[j + 1] < pth L[j]) ∧ Below w.heap.size w wr) (fun i _ => (intOf i + 1).toNat)
  case atStart => exact ⟨L.length, Nat.le_refl _, by go_num, fun j hj hjk => by omega, Below.refl _ _⟩
  case round =>
    obtain ⟨k, hk, rfl, hlo, hb⟩ := hrel
    have HO : Hid (∀ j, (hj : j + 1 < L.length) → k ≤ j + 1 → ¬ pth L[j + 1] < pth L[j]) := hlo
    have HB : Hid (Below w.heap.size w wr) := hb
    have hsz := hb.size
    clear hlo
    by_cases hlt : 2 ≤ k
    · obtain ⟨m, rfl⟩ : ∃ m, k = m + 2 := ⟨k - 2, by omega⟩
      have HLB := HL.out.below hb (Nat.le_refl _)
      clear hb
      rcases HLB with h | ⟨g, o, rfl, hgr, hc⟩
      · exfalso; rw [h] at hk; simp at hk
      obtain ⟨a0, a1, a2⟩ := hc m (by omega)
      obtain ⟨b0, b1, b2⟩ := hc (m + 1) (by omega)
      have i0 : (((m + 2 : Nat) : Int) - 1) = (m : Int) + 1 := by omega
      rw [i0]
      have i1 : (0 : Int) ≤ (m : Int) := by omega
      have i2 : (m : Int) < L.length := by omega
      have i3 : (0 : Int) ≤ (m : Int) + 1 := by omega
      have i4 : (m : Int) + 1 < L.length := by omega
      have i5 : IntKind.i64.wrap ((m : Int) + 1 - 1) = m := by rw [wraps_i64 _ (by omega) (by omega)]; omega
      have i6 : IntKind.i64.wrap (m : Int) = m := wraps_i64 _ (by omega) (by omega)
      have i7 : ((m : Int) + 1).toNat = m + 1 := by omega
      generalize hx : L[m] = x at a0 a1 a2
      generalize hy : L[m + 1] = y at b0 b1 b2
      obtain ⟨xp, xt, xr⟩ := x
      obtain ⟨yp, yt, yr⟩ := y
      have HX : Hid (L[m] = ⟨xp, xt, xr⟩) := hx
      have HY : Hid (L[m + 1] = ⟨yp, yt, yr⟩) := hy
      simp only at a0 a1 a2 b0 b1 b2
      clear hx hy hc
      obtain ⟨cv, hcv⟩ : ∃ cv, cv = cmpB yp xp := ⟨_, rfl⟩
      have HC : Hid (∀ W, Calls Tryz.prog 45 #[.agg #[.string yp, .string yt, .bool yr], .agg #[.string xp, .string xt, .bool xr]] W fun e w' => e = .returned (.int .i64 cv) ∧ Below W.heap.size W w') := fun W => by
        rw [hcv]
        exact comparePaths_any ⟨yp, yt, yr⟩ ⟨xp, xt, xr⟩ W
      have HD : Hid (decide (cv < 0) = decide (pth L[m + 1] < pth L[m])) := by
        show _ = _
        rw [hcv, cmpB_neg, HX.out, HY.out]
        rfl
      clear hcv
      by_cases hls : cv < 0
      · have HLS : Hid (cv < 0) := hls
        go_wp2_with fail
        go_region_held3 (fun w' => w'.cell? ⟨g, o + m * 3, none⟩ = some (.string xp) ∧ w'.cell? ⟨g, o + m * 3 + 1, none⟩ = some (.string xt) ∧ w'.cell? ⟨g, o + m * 3 + 2, none⟩ = some (.bool xr) ∧ w'.cell? ⟨g, o + (m + 1) * 3, none⟩ = some (.string yp) ∧ w'.cell? ⟨g, o + (m + 1) * 3 + 1, none⟩ = some (.string yt) ∧ w'.cell? ⟨g, o + (m + 1) * 3 + 2, none⟩ = some (.bool yr) ∧ g < w'.heap.size)
          (first | (simp [go_sem, *]; done) | (go_split_ands; refine ⟨?_, ?_, ?_, ?_, ?_, ?_, ?_⟩ <;> first | (exact Nat.lt_of_lt_of_le (by assumption) hb1.size) | (rw [hb1.cell (p := ⟨g, _, none⟩) (by assumption)]; assumption)))
          (first
            | (go_at_call 45; refine (HC.out _).mono ?_; rintro e w1 ⟨rfl, hb1⟩)
            | fail)
        have HB3 : Hid (Below w.heap.size w w1) := HB.out.drew.trans (hb1.mono HB.out.drew.size)
        clear hb1
        go_wp2
        go_ret
        refine ⟨false, rfl, ⟨fun h => absurd h (by decide), fun h => ?_⟩, HB3.out⟩
        have := h m (by omega)
        have h2 := HD.out
        rw [decide_eq_true HLS.out] at h2
        exact absurd (of_decide_eq_true h2.symm) this
      · have HLS : Hid (0 ≤ cv) := by
          show 0 ≤ cv
          omega
        go_wp2_with fail
        go_region_held3 (fun w' => w'.cell? ⟨g, o + m * 3, none⟩ = some (.string xp) ∧ w'.cell? ⟨g, o + m * 3 + 1, none⟩ = some (.string xt) ∧ w'.cell? ⟨g, o + m * 3 + 2, none⟩ = some (.bool xr) ∧ w'.cell? ⟨g, o + (m + 1) * 3, none⟩ = some (.string yp) ∧ w'.cell? ⟨g, o + (m + 1) * 3 + 1, none⟩ = some (.string yt) ∧ w'.cell? ⟨g, o + (m + 1) * 3 + 2, none⟩ = some (.bool yr) ∧ g < w'.heap.size)
          (first | (simp [go_sem, *]; done) | (go_split_ands; refine ⟨?_, ?_, ?_, ?_, ?_, ?_, ?_⟩ <;> first | (exact Nat.lt_of_lt_of_le (by assumption) hb1.size) | (rw [hb1.cell (p := ⟨g, _, none⟩) (by assumption)]; assumption)))
          (first
            | (go_at_call 45; refine (HC.out _).mono ?_; rintro e w1 ⟨rfl, hb1⟩)
            | fail)
        have HB3 : Hid (Below w.heap.size w w1) := HB.out.drew.trans (hb1.mono HB.out.drew.size)
        clear hb1
        go_wp2
        refine ⟨⟨m + 1, by omega, by go_num, fun j hj hjk => ?_, HB3.out⟩, by simp [intOf]; omega⟩
        by_cases h : m + 2 ≤ j + 1
        · exact HO.out j hj h
        · obtain rfl : j = m := by omega
          intro h3
          have h2 := HD.out
          rw [decide_eq_true h3] at h2
          have h4 : cv < 0 := of_decide_eq_true h2
          have h5 : 0 ≤ cv := HLS.out
          omega
    · clear hb
      have i0 : ¬ (0 : Int) < (k : Int) - 1 := by omega
      go_wp2
      go_ret
      exact ⟨true, rfl, ⟨fun _ => fun j hj => HO.out j hj (by omega), fun _ => rfl⟩, HB.out⟩
end Go.Proofs.YtcpomkgfcpfedaaGreatDoor
