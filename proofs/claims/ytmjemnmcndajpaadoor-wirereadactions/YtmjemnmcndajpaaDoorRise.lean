/- Whether texts rise: what it is, and what the document's own Rise answers. -/
import Derived.Test.YtmjemnmcndajpaaDoorPlain
import Derived.Test.YtmjemnmcndajpaaDoorSame
import Derived.Test.YtmjemnmcndajpaaDoorPackTs
import Derived.Deep.RegionHeld3
namespace Go.Proofs.YtmjemnmcndajpaaDoor
open Go.RowKit Go.Shelf

def less (a b : ByteArray) : Bool := Op.bytesLess a.toList b.toList
/-- Do names rise? -/
def riseB : List ByteArray → Bool
  | [] => true
  | [_] => true
  | a :: b :: l => less a b && riseB (b :: l)
theorem riseB_yes (l : List ByteArray) (h : ∀ j (hj : j + 1 < l.length), less l[j] l[j + 1] = true) : riseB l = true := by
  induction l with
  | nil => rfl
  | cons a l ih =>
    cases l with
    | nil => rfl
    | cons b l =>
      have h0 := h 0 (by simp)
      have h1 := ih (fun j hj => h (j + 1) (by simp at hj ⊢; omega))
      show (less a b && riseB (b :: l)) = true
      rw [h1, Bool.and_true]; exact h0
theorem riseB_no (l : List ByteArray) (j : Nat) (hj : j + 1 < l.length) (h : less l[j] l[j + 1] = false) : riseB l = false := by
  induction l generalizing j with
  | nil => simp at hj
  | cons a l ih =>
    cases l with
    | nil => simp at hj
    | cons b l =>
      show (less a b && riseB (b :: l)) = false
      cases j with
      | zero => rw [show less a b = false from h, Bool.false_and]
      | succ j => rw [ih j (by simp at hj ⊢; omega) h, Bool.and_false]

theorem leq_lss : ∀ (y x : List UInt8), (Op.bytesLess y x || y == x) = !Op.bytesLess x y
  | [], [] => rfl
  | [], _ :: _ => rfl
  | _ :: _, [] => rfl
  | a :: y, b :: x => by
    have ih := leq_lss y x
    have h1 : (a < b) = (a.toNat < b.toNat) := rfl
    have h2 : (b < a) = (b.toNat < a.toNat) := rfl
    unfold Op.bytesLess
    rcases Nat.lt_trichotomy a.toNat b.toNat with h | h | h
    · have hne : a ≠ b := fun e => by rw [e] at h; omega
      have h3 : ¬ b.toNat < a.toNat := by omega
      simp [h1, h2, h, h3, hne.symm]
    · obtain rfl : a = b := UInt8.toNat_inj.1 h
      simp [h1] at ih ⊢
      exact ih
    · have hne : a ≠ b := fun e => by rw [e] at h; omega
      have h3 : ¬ a.toNat < b.toNat := by omega
      simp [h1, h2, h, h3, hne]
theorem less_cls (a b : ByteArray) : (less a b = true ∧ Op.bytesLess b.toList a.toList = false ∧ (b.toList == a.toList) = false) ∨ (less a b = false ∧ Op.bytesLess b.toList a.toList = true) ∨ (less a b = false ∧ Op.bytesLess b.toList a.toList = false ∧ (b.toList == a.toList) = true) := by
  have h := leq_lss b.toList a.toList
  unfold less
  cases h1 : Op.bytesLess a.toList b.toList <;> cases h2 : Op.bytesLess b.toList a.toList <;> cases h3 : (b.toList == a.toList) <;> simp_all

set_option maxHeartbeats 1000000 in
set_option maxRecDepth 100000 in
theorem Rise_zero (a : Option Addr) (cap : Nat) (w : World) : Calls Tryd.prog 29 #[.slice a 0 cap] w fun e w' => e = .returned (.bool true) ∧ w' = w := by
  go_enter Tryd.func29, Tryd.ntmps29
  go_wp2
  refine wp_loop_rounds 1 ?_
  rw [rounds_succ]
  go_wp2
  go_ret
  exact ⟨rfl, rfl⟩

set_option maxHeartbeats 2000000 in
set_option maxRecDepth 100000 in
theorem Rise_some (g o cap : Nat) (ss : List ByteArray) (w : World) (hn : ss.length ≤ 4611686018427387904) (hg : g < w.heap.size) (hc : ∀ j (hj : j < ss.length), w.cell? ⟨g, o + j, none⟩ = some (.string ss[j])) :
    Calls Tryd.prog 29 #[.slice (some ⟨g, o, none⟩) ss.length cap] w fun e w' => e = .returned (.bool (riseB ss)) ∧ Below w.heap.size w w' := by
  have HC : Hid _ := hc
  have hn1 : (ss.length : Int) ≤ 4611686018427387904 := by omega
  clear hc
  go_enter Tryd.func29, Tryd.ntmps29
  go_wp2
  go_loopw [3] (fun i wr => ∃ k : Nat, 1 ≤ k ∧ k ≤ max 1 ss.length ∧ i = .int .i64 k ∧ (∀ j, (hj : j + 1 < ss.length) → j + 1 < k → less ss[j] ss[j + 1] = true) ∧ Below w.heap.size w wr) (fun i _ => ss.length - (intOf i).toNat)
  case atStart => exact ⟨1, by omega, by omega, rfl, by omega, Below.refl _ _⟩
  case round =>
    obtain ⟨k, hk1, hk, rfl, hlo, hb⟩ := hrel
    have HL : Hid _ := hlo
    have HB : Hid (Below w.heap.size w wr) := hb
    clear hlo hb
    by_cases hlt : k < ss.length
    · obtain ⟨m, rfl⟩ : ∃ m, k = m + 1 := ⟨k - 1, by omega⟩
      have a0 := (HB.out.cell (p := ⟨g, o + m, none⟩) hg).trans (HC.out m (by omega))
      have b0 := (HB.out.cell (p := ⟨g, o + (m + 1), none⟩) hg).trans (HC.out (m + 1) hlt)
      have i1 : (0 : Int) ≤ (m : Int) := by omega
      have i2 : (m : Int) < ss.length := by omega
      have i3 : (0 : Int) ≤ (m : Int) + 1 := by omega
      have i4 : (m : Int) + 1 < ss.length := by omega
      have i5 : IntKind.i64.wrap ((m : Int) + 1 - 1) = m := by rw [wraps_i64 _ (by omega) (by omega)]; omega
      have i6 : IntKind.i64.wrap (m : Int) = m := wraps_i64 _ (by omega) (by omega)
      have i7 : ((m : Int) + 1).toNat = m + 1 := by omega
      rcases less_cls ss[m] ss[m + 1] with ⟨h1, h2, h3⟩ | ⟨h1, h2⟩ | ⟨h1, h2, h3⟩
      · have HLS : Hid _ := h1
        clear h1
        go_wp2_with fail
        go_region_held3 (fun w' => w'.cell? ⟨g, o + m, none⟩ = some (.string ss[m]) ∧ w'.cell? ⟨g, o + (m + 1), none⟩ = some (.string ss[m + 1])) (first | (simp [go_sem, *]; done) | (go_split_ands; constructor <;> assumption)) (fail)
        go_wp2
        refine ⟨⟨m + 2, by omega, by omega, by go_num, fun j hj hjk => ?_, HB.out.drew⟩, by simp [intOf]; omega⟩
        by_cases h : j + 1 < m + 1
        · exact HL.out j hj h
        · obtain rfl : j = m := by omega
          exact HLS.out
      · have HLS : Hid _ := h1
        clear h1
        go_wp2_with fail
        go_region_held3 (fun w' => w'.cell? ⟨g, o + m, none⟩ = some (.string ss[m]) ∧ w'.cell? ⟨g, o + (m + 1), none⟩ = some (.string ss[m + 1])) (first | (simp [go_sem, *]; done) | (go_split_ands; constructor <;> assumption)) (fail)
        go_wp2
        go_ret
        refine ⟨?_, HB.out.drew⟩
        rw [riseB_no ss m hlt HLS.out]
        rfl
      · have HLS : Hid _ := h1
        clear h1
        go_wp2_with fail
        go_region_held3 (fun w' => w'.cell? ⟨g, o + m, none⟩ = some (.string ss[m]) ∧ w'.cell? ⟨g, o + (m + 1), none⟩ = some (.string ss[m + 1])) (first | (simp [go_sem, *]; done) | (go_split_ands; constructor <;> assumption)) (fail)
        go_wp2
        go_ret
        refine ⟨?_, HB.out.drew⟩
        rw [riseB_no ss m hlt HLS.out]
        rfl
    · go_wp2
      go_ret
      refine ⟨?_, HB.out⟩
      rw [riseB_yes ss (fun j hj => HL.out j hj (by omega))]
      rfl

theorem Rise_any (v : Value) (ss : List ByteArray) (w : World) (h : IsTexts w v ss) :
    Calls Tryd.prog 29 #[v] w fun e w' => e = .returned (.bool (riseB ss)) ∧ Below w.heap.size w w' := by
  have ho := old_of w v ss h
  have hn := h.1
  clear h
  obtain ⟨a, cap, rfl, hs⟩ := ho
  rcases hs with rfl | ⟨g, o, rfl, hg, hc⟩
  · refine (Rise_zero a cap w).mono ?_
    rintro e w' ⟨rfl, rfl⟩
    exact ⟨rfl, Below.refl _ _⟩
  · exact Rise_some g o cap ss w hn hg hc
end Go.Proofs.YtmjemnmcndajpaaDoor
