/- What the document's own SameTexts answers; texts that are read as a slice. -/
import Derived.Test.YtmjemnmcndajpaaDoorTexts
namespace Go.Proofs.YtmjemnmcndajpaaDoor
open Go.RowKit Go.Shelf

/-- A value that is a slice of these texts. -/
def IsTexts (w : World) (v : Value) (ss : List ByteArray) : Prop :=
  ss.length ≤ 4611686018427387904 ∧ ∃ a cap, v = .slice a ss.length cap ∧ (ss = [] ∨ ∃ g o, a = some ⟨g, o, none⟩ ∧ ∀ j (hj : j < ss.length), w.cell? ⟨g, o + j, none⟩ = some (.string ss[j]))

set_option maxHeartbeats 1000000 in
theorem same_ne (a a' : Option Addr) (n n' cap cap' : Nat) (w : World) (h : n ≠ n') :
    Calls Tryd.prog 19 #[.slice a n cap, .slice a' n' cap'] w fun e w' => e = .returned (.bool false) ∧ w' = w := by
  have h1 : ((n : Int) != (n' : Int)) = true := by rw [bne_iff_ne]; omega
  clear h
  go_enter Tryd.func19, Tryd.ntmps19
  go_wp2
  go_ret
  exact ⟨rfl, rfl⟩

set_option maxHeartbeats 1000000 in
theorem same_zero (a a' : Option Addr) (cap cap' : Nat) (w : World) :
    Calls Tryd.prog 19 #[.slice a 0 cap, .slice a' 0 cap'] w fun e w' => e = .returned (.bool true) ∧ w' = w := by
  go_enter Tryd.func19, Tryd.ntmps19
  go_wp2
  refine wp_loop_rounds 1 ?_
  rw [rounds_succ]
  go_wp2
  go_ret
  exact ⟨rfl, rfl⟩

set_option maxHeartbeats 2000000 in
set_option maxRecDepth 100000 in
theorem same_eq (g o cap g' o' cap' : Nat) (ss ss' : List ByteArray) (w : World) (hn : ss.length ≤ 4611686018427387904) (hl : ss'.length = ss.length)
    (hc : ∀ j (hj : j < ss.length), w.cell? ⟨g, o + j, none⟩ = some (.string ss[j])) (hc' : ∀ j (hj : j < ss'.length), w.cell? ⟨g', o' + j, none⟩ = some (.string ss'[j])) :
    Calls Tryd.prog 19 #[.slice (some ⟨g, o, none⟩) ss.length cap, .slice (some ⟨g', o', none⟩) ss.length cap'] w fun e w' => e = .returned (.bool (decide (ss = ss'))) ∧ ∃ n, w' = w.drewN n := by
  have HC : Hid _ := hc
  have HC' : Hid _ := hc'
  have HL : Hid _ := hl
  have hn1 : (ss.length : Int) ≤ 4611686018427387904 := by omega
  clear hc hc' hl
  go_enter Tryd.func19, Tryd.ntmps19
  go_wp2
  go_loopw [5] (fun i wr => ∃ k m : Nat, k ≤ ss.length ∧ i = .int .i64 k ∧ ss.take k = ss'.take k ∧ wr = w.drewN m) (fun i _ => ss.length - (intOf i).toNat)
  case atStart => exact ⟨0, 0, Nat.zero_le _, rfl, rfl, rfl⟩
  case round =>
    obtain ⟨k, m, hk, rfl, ht, rfl⟩ := hrel
    have HK : Hid _ := ht
    clear ht
    by_cases hlt : k < ss.length
    · have hlt' : k < ss'.length := by rw [HL.out]; exact hlt
      have c1 := HC.out k hlt
      have c2 := HC'.out k hlt'
      by_cases he : ss[k] = ss'[k]
      · have hb : (ss[k].toList == ss'[k].toList) = true := by rw [he]; simp
        have HE : Hid _ := he
        clear he
        go_wp2
        go_region
        all_goals go_wp2
        all_goals
          refine ⟨⟨k + 1, m + 1, by omega, by go_num, ?_, rfl⟩, by simp [intOf]; omega⟩
          rw [List.take_succ_eq_append_getElem hlt, List.take_succ_eq_append_getElem hlt', HK.out, HE.out]
      · have hb : (ss[k].toList == ss'[k].toList) = false := by
          rw [beq_eq_false_iff_ne]
          intro h
          rw [Lib.toList_data, Lib.toList_data] at h
          exact he ((bytes_eq h).trans (bytes_eq rfl).symm)
        have HE : Hid (ss[k] ≠ ss'[k]) := he
        clear he
        go_wp2
        go_region
        all_goals go_wp2
        all_goals
          go_ret
          refine ⟨?_, m + 1, rfl⟩
          have hne : ss ≠ ss' := fun h => HE.out (by subst h; rfl)
          simp [hne]
    · go_wp2
      go_ret
      refine ⟨?_, m, rfl⟩
      have heq : ss = ss' := by
        have h := HK.out
        rwa [List.take_of_length_le (by omega), List.take_of_length_le (by rw [HL.out]; omega)] at h
      simp [heq]

theorem same_any (w : World) (v v' : Value) (ss ss' : List ByteArray) (h : IsTexts w v ss) (h' : IsTexts w v' ss') :
    Calls Tryd.prog 19 #[v, v'] w fun e w' => e = .returned (.bool (decide (ss = ss'))) ∧ ∃ n, w' = w.drewN n := by
  obtain ⟨hn, a, cap, rfl, hs⟩ := h
  obtain ⟨_, a', cap', rfl, hs'⟩ := h'
  by_cases hl : ss.length = ss'.length
  · by_cases h0 : ss.length = 0
    · have k1 : ss = [] := List.length_eq_zero_iff.1 h0
      have k2 : ss' = [] := List.length_eq_zero_iff.1 (by omega)
      subst k1 k2
      refine (same_zero a a' cap cap' w).mono ?_
      rintro e w' ⟨rfl, rfl⟩
      exact ⟨by simp, 0, rfl⟩
    · rcases hs with rfl | ⟨g, o, rfl, hc⟩
      · simp at h0
      rcases hs' with rfl | ⟨g', o', rfl, hc'⟩
      · simp at hl; simp [hl] at h0
      rw [← hl]
      exact same_eq g o cap g' o' cap' ss ss' w hn hl.symm hc hc'
  · refine (same_ne a a' _ _ cap cap' w hl).mono ?_
    rintro e w' ⟨rfl, rfl⟩
    have hne : ss ≠ ss' := fun h => hl (by rw [h])
    exact ⟨by simp [hne], 0, rfl⟩

theorem own_texts {w : World} {base : Nat} {v : Value} {l : List (List UInt8)} (h : w.ownsRow base 9 1 v l.length (strs l)) (hl : l.length ≤ 4611686018427387904) : IsTexts w v (l.map fun t => ⟨t.toArray⟩) := by
  refine ⟨by simpa using hl, ?_⟩
  have hcells := fun (g : Nat) (hg : v.ownBlock = some g) => h.cells hg
  rcases h.2 with ⟨h1, h2⟩ | ⟨g, cap, cur, hv, _⟩
  · exact ⟨none, 0, by rw [h1]; simp [h2], Or.inl (by rw [List.length_eq_zero_iff.1 h2]; rfl)⟩
  · refine ⟨some ⟨g, 0, none⟩, cap, by simpa using hv, Or.inr ⟨g, 0, rfl, fun j hj => ?_⟩⟩
    have hj' : j < l.length := by simpa using hj
    have := hcells g (by rw [hv]; rfl) j (.string (l.map fun t => (⟨t.toArray⟩ : ByteArray))[j]) (by simp [strs, List.getElem?_map, List.getElem?_eq_getElem hj'])
    rw [show (⟨g, 0, none⟩ : Addr).add j = ⟨g, 0 + j, none⟩ from addr_add g 0 j] at this
    exact this

set_option maxHeartbeats 2000000 in
set_option maxRecDepth 100000 in
theorem wireBegun_any (w : World) : Calls Tryd.prog 7 #[] w fun e w' => e = .returned (.bool true) ∧ Below w.heap.size w w' := by
  go_enter Tryd.func7, Tryd.ntmps7
  go_wp2_with fail
  refine (Number_yes 300 w (by decide)).mono ?_
  rintro e w1 ⟨rfl, hb1⟩
  have hl2 : (pk 300).length = 2 := by decide
  have hl3 : ((pk 300).length : Int) = 2 := by rw [hl2]; rfl
  have hsz : (⟨(pk 300).toArray⟩ : ByteArray).size = 2 := (size_of rfl).trans hl2
  go_wp2_with fail
  refine (ReadNumber_pk ⟨(pk 300).toArray⟩ w1 300 [] (by rw [hsz]; decide) (by decide) (by simp)).mono ?_
  rintro e w1' ⟨rfl, rfl⟩
  go_wp2_with fail
  refine (ReadTexts_pk ⟨#[1, 1, 97]⟩ w1' [[97]] (by decide) (by decide) (by decide) (by decide)).mono ?_
  rintro e w2 ⟨v, rfl, hown, hb2⟩
  obtain ⟨a, cap, rfl⟩ := own_shape hown
  have HO : Hid (w2.ownsRow w1'.heap.size 9 1 (.slice a [[97]].length cap) [[97]].length (strs [[97]])) := hown
  have HB1 : Hid _ := hb1
  have HB2 : Hid _ := hb2
  clear hown hb1 hb2
  go_wp2_with fail
  have t1 : IsTexts (w2.alloc (.cells #[.string ⟨#[97]⟩] 9)) (.slice a 1 cap) [⟨#[97]⟩] := own_texts (HO.out.alloc _) (by decide)
  have t2 : IsTexts (w2.alloc (.cells #[.string ⟨#[97]⟩] 9)) (.slice (some ⟨w2.heap.size, 0, none⟩) 1 1) [⟨#[97]⟩] :=
    ⟨by decide, some ⟨w2.heap.size, 0, none⟩, 1, rfl, Or.inr ⟨w2.heap.size, 0, rfl, fun j hj => by
      obtain rfl : j = 0 := by simp at hj; exact hj
      simp [go_sem]⟩⟩
  refine (same_any _ _ _ _ _ t1 t2).mono ?_
  rintro e w3 ⟨rfl, n, rfl⟩
  go_wp2
  go_ret
  refine ⟨by simp, ?_⟩
  have b1 := HB1.out
  have b2 := HB2.out
  have b3 : Below w.heap.size w w2 := b1.trans (b2.mono b1.size)
  have b4 := b3.alloc (o := .cells #[.string ⟨#[97]⟩] 9) b3.size
  exact ⟨b4.os, b4.tape, b4.output, b4.size, b4.block⟩
end Go.Proofs.YtmjemnmcndajpaaDoor
