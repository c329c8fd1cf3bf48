/- Where a text stands among others; a look through texts with a function that may change memory. -/
import Derived.Test.YtankaiopdbcndaaGreatDoorTc7
namespace Go.Proofs.YtankaiopdbcndaaGreatDoor
open Go.RowKit Go.Shelf Go.Maps
/-- Where a text stands first; or minus one. -/
def txI (l : List ByteArray) (x : ByteArray) (r : Int) : Prop := (r = -1 ∧ x ∉ l) ∨ ∃ j, ∃ (hj : j < l.length), r = (j : Int) ∧ l[j] = x

set_option maxHeartbeats 2000000 in
set_option maxRecDepth 100000 in
theorem Index_any (v : Value) (xs : List ByteArray) (s : ByteArray) (w : World) (h : TxIn w v xs) :
    Calls Tryz.prog 56 #[v, .string s] w fun e w' => ∃ r, e = .returned (.int .i64 r) ∧ txI xs s r ∧ w' = w := by
  obtain ⟨_, hn, ao, c, rfl, hmem⟩ := h
  have HM : Hid (xs = [] ∨ ∃ g o, ao = some ⟨g, o, none⟩ ∧ g < w.heap.size ∧ ∀ j (hj : j < xs.length), w.cell? ⟨g, o + j, none⟩ = some (.string xs[j])) := hmem
  have hn1 : (xs.length : Int) ≤ 1048576 := by omega
  clear hmem hn
  go_enter Tryz.func56, Tryz.ntmps56
  go_wp2
  go_loop [8] (fun i => ∃ k : Nat, k ≤ xs.length ∧ i = .int .i64 (k : Int) ∧ Hid (s ∉ xs.take k)) (fun i => xs.length - (intOf i).toNat)
  case atStart => exact ⟨0, Nat.zero_le _, rfl, by show _ ∉ _; simp⟩
  case round =>
    obtain ⟨k, hk, rfl, HK⟩ := hrel
    by_cases hlt : k < xs.length
    · have hki : (k : Int) < (xs.length : Int) := by omega
      rcases HM.out with h | ⟨g, o, rfl, hg, hcc⟩
      · exfalso; rw [h] at hlt; exact absurd hlt (by simp)
      have c1 := hcc k hlt
      by_cases he : xs[k] = s
      · have hq : (s.toList == xs[k].toList) = true := by rw [he]; simp
        have HR : Hid (txI xs s (k : Int)) := .inr ⟨k, hlt, rfl, he⟩
        clear he hcc HK
        generalize xs[k] = x at c1 hq
        go_wp2
        go_ret
        exact ⟨_, rfl, HR.out, rfl⟩
      · have hq : (s.toList == xs[k].toList) = false := by
          rw [beq_eq_false_iff_ne]
          exact fun h => he (bq_ext h).symm
        have HN : Hid (s ∉ xs.take (k + 1)) := by
          show _ ∉ _
          rw [List.take_succ_eq_append_getElem hlt, List.mem_append]
          rintro (h | h)
          · exact HK.out h
          · simp at h; exact he h.symm
        clear he hcc
        generalize xs[k] = x at c1 hq
        go_wp2
        exact ⟨⟨k + 1, by omega, by go_num, HN⟩, by simp [intOf]; omega⟩
    · obtain rfl : k = xs.length := by omega
      have HR : Hid (txI xs s (-1)) := .inl ⟨rfl, by have := HK.out; rwa [List.take_length] at this⟩
      clear HK
      go_wp2
      go_ret
      exact ⟨_, rfl, HR.out, rfl⟩

set_option maxHeartbeats 4000000 in
set_option maxRecDepth 100000 in
/-- A look through texts; I holds on the way, R where the function says yes. -/
theorem idxSt (v : Value) (ss : List ByteArray) (N : Nat) (p1 p2 p3 p4 p5 : Value) (I : Nat → World → Prop) (R : World → Prop) (w : World) (hn : ss.length ≤ 1048576) (eg : ∀ args w, (callFunc N args).run Tryz.prog w = .ok (.enter N args) w)
    (hi : ∀ k W, I k W → TxIn W v ss) (h0 : I 0 w) (hc : ∀ k (hk : k < ss.length) W, I k W → Calls Tryz.prog N #[.string ss[k], p1, p2, p3, p4, p5] W fun e w' => ∃ b, e = .returned (.bool b) ∧ (b = true → R w') ∧ (b = false → I (k + 1) w')) :
    Calls Tryz.prog 72 #[v, .func (.func N) #[] #[p1, p2, p3, p4, p5]] w fun e w' => ∃ r : Int, e = .returned (.int .i64 r) ∧ ((0 ≤ r ∧ R w') ∨ (r < 0 ∧ I ss.length w')) := by
  obtain ⟨_, _, ao, c, rfl, _⟩ := hi 0 w h0
  have HI : Hid (∀ k W, I k W → TxIn W (.slice ao ss.length c) ss) := hi
  have HC : Hid (∀ k (hk : k < ss.length) W, I k W → Calls Tryz.prog N #[.string ss[k], p1, p2, p3, p4, p5] W fun e w' => ∃ b, e = .returned (.bool b) ∧ (b = true → R w') ∧ (b = false → I (k + 1) w')) := hc
  have H0 : Hid (I 0 w) := h0
  have hn1 : (ss.length : Int) ≤ 1048576 := by omega
  clear hi hc h0
  go_enter Tryz.func72, Tryz.ntmps72
  go_wp2
  go_loopw [8] (fun i wr => ∃ k : Nat, k ≤ ss.length ∧ i = .int .i64 (k : Int) ∧ Hid (I k wr)) (fun i _ => ss.length - (intOf i).toNat)
  case atStart => exact ⟨0, Nat.zero_le _, rfl, H0⟩
  case round =>
    obtain ⟨k, hk, rfl, HK⟩ := hrel
    by_cases hlt : k < ss.length
    · have hki : (k : Int) < (ss.length : Int) := by omega
      obtain ⟨_, _, ao2, c2, e, hmem⟩ := HI.out k wr HK.out
      injection e with e1 _ e3
      subst e1 e3
      rcases hmem with h | ⟨g, o, rfl, hg, hcc⟩
      · exfalso; rw [h] at hlt; exact absurd hlt (by simp)
      have c1 := hcc k hlt
      have HCk := HC.out k hlt wr HK.out
      generalize ss[k] = x at *
      clear hcc HK H0
      go_wp2_with (first | (go_at_fn N; refine HCk.mono ?_; rintro e w1 ⟨b, rfl, hb1, hb2⟩; have HT : Hid (b = true → R w1) := hb1; have HN : Hid (b = false → I (k + 1) w1) := hb2; clear hb1 hb2) | go_in)
      · go_ret
        exact ⟨k, rfl, .inl ⟨by omega, HT.out (by assumption)⟩⟩
      · have HN2 : Hid (I (k + 1) w1) := HN.out (by first | assumption | simpa using (by assumption : ¬ b = true))
        exact ⟨⟨k + 1, by omega, by go_num, HN2⟩, by simp [intOf]; omega⟩
    · obtain rfl : k = ss.length := by omega
      have HE : Hid (I ss.length wr) := HK
      clear HK H0
      go_wp2
      go_ret
      exact ⟨-1, rfl, .inr ⟨by decide, HE.out⟩⟩

set_option maxHeartbeats 1000000 in
theorem conSt (v : Value) (ss : List ByteArray) (N : Nat) (p1 p2 p3 p4 p5 : Value) (I : Nat → World → Prop) (R : World → Prop) (w : World) (hn : ss.length ≤ 1048576) (eg : ∀ args w, (callFunc N args).run Tryz.prog w = .ok (.enter N args) w)
    (hi : ∀ k W, I k W → TxIn W v ss) (h0 : I 0 w) (hc : ∀ k (hk : k < ss.length) W, I k W → Calls Tryz.prog N #[.string ss[k], p1, p2, p3, p4, p5] W fun e w' => ∃ b, e = .returned (.bool b) ∧ (b = true → R w') ∧ (b = false → I (k + 1) w')) :
    Calls Tryz.prog 48 #[v, .func (.func N) #[] #[p1, p2, p3, p4, p5]] w fun e w' => ∃ b, e = .returned (.bool b) ∧ (b = true → R w') ∧ (b = false → I ss.length w') := by
  have HI := idxSt v ss N p1 p2 p3 p4 p5 I R w hn eg hi h0 hc
  clear hc hi eg hn h0
  go_enter Tryz.func48, Tryz.ntmps48
  go_wp2_with (first | (go_at_call 72; refine HI.mono ?_; rintro e w1 ⟨r, rfl, hr⟩; have HR : Hid ((0 ≤ r ∧ R w1) ∨ (r < 0 ∧ I ss.length w1)) := hr; clear hr) | go_in)
  go_ret
  refine ⟨decide (0 ≤ r), by first | rfl | simp, fun hb => ?_, fun hb => ?_⟩
  · rcases HR.out with h | h
    · exact h.2
    · have := of_decide_eq_true hb; omega
  · rcases HR.out with h | h
    · have := of_decide_eq_false hb; omega
    · exact h.2
end Go.Proofs.YtankaiopdbcndaaGreatDoor
