/- What SameNodes answers; two lists of nodes are never packed alike. -/
import Derived.Test.YtligalcphlfmcadPackD
import Derived.Test.YtligalcphlfmcadInj
namespace Go.Proofs.Ytligalcphlfmcad
open Go.RowKit Go.Shelf

theorem pkDD_inj : ∀ (ns ns' : List Nd) (r r' : List UInt8), (∀ n ∈ ns, 0 ≤ n.2.1) → (∀ n ∈ ns', 0 ≤ n.2.1) → ns.length = ns'.length → pkDD ns ++ r = pkDD ns' ++ r' → ns = ns' ∧ r = r' := by
  intro ns
  induction ns with
  | nil =>
    intro ns' r r' _ _ hl h
    have : ns' = [] := List.length_eq_zero_iff.1 hl.symm
    subst this
    exact ⟨rfl, by simpa [pkDD] using h⟩
  | cons n l ih =>
    intro ns' r r' p p' hl h
    cases ns' with
    | nil => simp at hl
    | cons n' l' =>
      simp only [pkDD, pkD, List.append_assoc] at h
      obtain ⟨e1, h1⟩ := pkT_inj n.1 n'.1 _ _ h
      obtain ⟨e2, h2⟩ := pk_inj n.2.1.toNat n.2.1.toNat n'.2.1.toNat (Nat.le_refl _) _ _ h1
      obtain ⟨e3, h3⟩ := pkT_inj n.2.2 n'.2.2 _ _ h2
      obtain ⟨e4, e5⟩ := ih l' r r' (fun x hx => p x (List.mem_cons_of_mem _ hx)) (fun x hx => p' x (List.mem_cons_of_mem _ hx)) (by simpa using hl) h3
      have q := p n (List.mem_cons_self ..)
      have q' := p' n' (List.mem_cons_self ..)
      have e6 : n.2.1 = n'.2.1 := by omega
      have e7 : n = n' := by
        obtain ⟨x, y, z⟩ := n
        obtain ⟨x', y', z'⟩ := n'
        simp only at e1 e6 e3
        rw [e1, e6, e3]
      exact ⟨by rw [e7, e4], e5⟩
theorem pkNodes_inj (ns ns' : List Nd) (p : okDs ns) (p' : okDs ns') (h : pk ns.length ++ pkDD ns = pk ns'.length ++ pkDD ns') : ns = ns' := by
  obtain ⟨e1, e2⟩ := pk_inj ns.length ns.length ns'.length (Nat.le_refl _) _ _ h
  exact (pkDD_inj ns ns' [] [] (fun n hn => (p.2 n hn).2.1) (fun n hn => (p'.2 n hn).2.1) e1 (by simpa using e2)).1

set_option maxHeartbeats 1000000 in
theorem samed_ne (a a' : Option Addr) (n n' cap cap' : Nat) (w : World) (h : n ≠ n') :
    Calls Try.prog 18 #[.slice a n cap, .slice a' n' cap'] w fun e w' => e = .returned (.bool false) ∧ w' = w := by
  have hne : ¬ (n : Int) = n' := by omega
  go_enter Try.func18, Try.ntmps18
  go_wp2
  go_ret
  exact ⟨rfl, rfl⟩

set_option maxHeartbeats 1000000 in
theorem samed_zero (a a' : Option Addr) (cap cap' : Nat) (w : World) :
    Calls Try.prog 18 #[.slice a 0 cap, .slice a' 0 cap'] w fun e w' => e = .returned (.bool true) ∧ w' = w := by
  go_enter Try.func18, Try.ntmps18
  go_wp2
  refine wp_loop_rounds 1 ?_
  rw [rounds_succ]
  go_wp2
  go_ret
  exact ⟨rfl, rfl⟩

set_option maxHeartbeats 2000000 in
set_option maxRecDepth 100000 in
theorem samed_eq (g o cap g' o' cap' : Nat) (ns ns' : List Nd) (w : World) (hn : ns.length ≤ 4611686018427387904) (hl : ns'.length = ns.length)
    (hc : NdAt g o ns w) (hc' : NdAt g' o' ns' w) :
    Calls Try.prog 18 #[.slice (some ⟨g, o, none⟩) ns.length cap, .slice (some ⟨g', o', none⟩) ns.length cap'] w fun e w' => e = .returned (.bool (decide (ns = ns'))) ∧ ∃ n, w' = w.drewN n := by
  have HC : Hid _ := hc
  have HC' : Hid _ := hc'
  have HL : Hid _ := hl
  have hn1 : (ns.length : Int) ≤ 4611686018427387904 := by omega
  clear hc hc' hl
  go_enter Try.func18, Try.ntmps18
  go_wp2
  go_loopw [5] (fun i wr => ∃ k m : Nat, k ≤ ns.length ∧ i = .int .i64 k ∧ ns.take k = ns'.take k ∧ wr = w.drewN m) (fun i _ => ns.length - (intOf i).toNat)
  case atStart => exact ⟨0, 0, Nat.zero_le _, rfl, rfl, rfl⟩
  case round =>
    obtain ⟨k, m, hk, rfl, ht, rfl⟩ := hrel
    have HK : Hid _ := ht
    clear ht
    by_cases hlt : k < ns.length
    · have hlt' : k < ns'.length := by rw [HL.out]; exact hlt
      obtain ⟨a0, a1, a2⟩ := HC.out k hlt
      obtain ⟨b0, b1, b2⟩ := HC'.out k hlt'
      generalize hx : ns[k] = x at a0 a1 a2
      generalize hy : ns'[k] = y at b0 b1 b2
      obtain ⟨xa, xk, xd⟩ := x
      obtain ⟨ya, yk, yd⟩ := y
      have HX : Hid (ns[k] = (xa, xk, xd)) := hx
      have HY : Hid (ns'[k] = (ya, yk, yd)) := hy
      simp only at a0 a1 a2 b0 b1 b2
      clear hx hy
      have i2 : (k : Int) < ns.length := by omega
      by_cases he : (xa, xk, xd) = (ya, yk, yd)
      · simp only [Prod.mk.injEq] at he
        obtain ⟨rfl, rfl, rfl⟩ := he
        go_wp2
        go_region
        all_goals go_wp2
        all_goals
          refine ⟨⟨k + 1, m + 1, by omega, by go_num, ?_, rfl⟩, by simp [intOf]; omega⟩
          rw [List.take_succ_eq_append_getElem hlt, List.take_succ_eq_append_getElem hlt', HK.out, HX.out, HY.out]
      · have HE : Hid (¬ (xa, xk, xd) = (ya, yk, yd)) := he
        by_cases h1 : xa.toList = ya.toList
        · obtain rfl : xa = ya := by
            rw [Lib.toList_data, Lib.toList_data] at h1
            exact (bytes_eq h1).trans (bytes_eq rfl).symm
          by_cases h2 : xk = yk
          · subst h2
            have h3 : ¬ xd.toList = yd.toList := by
              intro h
              rw [Lib.toList_data, Lib.toList_data] at h
              exact he (by rw [(bytes_eq h).trans (bytes_eq rfl).symm])
            clear he h1
            go_wp2
            go_region
            all_goals go_wp2
            all_goals
              go_ret
              refine ⟨?_, m + 1, rfl⟩
              have hne : ns ≠ ns' := fun h => HE.out (by subst h; exact HX.out.symm.trans HY.out)
              simp [hne]
          · clear he h1
            go_wp2
            go_region
            all_goals go_wp2
            all_goals
              go_ret
              refine ⟨?_, m + 1, rfl⟩
              have hne : ns ≠ ns' := fun h => HE.out (by subst h; exact HX.out.symm.trans HY.out)
              simp [hne]
        · clear he
          go_wp2
          go_region
          all_goals go_wp2
          all_goals
            go_ret
            refine ⟨?_, m + 1, rfl⟩
            have hne : ns ≠ ns' := fun h => HE.out (by subst h; exact HX.out.symm.trans HY.out)
            simp [hne]
    · go_wp2
      go_ret
      refine ⟨?_, m, rfl⟩
      have heq : ns = ns' := by
        have h := HK.out
        rwa [List.take_of_length_le (by omega), List.take_of_length_le (by rw [HL.out]; omega)] at h
      simp [heq]

theorem samed_any (w : World) (v v' : Value) (ns ns' : List Nd) (h : IsNodes w v ns) (h' : IsNodes w v' ns') :
    Calls Try.prog 18 #[v, v'] w fun e w' => e = .returned (.bool (decide (ns = ns'))) ∧ ∃ n, w' = w.drewN n := by
  obtain ⟨hn, _, a, cap, rfl, hs⟩ := h
  obtain ⟨_, _, a', cap', rfl, hs'⟩ := h'
  by_cases hl : ns.length = ns'.length
  · by_cases h0 : ns.length = 0
    · have k1 : ns = [] := List.length_eq_zero_iff.1 h0
      have k2 : ns' = [] := List.length_eq_zero_iff.1 (by omega)
      subst k1 k2
      refine (samed_zero a a' cap cap' w).mono ?_
      rintro e w' ⟨rfl, rfl⟩
      exact ⟨by simp, 0, rfl⟩
    · rcases hs with rfl | ⟨g, o, rfl, _, hc⟩
      · simp at h0
      rcases hs' with rfl | ⟨g', o', rfl, _, hc'⟩
      · simp at hl; simp [hl] at h0
      rw [← hl]
      exact samed_eq g o cap g' o' cap' ns ns' w hn hl.symm hc hc'
  · refine (samed_ne a a' _ _ cap cap' w hl).mono ?_
    rintro e w' ⟨rfl, rfl⟩
    have hne : ns ≠ ns' := fun h => hl (by rw [h])
    exact ⟨by simp [hne], 0, rfl⟩
end Go.Proofs.Ytligalcphlfmcad
