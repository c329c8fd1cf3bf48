/- Is a text of a list no digest? -/
import Derived.Test.YtoceglbdnbnjpaaDoorCpWM
namespace Go.Proofs.YtoceglbdnbnjpaaDoor
open Go.RowKit

set_option maxHeartbeats 1000000 in
set_option maxRecDepth 100000 in
theorem nidx_none (g o cap : Nat) (ss : List ByteArray) (w : World) (hn : ss.length ≤ 4611686018427387904) (hcell : Row w g o ss) (hs : ∀ s ∈ ss, digOk s = true) :
    Calls Tryd.prog 66 #[.slice (some ⟨g, o, none⟩) ss.length cap, .func (.func 57) #[] #[]] w fun e w' => e = .returned (.int .i64 (-1)) ∧ w' = w := by
  have HC : Hid (Row w g o ss) := hcell
  have HS : Hid _ := hs
  have hn1 : (ss.length : Int) ≤ 4611686018427387904 := by omega
  clear hcell hs
  go_enter Tryd.func66, Tryd.ntmps66
  go_wp2
  go_loop [8] (fun i => ∃ k : Nat, k ≤ ss.length ∧ i = .int .i64 k) (fun i => ss.length - (intOf i).toNat)
  case atStart => exact ⟨0, Nat.zero_le _, rfl⟩
  case round =>
    obtain ⟨k, hk, rfl⟩ := hrel
    by_cases hlt : k < ss.length
    · have hc := HC.out k hlt
      have hb : (!digOk ss[k]) = false := by rw [HS.out _ (List.getElem_mem hlt)]; rfl
      go_wp2_with (go_at_call 57; refine (isNo_any _ _).mono ?_; rintro e w' ⟨rfl, rfl⟩; rw [hb])
      exact ⟨⟨k + 1, by omega, by go_num⟩, by simp [intOf]; omega⟩
    · go_wp2
      go_ret
      exact ⟨rfl, rfl⟩

set_option maxHeartbeats 1000000 in
set_option maxRecDepth 100000 in
theorem nidx_some (g o cap : Nat) (ss : List ByteArray) (w : World) (hn : ss.length ≤ 4611686018427387904) (hcell : Row w g o ss) (hs : ∃ s ∈ ss, digOk s = false) :
    Calls Tryd.prog 66 #[.slice (some ⟨g, o, none⟩) ss.length cap, .func (.func 57) #[] #[]] w fun e w' => (∃ k : Nat, e = .returned (.int .i64 k)) ∧ w' = w := by
  have HC : Hid (Row w g o ss) := hcell
  have HS : Hid _ := hs
  have hn1 : (ss.length : Int) ≤ 4611686018427387904 := by omega
  clear hcell hs
  go_enter Tryd.func66, Tryd.ntmps66
  go_wp2
  go_loop [8] (fun i => ∃ k : Nat, k ≤ ss.length ∧ i = .int .i64 k ∧ ∀ j (hj : j < ss.length), j < k → digOk ss[j] = true) (fun i => ss.length - (intOf i).toNat)
  case atStart => exact ⟨0, Nat.zero_le _, rfl, by omega⟩
  case round =>
    obtain ⟨k, hk, rfl, hlo⟩ := hrel
    have HL : Hid _ := hlo
    clear hlo
    by_cases hlt : k < ss.length
    · have hc := HC.out k hlt
      cases hb : digOk ss[k] with
      | false =>
        have hb' : (!digOk ss[k]) = true := by rw [hb]; rfl
        clear hb
        go_wp2_with (go_at_call 57; refine (isNo_any _ _).mono ?_; rintro e w' ⟨rfl, rfl⟩; rw [hb'])
        go_ret
        exact ⟨⟨k, rfl⟩, rfl⟩
      | true =>
        have hb' : (!digOk ss[k]) = false := by rw [hb]; rfl
        have HB : Hid (digOk ss[k] = true) := hb
        clear hb
        go_wp2_with (go_at_call 57; refine (isNo_any _ _).mono ?_; rintro e w' ⟨rfl, rfl⟩; rw [hb'])
        refine ⟨⟨k + 1, by omega, by go_num, fun j hj hjk => ?_⟩, by simp [intOf]; omega⟩
        by_cases h : j < k
        · exact HL.out j hj h
        · obtain rfl : j = k := by omega
          exact HB.out
    · exfalso
      obtain ⟨s, hs, hbad⟩ := HS.out
      obtain ⟨j, hj, rfl⟩ := List.getElem_of_mem hs
      have := HL.out j hj (by omega)
      rw [this] at hbad
      cases hbad

set_option maxHeartbeats 1000000 in
theorem ncf_none (g o cap : Nat) (ss : List ByteArray) (w : World) (hn : ss.length ≤ 4611686018427387904) (hcell : Row w g o ss) (hs : ∀ s ∈ ss, digOk s = true) :
    Calls Tryd.prog 60 #[.slice (some ⟨g, o, none⟩) ss.length cap, .func (.func 57) #[] #[]] w fun e w' => e = .returned (.bool false) ∧ w' = w := by
  have HC : Hid (Row w g o ss) := hcell
  have HS : Hid _ := hs
  clear hcell hs
  go_enter Tryd.func60, Tryd.ntmps60
  go_wp2_with (go_at_call 66; refine (nidx_none g o cap ss _ hn HC.out HS.out).mono ?_; rintro e w' ⟨rfl, rfl⟩)
  go_ret
  exact ⟨rfl, rfl⟩

set_option maxHeartbeats 1000000 in
theorem ncf_some (g o cap : Nat) (ss : List ByteArray) (w : World) (hn : ss.length ≤ 4611686018427387904) (hcell : Row w g o ss) (hs : ∃ s ∈ ss, digOk s = false) :
    Calls Tryd.prog 60 #[.slice (some ⟨g, o, none⟩) ss.length cap, .func (.func 57) #[] #[]] w fun e w' => e = .returned (.bool true) ∧ w' = w := by
  have HC : Hid (Row w g o ss) := hcell
  have HS : Hid _ := hs
  clear hcell hs
  go_enter Tryd.func60, Tryd.ntmps60
  go_wp2_with (go_at_call 66; refine (nidx_some g o cap ss _ hn HC.out HS.out).mono ?_; rintro e w' ⟨⟨k, rfl⟩, rfl⟩)
  go_ret
  exact ⟨rfl, rfl⟩

set_option maxHeartbeats 1000000 in
set_option maxRecDepth 100000 in
theorem ncf_zero (a : Option Addr) (cap : Nat) (w : World) :
    Calls Tryd.prog 60 #[.slice a 0 cap, .func (.func 57) #[] #[]] w fun e w' => e = .returned (.bool false) ∧ w' = w := by
  go_enter Tryd.func60, Tryd.ntmps60
  go_wp2
  refine wp_loop_rounds 1 ?_
  rw [rounds_succ]
  go_wp2
  go_ret
  exact ⟨rfl, rfl⟩

theorem all_or (ss : List ByteArray) : (∀ s ∈ ss, digOk s = true) ∨ ∃ s ∈ ss, digOk s = false := by
  induction ss with
  | nil => exact Or.inl (by simp)
  | cons a r ih =>
    cases ha : digOk a with
    | false => exact Or.inr ⟨a, by simp, ha⟩
    | true =>
      rcases ih with h | ⟨s, hs, hf⟩
      · exact Or.inl fun s hs => by
          rcases List.mem_cons.1 hs with rfl | h2
          · exact ha
          · exact h s h2
      · exact Or.inr ⟨s, by simp [hs], hf⟩
def allD (ss : List ByteArray) : Bool := ss.all digOk

theorem Tx.cn {w : World} {v : Value} {ss : List ByteArray} (h : Tx w v ss) : Calls Tryd.prog 60 #[v, .func (.func 57) #[] #[]] w fun e w' => e = .returned (.bool (!allD ss)) ∧ w' = w := by
  rcases h.2 with ⟨rfl, a, cap, rfl⟩ | ⟨h0, g, o, cap, rfl, hc, hr⟩
  · exact ncf_zero a cap w
  · rcases all_or ss with h1 | h1
    · have : allD ss = true := List.all_eq_true.2 h1
      rw [this]
      exact ncf_none g o cap ss w h.1 hr h1
    · have : allD ss = false := by
        obtain ⟨s, hs, hf⟩ := h1
        cases h2 : allD ss with
        | false => rfl
        | true =>
          have := List.all_eq_true.1 h2 s hs
          rw [hf] at this
          cases this
      rw [this]
      exact ncf_some g o cap ss w h.1 hr h1
end Go.Proofs.YtoceglbdnbnjpaaDoor
