/- Meets, of the program and of the document. -/
import Derived.ProofKit
import Derived.Below
import Derived.Lib.SmallJoins
import Derived.Deep.QuietTactic
import Derived.Test.YtcpomkgfcpfedaaGreatDoorChecked
namespace Go.Proofs.YtcpomkgfcpfedaaGreatDoor
open Go.RowKit

/-- One path inside the other. -/
def inB (p d : ByteArray) : Bool := decide (d.size < p.size) && decide (p.data.toList.getD d.size 0 = 47) && decide ((p.extract 0 d.size).toList = d.toList)
def meetB (a b : ByteArray) : Bool := decide (a.toList = b.toList) || inB a b || inB b a
theorem meet_comm (a b : ByteArray) : meetB a b = meetB b a := by
  unfold meetB
  rw [Bool.or_assoc, Bool.or_assoc, Bool.or_comm (inB a b)]
  congr 1
  rw [Bool.eq_iff_iff]
  simp only [decide_eq_true_eq]
  exact eq_comm
theorem meet_self (a : ByteArray) : meetB a a = true := by unfold meetB; simp
theorem at_getD (p : ByteArray) (k : Nat) (h : k < p.size) : p[k] = p.data.toList.getD k 0 := by
  have h' : k < p.data.toList.length := by rw [Array.length_toList]; exact h
  rw [List.getD_eq_getElem?_getD, List.getElem?_eq_getElem h']
  rfl
theorem is47 (x : UInt8) : ((x.toNat : Int) == 47) = decide (x = 47) := by
  rw [Bool.eq_iff_iff]
  simp only [beq_iff_eq, decide_eq_true_eq]
  constructor
  · intro h
    exact UInt8.toNat_inj.1 (by show x.toNat = 47; omega)
  · intro h
    rw [h]
    rfl

set_option maxHeartbeats 2000000 in
set_option maxRecDepth 100000 in
theorem isInside_any (p d : ByteArray) (w : World) :
    Calls Tryz.prog 139 #[.string p, .string d] w fun e w' => e = .returned (.bool (inB p d)) ∧ w' = w := by
  by_cases h1 : d.size < p.size
  · have h2 : (d.size : Int) < (p.size : Int) := by omega
    have hq : (((p[d.size]).toNat : Int) == 47) = decide (p.data.toList.getD d.size 0 = 47) := by rw [is47, at_getD]
    have hle : d.size ≤ p.size := by omega
    by_cases h3 : p.data.toList.getD d.size 0 = 47
    · rw [decide_eq_true h3] at hq
      by_cases h4 : (p.extract 0 d.size).toList = d.toList
      · have h5 : ((p.extract 0 d.size).toList == d.toList) = true := beq_iff_eq.2 h4
        have e : inB p d = true := by unfold inB; simp only [h1, h3, h4, decide_true, Bool.and_self]
        rw [e]
        clear e h3 h4
        go_enter Tryz.func139, Tryz.ntmps139
        go_wp2
        go_ret
        exact ⟨rfl, rfl⟩
      · have h5 : ((p.extract 0 d.size).toList == d.toList) = false := beq_eq_false_iff_ne.2 h4
        have e : inB p d = false := by unfold inB; rw [decide_eq_false h4, Bool.and_false]
        rw [e]
        clear e h3 h4
        go_enter Tryz.func139, Tryz.ntmps139
        go_wp2
        go_ret
        exact ⟨rfl, rfl⟩
    · rw [decide_eq_false h3] at hq
      have e : inB p d = false := by unfold inB; rw [decide_eq_false h3, Bool.and_false, Bool.false_and]
      rw [e]
      clear e h3
      go_enter Tryz.func139, Tryz.ntmps139
      go_wp2
      go_ret
      exact ⟨rfl, rfl⟩
  · have h2 : ¬ (d.size : Int) < (p.size : Int) := by omega
    have e : inB p d = false := by unfold inB; simp [h1]
    rw [e]
    clear e h1
    go_enter Tryz.func139, Tryz.ntmps139
    go_wp2
    go_ret
    exact ⟨rfl, rfl⟩

set_option maxHeartbeats 2000000 in
set_option maxRecDepth 100000 in
theorem Meets_any (a b : ByteArray) (w : World) :
    Calls Tryz.prog 119 #[.string a, .string b] w fun e w' => e = .returned (.bool (meetB a b)) ∧ w' = w := by
  have HI : Hid (∀ (x y : ByteArray) (W : World), Calls Tryz.prog 139 #[.string x, .string y] W fun e w' => e = .returned (.bool (inB x y)) ∧ w' = W) := fun x y W => isInside_any x y W
  have em : meetB a b = (decide (a.toList = b.toList) || inB a b || inB b a) := by
    unfold meetB
    rfl
  rw [em]
  clear em
  have hq : (a.toList == b.toList) = decide (a.toList = b.toList) := by
    rw [Bool.eq_iff_iff]; simp
  generalize decide (a.toList = b.toList) = q at hq
  cases q with
  | true =>
    rw [Bool.true_or, Bool.true_or]
    go_enter Tryz.func119, Tryz.ntmps119
    go_wp2
    go_ret
    exact ⟨rfl, rfl⟩
  | false =>
    rw [Bool.false_or]
    cases h1 : inB a b with
    | true =>
      rw [Bool.true_or]
      have HA : Hid (∀ W : World, Calls Tryz.prog 139 #[.string a, .string b] W fun e w' => e = .returned (.bool true) ∧ w' = W) := fun W => h1 ▸ HI.out a b W
      clear HI h1
      go_enter Tryz.func119, Tryz.ntmps119
      go_wp2_with (first | (go_at_call 139; refine (HA.out _).mono ?_; rintro e w' ⟨rfl, hw⟩; subst w') | go_in)
      go_ret
      exact ⟨rfl, rfl⟩
    | false =>
      rw [Bool.false_or]
      have HA : Hid (∀ W : World, Calls Tryz.prog 139 #[.string a, .string b] W fun e w' => e = .returned (.bool false) ∧ w' = W) := fun W => h1 ▸ HI.out a b W
      have HB : Hid (∀ W : World, Calls Tryz.prog 139 #[.string b, .string a] W fun e w' => e = .returned (.bool (inB b a)) ∧ w' = W) := fun W => HI.out b a W
      clear HI h1
      generalize inB b a = r at HB
      go_enter Tryz.func119, Tryz.ntmps119
      go_wp2_with (first
        | (go_at_call 139; with_reducible refine (HA.out _).mono ?_; rintro e w' ⟨rfl, hw⟩; subst w')
        | (go_at_call 139; with_reducible refine (HB.out _).mono ?_; rintro e w' ⟨rfl, hw⟩; subst w')
        | go_in)
      go_ret
      exact ⟨rfl, rfl⟩
end Go.Proofs.YtcpomkgfcpfedaaGreatDoor
