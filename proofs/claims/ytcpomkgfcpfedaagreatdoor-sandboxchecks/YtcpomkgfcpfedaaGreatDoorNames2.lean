/- What the document's own IsName answers. -/
import Derived.Test.YtcpomkgfcpfedaaGreatDoorNames
namespace Go.Proofs.YtcpomkgfcpfedaaGreatDoor
open Go.RowKit Go.Shelf

theorem nm_cls (c : Int) (h : nmB c = true) : (97 ≤ c ∧ c ≤ 122) ∨ (c < 97 ∧ 48 ≤ c ∧ c ≤ 57) ∨ c = 95 ∨ c = 45 ∨ c = 46 := by
  simp [nmB] at h
  omega
theorem nm_cls_no (c : Int) (h : nmB c = false) : ((c == 95) = false ∧ (c == 45) = false ∧ (c == 46) = false) ∧ (c < 48 ∨ (48 ≤ c ∧ decide (c ≤ 57) = false ∧ c < 97) ∨ (97 ≤ c ∧ decide (c ≤ 122) = false ∧ decide (c ≤ 57) = false)) := by
  simp [nmB] at h ⊢
  omega

theorem name_cls (s : ByteArray) : (s.size = 0 ∧ (s.toList.all (fun c => nmB c.toNat) = true → nameOk s = false)) ∨
    (1 ≤ (s.size : Int) ∧ decide ((s.size : Int) ≤ 20) = false ∧ (s.toList.all (fun c => nmB c.toNat) = true → nameOk s = false)) ∨
    (1 ≤ (s.size : Int) ∧ (s.size : Int) ≤ 20 ∧ (s.toList == [46]) = true ∧ (s.toList.all (fun c => nmB c.toNat) = true → nameOk s = false)) ∨
    (1 ≤ (s.size : Int) ∧ (s.size : Int) ≤ 20 ∧ (s.toList == [46]) = false ∧ (s.toList == [46, 46]) = true ∧ (s.toList.all (fun c => nmB c.toNat) = true → nameOk s = false)) ∨
    (1 ≤ (s.size : Int) ∧ (s.size : Int) ≤ 20 ∧ (s.toList == [46]) = false ∧ (s.toList == [46, 46]) = false ∧ (s.toList.all (fun c => nmB c.toNat) = true → nameOk s = true)) := by
  have hl : s.toList.length = s.size := by rw [Lib.toList_data]; exact (size_of (s := s) rfl).symm
  by_cases h0 : s.size = 0
  · refine Or.inl ⟨h0, fun _ => ?_⟩
    have : s.toList = [] := List.length_eq_zero_iff.1 (by omega)
    simp [nameOk, this]
  have h1 : (s.toList == []) = false := by
    rw [beq_eq_false_iff_ne]
    intro h
    rw [h] at hl
    simp at hl
    omega
  refine Or.inr ?_
  by_cases h2 : s.size ≤ 20
  · refine Or.inr ?_
    by_cases h3 : (s.toList == [46]) = true
    · exact Or.inl ⟨by omega, by omega, h3, fun _ => by simp [nameOk, h3]⟩
    have h3' : (s.toList == [46]) = false := by simpa using h3
    refine Or.inr ?_
    by_cases h4 : (s.toList == [46, 46]) = true
    · exact Or.inl ⟨by omega, by omega, h3', h4, fun _ => by simp [nameOk, h4]⟩
    have h4' : (s.toList == [46, 46]) = false := by simpa using h4
    exact Or.inr ⟨by omega, by omega, h3', h4', fun h => by simp only [nameOk, h1, h3', h4', h, h2]; simp⟩
  · exact Or.inl ⟨by omega, by simp; omega, fun _ => by simp [nameOk, h2]⟩

set_option maxHeartbeats 4000000 in
set_option maxRecDepth 100000 in
theorem RIsName_any (s : ByteArray) (w : World) (hs : s.size ≤ maxLen) :
    Calls Tryz.prog 40 #[.string s] w fun e w' => e = .returned (.bool (nameOk s)) ∧ w' = w := by
  have hsz : (s.size : Int) ≤ 9223372036854775807 := by unfold maxLen at hs; omega
  clear hs
  have HA : Hid (s.toList.all (fun c => nmB c.toNat) = false → nameOk s = false) := fun h => by simp [nameOk, h]
  rcases name_cls s with ⟨g1, g5⟩ | ⟨g1, g2, g5⟩ | ⟨g1, g2, g3, g5⟩ | ⟨g1, g2, g3, g4, g5⟩ | ⟨g1, g2, g3, g4, g5⟩
  all_goals
    have HB : Hid _ := g5
    clear g5
    go_enter Tryz.func40, Tryz.ntmps40
    go_wp2
    go_loop [3] (fun i => ∃ k : Nat, k ≤ s.size ∧ i = .int .i64 k ∧ ∀ j (hj : j < s.size), j < k → nmB s[j].toNat = true) (fun i => s.size - (intOf i).toNat)
    case atStart => exact ⟨0, Nat.zero_le _, rfl, by omega⟩
    case round =>
      obtain ⟨k, hk, rfl, hlo⟩ := hrel
      have HL : Hid _ := hlo
      clear hlo
      by_cases hlt : k < s.size
      · try (exfalso; omega)
        all_goals
         by_cases hb : nmB s[k].toNat = true
         · have HN : Hid _ := hb
           rcases nm_cls _ hb with ⟨c1, c2⟩ | ⟨c1, c2, c3⟩ | c1 | c1 | c1
           all_goals
             clear hb
             go_wp2
             refine ⟨⟨k + 1, by omega, by go_num, fun j hj hjk => ?_⟩, by simp [intOf]; omega⟩
             by_cases h : j < k
             · exact HL.out j hj h
             · obtain rfl : j = k := by omega
               exact HN.out
         · have hb' : nmB s[k].toNat = false := by simpa using hb
           clear hb
           have HF : Hid (nameOk s = false) := HA.out (all_false s k hlt _ hb')
           obtain ⟨⟨e1, e2, e3⟩, c1 | ⟨c1, c2, c3⟩ | ⟨c1, c2, c3⟩⟩ := nm_cls_no _ hb'
           all_goals
             clear hb'
             go_wp2
             go_ret
             exact ⟨by rw [HF.out]; rfl, rfl⟩
      · have HF : Hid _ := HB.out (all_true s _ (fun j hj => HL.out j hj (by omega)))
        go_wp2
        go_ret
        exact ⟨by rw [HF.out]; rfl, rfl⟩
end Go.Proofs.YtcpomkgfcpfedaaGreatDoor
