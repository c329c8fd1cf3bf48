/- What the log's firstEntry answers. -/
import Derived.Test.YtcfplkfddcblnaaLogC
namespace Go.Proofs.Ytcfplkfddcblnaa
open Go.RowKit Go.Shelf

set_option maxHeartbeats 4000000 in
set_option maxRecDepth 100000 in
theorem fe_bad (b n : Nat) (s : ByteArray) (t q r : List UInt8) (hs : s.size ≤ 140737488355328) (h : s.data.toList = 76 :: (pk n ++ (t ++ (q ++ r)))) (hl : n ≤ 100000) (ht : t.length = n) (hq : q.length = 4) (hne : q ≠ le4 (crc t)) : FeNo b s := by
  intro w hA
  have hl' : (n : Int) ≤ 100000 := by omega
  have h1 := size_of h
  simp only [List.length_cons, List.length_append] at h1
  have hz : (⟨(pk n ++ (t ++ (q ++ r))).toArray⟩ : ByteArray).size ≤ maxLen := by
    have h2 : (⟨(pk n ++ (t ++ (q ++ r))).toArray⟩ : ByteArray).size = (pk n ++ (t ++ (q ++ r))).length := size_of rfl
    simp only [List.length_append] at h2
    unfold maxLen
    omega
  have h8 := pk_len8 n (by omega)
  obtain ⟨t0, e0⟩ : ∃ x : ByteArray, x = ⟨t.toArray⟩ := ⟨_, rfl⟩
  obtain ⟨q0, e1⟩ : ∃ x : ByteArray, x = ⟨q.toArray⟩ := ⟨_, rfl⟩
  obtain ⟨k0, e2⟩ : ∃ x : ByteArray, x = ⟨(le4 (crc t)).toArray⟩ := ⟨_, rfl⟩
  have hzt : t0.size = n := by rw [e0]; exact (size_of rfl).trans ht
  have HC : Hid (∀ w1, TabAt w1 b → Calls Try.prog 33 #[.pointer (some ⟨b, 0, none⟩), .string t0] w1 fun e w' => e = .returned (.string k0) ∧ Below w1.heap.size w1 w') := fun w1 hw => by
    have := checkBytes_any b t0 w1 (by omega) hw
    rw [e0] at this ⊢
    rw [e2]
    simpa using this
  obtain ⟨m, hm⟩ : ∃ m, m = (pk n).length := ⟨_, rfl⟩
  have HR : Hid (∀ w1, Calls Try.prog 38 #[.string ⟨(pk n ++ (t ++ (q ++ r))).toArray⟩] w1 fun e w' => e = .returned (.tuple #[.int .i64 n, .int .i64 m, .int .i64 0]) ∧ w' = w1) := fun w1 => by rw [hm]; exact ReadNumber_pk ⟨(pk n ++ (t ++ (q ++ r))).toArray⟩ w1 n (t ++ (q ++ r)) hz (by omega) (by simp)
  have HU : Hid (∀ w1, Calls Try.prog 37 #[.string s, .string ⟨#[76]⟩] w1 fun e w' => e = .returned (.tuple #[.string ⟨(pk n ++ (t ++ (q ++ r))).toArray⟩, .bool true]) ∧ w' = w1) := fun w1 => cut_yes s _ w1 (by omega) h
  have hs1 : ∀ W : World, (Instr.slice 9 (.string s) (some (.int .i64 (1 + (m : Int)))) (some (.int .i64 (1 + (m : Int) + (n : Int)))) none).run Try.prog W = .ok (.string t0) W := fun W => by
    rw [sub_mid s (1 + m) (1 + m + n) _ _ (by omega) (by omega) (by omega) (by omega) W, e0]
    rw [extract_part s (76 :: pk n) t (q ++ r) _ _ (by simp [hm]; omega) (by simp [hm, ht]; omega) (by simpa using h)]
  have hs2 : ∀ W : World, (Instr.slice 9 (.string s) (some (.int .i64 (1 + (m : Int) + (n : Int)))) (some (.int .i64 (1 + (m : Int) + (n : Int) + 4))) none).run Try.prog W = .ok (.string q0) W := fun W => by
    rw [sub_mid s (1 + m + n) (1 + m + n + 4) _ _ (by omega) (by omega) (by omega) (by omega) W, e1]
    rw [extract_part s (76 :: (pk n ++ t)) q r _ _ (by simp [hm, ht]; omega) (by simp [hm, ht, hq]; omega) (by simpa using h)]
  have heq : (q0.toList == k0.toList) = false := by
    rw [beq_eq_false_iff_ne, Lib.toList_data, Lib.toList_data, e1, e2]
    exact hne
  have hle : 1 + (m : Int) + (n : Int) + 4 ≤ (s.size : Int) := by omega
  have hsb : (s.size : Int) ≤ 140737488355328 := by omega
  have HA : Hid (TabAt w.drew b) := hA
  generalize (⟨(pk n ++ (t ++ (q ++ r))).toArray⟩ : ByteArray) = p0 at HR HU
  clear hne e0 e1 e2 hm hA h h1 hz h8 hs ht hq hzt hl
  go_enter Try.func25, Try.ntmps25
  go_wp2_with (go_at_call 37; refine (HU.out _).mono ?_; rintro e w' ⟨rfl, rfl⟩)
  refine (HR.out _).mono ?_
  rintro e w' ⟨rfl, rfl⟩
  go_wp2
  go_region_with (go_at_call 33; refine (HC.out _ HA.out).mono ?_; rintro e w1 ⟨rfl, hb1⟩)
  all_goals go_wp2
  all_goals go_ret3
  all_goals exact ⟨rfl, (Below.refl _ _).drew.trans hb1⟩

set_option maxHeartbeats 4000000 in
set_option maxRecDepth 100000 in
theorem fe_yes0 (b n : Nat) (s : ByteArray) (t q r : List UInt8) (w : World) (hA : TabAt w b) (hs : s.size ≤ 140737488355328) (h : s.data.toList = 76 :: (pk n ++ (t ++ (q ++ r)))) (hl : n ≤ 100000) (ht : t.length = n) (hq : q.length = 4) (hne : q = le4 (crc t)) :
    Calls Try.prog 25 #[.pointer (some ⟨b, 0, none⟩), .string s] w fun e w' => e = .returned (.tuple #[.string ⟨t.toArray⟩, .int .i64 (1 + (pk n).length + n + 4 : Nat), .bool true]) ∧ Below w.heap.size w w' := by
  have hl' : (n : Int) ≤ 100000 := by omega
  have h1 := size_of h
  simp only [List.length_cons, List.length_append] at h1
  have hz : (⟨(pk n ++ (t ++ (q ++ r))).toArray⟩ : ByteArray).size ≤ maxLen := by
    have h2 : (⟨(pk n ++ (t ++ (q ++ r))).toArray⟩ : ByteArray).size = (pk n ++ (t ++ (q ++ r))).length := size_of rfl
    simp only [List.length_append] at h2
    unfold maxLen
    omega
  have h8 := pk_len8 n (by omega)
  obtain ⟨t0, e0⟩ : ∃ x : ByteArray, x = ⟨t.toArray⟩ := ⟨_, rfl⟩
  obtain ⟨q0, e1⟩ : ∃ x : ByteArray, x = ⟨q.toArray⟩ := ⟨_, rfl⟩
  obtain ⟨k0, e2⟩ : ∃ x : ByteArray, x = ⟨(le4 (crc t)).toArray⟩ := ⟨_, rfl⟩
  have hzt : t0.size = n := by rw [e0]; exact (size_of rfl).trans ht
  have HC : Hid (∀ w1, TabAt w1 b → Calls Try.prog 33 #[.pointer (some ⟨b, 0, none⟩), .string t0] w1 fun e w' => e = .returned (.string k0) ∧ Below w1.heap.size w1 w') := fun w1 hw => by
    have := checkBytes_any b t0 w1 (by omega) hw
    rw [e0] at this ⊢
    rw [e2]
    simpa using this
  obtain ⟨m, hm⟩ : ∃ m, m = (pk n).length := ⟨_, rfl⟩
  have HR : Hid (∀ w1, Calls Try.prog 38 #[.string ⟨(pk n ++ (t ++ (q ++ r))).toArray⟩] w1 fun e w' => e = .returned (.tuple #[.int .i64 n, .int .i64 m, .int .i64 0]) ∧ w' = w1) := fun w1 => by rw [hm]; exact ReadNumber_pk ⟨(pk n ++ (t ++ (q ++ r))).toArray⟩ w1 n (t ++ (q ++ r)) hz (by omega) (by simp)
  have HU : Hid (∀ w1, Calls Try.prog 37 #[.string s, .string ⟨#[76]⟩] w1 fun e w' => e = .returned (.tuple #[.string ⟨(pk n ++ (t ++ (q ++ r))).toArray⟩, .bool true]) ∧ w' = w1) := fun w1 => cut_yes s _ w1 (by omega) h
  have hs1 : ∀ W : World, (Instr.slice 9 (.string s) (some (.int .i64 (1 + (m : Int)))) (some (.int .i64 (1 + (m : Int) + (n : Int)))) none).run Try.prog W = .ok (.string t0) W := fun W => by
    rw [sub_mid s (1 + m) (1 + m + n) _ _ (by omega) (by omega) (by omega) (by omega) W, e0]
    rw [extract_part s (76 :: pk n) t (q ++ r) _ _ (by simp [hm]; omega) (by simp [hm, ht]; omega) (by simpa using h)]
  have hs2 : ∀ W : World, (Instr.slice 9 (.string s) (some (.int .i64 (1 + (m : Int) + (n : Int)))) (some (.int .i64 (1 + (m : Int) + (n : Int) + 4))) none).run Try.prog W = .ok (.string q0) W := fun W => by
    rw [sub_mid s (1 + m + n) (1 + m + n + 4) _ _ (by omega) (by omega) (by omega) (by omega) W, e1]
    rw [extract_part s (76 :: (pk n ++ t)) q r _ _ (by simp [hm, ht]; omega) (by simp [hm, ht, hq]; omega) (by simpa using h)]
  have heq : (q0.toList == k0.toList) = true := by
    rw [beq_iff_eq, Lib.toList_data, Lib.toList_data, e1, e2]
    exact hne
  have HV : Hid ((⟨t.toArray⟩ : ByteArray) = t0 ∧ ((1 + (pk n).length + n + 4 : Nat) : Int) = 1 + (m : Int) + (n : Int) + 4) := ⟨e0.symm, by rw [← hm]; omega⟩
  have hle : 1 + (m : Int) + (n : Int) + 4 ≤ (s.size : Int) := by omega
  have hsb : (s.size : Int) ≤ 140737488355328 := by omega
  have HA : Hid (TabAt w.drew b) := hA
  generalize (⟨(pk n ++ (t ++ (q ++ r))).toArray⟩ : ByteArray) = p0 at HR HU
  clear hne e0 e1 e2 hm hA h h1 hz h8 hs ht hq hzt hl
  go_enter Try.func25, Try.ntmps25
  go_wp2_with (go_at_call 37; refine (HU.out _).mono ?_; rintro e w' ⟨rfl, rfl⟩)
  refine (HR.out _).mono ?_
  rintro e w' ⟨rfl, rfl⟩
  go_wp2
  go_region_with (go_at_call 33; refine (HC.out _ HA.out).mono ?_; rintro e w1 ⟨rfl, hb1⟩)
  all_goals go_wp2
  all_goals go_ret3
  all_goals exact ⟨by rw [HV.out.1, HV.out.2]; rfl, (Below.refl _ _).drew.trans hb1⟩

theorem fe_yes (b : Nat) (s : ByteArray) (t r : List UInt8) (w : World) (hA : TabAt w b) (hs : s.size ≤ 140737488355328) (h : s.data.toList = ent t ++ r) (hl : t.length ≤ 100000) :
    Calls Try.prog 25 #[.pointer (some ⟨b, 0, none⟩), .string s] w fun e w' => e = .returned (.tuple #[.string ⟨t.toArray⟩, .int .i64 ((ent t).length : Nat), .bool true]) ∧ Below w.heap.size w w' := by
  rw [ent_len]
  exact fe_yes0 b t.length s t (le4 (crc t)) r w hA hs (by rw [h]; simp [ent]) hl rfl (le4_len _) rfl
theorem fe_no (b : Nat) (s : ByteArray) (hs : s.size ≤ 140737488355328) (hno : NoEnt s.data.toList) : FeNo b s := by
  by_cases hm : s.data.toList.head? = some 76
  · obtain ⟨p, hp⟩ : ∃ p, s.data.toList = 76 :: p := by
      cases hd : s.data.toList with
      | nil => rw [hd] at hm; cases hm
      | cons a l => rw [hd] at hm; simp at hm; exact ⟨l, by rw [hm]⟩
    by_cases hn : NoNum ⟨p.toArray⟩
    · exact fe_num b s p hs hp hn
    · obtain ⟨n, r, hn9, hr⟩ := Classical.not_not.1 hn
      have hr' : p = pk n ++ r := by simpa using hr
      subst hr'
      by_cases hl : n ≤ 100000
      · by_cases hrl : r.length < n + 4
        · exact fe_short b n s r hs hp hl hrl
        · have e : r = r.take n ++ ((r.drop n).take 4 ++ (r.drop n).drop 4) := by rw [List.take_append_drop, List.take_append_drop]
          have ht : (r.take n).length = n := by rw [List.length_take]; omega
          refine fe_bad b n s (r.take n) ((r.drop n).take 4) ((r.drop n).drop 4) hs (by rw [← e]; exact hp) hl ht (by rw [List.length_take, List.length_drop]; omega) fun hq => hno ⟨r.take n, (r.drop n).drop 4, by omega, ?_⟩
          rw [hp]
          unfold ent
          rw [ht, ← hq]
          simp only [List.cons_append, List.append_assoc]
          rw [← e]
      · exact fe_long b n s r hs hp hn9 (by omega)
  · exact fe_mark b s (by omega) hm
end Go.Proofs.Ytcfplkfddcblnaa
