/- The document's check of targets: what is plain; FileAt. -/
import Derived.Test.YtankaiopdbcndaaGreatDoorGk6M
import Derived.Test.YtankaiopdbcndaaGreatDoorTrDM
import Derived.Test.YtankaiopdbcndaaGreatDoorTc7
namespace Go.Proofs.YtankaiopdbcndaaGreatDoor
open Go.RowKit Go.Shelf Go.Maps Go.WideMaps
/-- A number below nothing tells that there is none. -/
def FaN (L : List Fl) (s : ByteArray) (i : Int) : Prop := i < 0 ↔ ¬ tl s ∈ L.map pth
theorem eqLk (a b : ByteArray) : (a.toList == b.toList) = decide (a.data.toList = b.data.toList) := by
  rw [Lib.toList_data, Lib.toList_data, Bool.eq_iff_iff]
  simp

set_option maxHeartbeats 4000000 in
set_option maxRecDepth 100000 in
theorem RFileAt_any (ao : Option Addr) (ac : Nat) (L : List Fl) (s : ByteArray) (w : World) (hl : IsFl w ao L) (hn : L.length ≤ 60) :
    Calls Tryz.prog 44 #[.slice ao L.length ac, .string s] w fun e w' => ∃ i : Int, e = .returned (.int .i64 i) ∧ FaN L s i ∧ w' = w := by
  have HL : Hid (IsFl w ao L) := hl
  have hn1 : (L.length : Int) ≤ 60 := by omega
  clear hl
  go_enter Tryz.func44, Tryz.ntmps44
  go_wp2
  go_loopw [5] (fun i wr => ∃ k : Nat, k ≤ L.length ∧ i = .int .i64 k ∧ Hid (∀ j (hj : j < L.length), j < k → pth L[j] ≠ s.data.toList) ∧ wr = w) (fun i _ => L.length - (intOf i).toNat)
  case atStart => exact ⟨0, by omega, rfl, (fun j _ h => absurd h (Nat.not_lt_zero _) : ∀ j (hj : j < L.length), j < 0 → pth L[j] ≠ s.data.toList), rfl⟩
  case round =>
    obtain ⟨k, hk, rfl, HQ, rfl⟩ := hrel
    by_cases hlt : k < L.length
    · rcases HL.out with h | ⟨g, o, rfl, hg, hc⟩
      · exfalso; rw [h] at hlt; exact absurd hlt (by simp)
      obtain ⟨c0, _, _⟩ := hc k hlt
      have hki : (k : Int) < (L.length : Int) := by omega
      have hpe : (L[k].pa.toList == s.toList) = decide (pth L[k] = s.data.toList) := eqLk _ _
      clear hc
      by_cases hp : pth L[k] = s.data.toList
      · have HZ : Hid (FaN L s (k : Int)) := ⟨fun h => absurd h (by omega), fun h => absurd (List.mem_map.2 ⟨_, List.getElem_mem hlt, hp⟩) h⟩
        rw [decide_eq_true hp] at hpe
        clear hp
        go_wp2
        go_ret
        exact ⟨_, rfl, HZ.out, rfl⟩
      · have HZ : Hid (∀ j (hj : j < L.length), j < k + 1 → pth L[j] ≠ s.data.toList) := fun j hj h => by
          by_cases e : j < k
          · exact HQ.out j hj e
          · have e2 : j = k := by omega
            subst e2
            exact hp
        rw [decide_eq_false hp] at hpe
        clear hp
        go_wp2
        exact ⟨⟨k + 1, by omega, by go_num, HZ, trivial⟩, by simp [intOf]; omega⟩
    · obtain rfl : k = L.length := by omega
      have hki : ¬ (L.length : Int) < (L.length : Int) := by omega
      have HZ : Hid (FaN L s (-1)) := ⟨fun _ hf => by
        obtain ⟨f, hf, e⟩ := List.mem_map.1 hf
        obtain ⟨j, hj, rfl⟩ := List.mem_iff_getElem.1 hf
        exact HQ.out j hj hj e, fun _ => by decide⟩
      go_wp2
      go_ret
      exact ⟨_, rfl, HZ.out, rfl⟩
/-- What the target numbered i, at its output numbered k, is held against. -/
def MtA (FL : List Fl) (L : List Tg) (i k : Nat) (y : ByteArray) : Prop := (∃ j, ∃ hj : j < FL.length, FL[j].pa = y) ∨ ∃ jj, ∃ hj : jj < L.length, ∃ n, ∃ hn : n < L[jj].os.length, jj ≤ i ∧ (jj < i ∨ n < k) ∧ L[jj].os[n] = y
theorem mtA_iff {FL : List Fl} {L : List Tg} {i k : Nat} (hi : i < L.length) (y : ByteArray) : y ∈ (FL.map (·.pa) ++ (L.take i).flatMap (·.os)) ++ (L[i].os).take k ↔ MtA FL L i k y := by
  rw [List.mem_append, List.mem_append, List.mem_map, List.mem_flatMap]
  constructor
  · rintro ((⟨f, hf, rfl⟩ | ⟨t, ht, hy⟩) | h)
    · obtain ⟨j, hj, rfl⟩ := List.mem_iff_getElem.1 hf
      exact .inl ⟨j, hj, rfl⟩
    · obtain ⟨j, hj, rfl⟩ := List.mem_take_iff_getElem.1 ht
      obtain ⟨n, hn, rfl⟩ := List.mem_iff_getElem.1 hy
      exact .inr ⟨j, by omega, n, hn, by omega, .inl (by omega), rfl⟩
    · obtain ⟨n, hn, rfl⟩ := List.mem_take_iff_getElem.1 h
      exact .inr ⟨i, hi, n, by omega, Nat.le_refl _, .inr (by omega), rfl⟩
  · rintro (⟨j, hj, rfl⟩ | ⟨jj, hj, n, hn, h1, h2, rfl⟩)
    · exact .inl (.inl ⟨_, List.getElem_mem hj, rfl⟩)
    · rcases (show jj < i ∨ jj = i by omega) with h | rfl
      · exact .inl (.inr ⟨_, List.mem_take_iff_getElem.2 ⟨jj, by omega, rfl⟩, List.getElem_mem hn⟩)
      · refine .inr (List.mem_take_iff_getElem.2 ⟨n, ?_, rfl⟩)
        have : n < k := h2.resolve_left (by omega)
        omega
theorem tk_step {T os : List ByteArray} {k : Nat} (hk : k < os.length) (h : tkF T os = tkF (T ++ os.take k) (os.drop k)) (ha : ∀ y ∈ T ++ os.take k, meetB y os[k] = false) : tkF T os = tkF (T ++ os.take (k + 1)) (os.drop (k + 1)) := by
  rw [h, List.drop_eq_getElem_cons hk, tkF, if_neg, List.append_assoc, List.take_succ_eq_append_getElem hk]
  intro hh
  obtain ⟨y, hy, e⟩ := List.any_eq_true.1 hh
  rw [meet_comm, ha y hy] at e
  cases e
theorem tk_bad {T os : List ByteArray} {k : Nat} (hk : k < os.length) (h : tkF T os = tkF (T ++ os.take k) (os.drop k)) (y : ByteArray) (hy : y ∈ T ++ os.take k) (ha : meetB y os[k] = true) : (tkF T os).1 = false := by
  rw [h, List.drop_eq_getElem_cons hk, tkF, if_pos]
  exact List.any_eq_true.2 ⟨y, hy, by rw [meet_comm]; exact ha⟩
theorem tk_end {T os : List ByteArray} (h : tkF T os = tkF (T ++ os.take os.length) (os.drop os.length)) : tkF T os = (true, T ++ os) := by
  rw [h, List.take_length, List.drop_length, tkF]
section
variable {F : List (List UInt8)} {T : List ByteArray} {t : Tg}
theorem te_5 (k : Nat) (hk : k < t.ss.length) (h : ¬ tl t.ss[k] ∈ F) : teF F T t = 5 := by
  unfold teF
  rw [if_pos]
  exact List.any_eq_true.2 ⟨_, List.getElem_mem hk, by simp [h]⟩
theorem te_n5 (h : ∀ j (hj : j < t.ss.length), tl t.ss[j] ∈ F) : ¬ t.ss.any (fun x => !decide (tl x ∈ F)) = true := fun hh => by
  obtain ⟨x, hx, e⟩ := List.any_eq_true.1 hh
  obtain ⟨j, hj, rfl⟩ := List.mem_iff_getElem.1 hx
  simp [h j hj] at e
theorem te_1 (h5 : ¬ t.ss.any (fun x => !decide (tl x ∈ F)) = true) (k : Nat) (hk : k < t.os.length) (h : pathOk t.os[k] = false) : teF F T t = 1 := by
  unfold teF
  rw [if_neg h5, if_pos]
  exact List.any_eq_true.2 ⟨_, List.getElem_mem hk, by simp [h]⟩
theorem te_n1 (h : ∀ j (hj : j < t.os.length), pathOk t.os[j] = true) : ¬ t.os.any (fun x => !pathOk x) = true := fun hh => by
  obtain ⟨x, hx, e⟩ := List.any_eq_true.1 hh
  obtain ⟨j, hj, rfl⟩ := List.mem_iff_getElem.1 hx
  simp [h j hj] at e
theorem te_2 (h5 : ¬ t.ss.any (fun x => !decide (tl x ∈ F)) = true) (h1 : ¬ t.os.any (fun x => !pathOk x) = true) (h : 60 < t.ss.length ∨ 60 < t.os.length ∨ 60 < t.cs.length) : teF F T t = 2 := by
  unfold teF
  rw [if_neg h5, if_neg h1, if_pos h]
theorem te_6 (h5 : ¬ t.ss.any (fun x => !decide (tl x ∈ F)) = true) (h1 : ¬ t.os.any (fun x => !pathOk x) = true) (h : ¬ (60 < t.ss.length ∨ 60 < t.os.length ∨ 60 < t.cs.length)) (hk : (tkF T t.os).1 = false) : teF F T t = 6 := by
  unfold teF
  rw [if_neg h5, if_neg h1, if_neg h, hk]
  rfl
theorem te_0 (h5 : ¬ t.ss.any (fun x => !decide (tl x ∈ F)) = true) (h1 : ¬ t.os.any (fun x => !pathOk x) = true) (h : ¬ (60 < t.ss.length ∨ 60 < t.os.length ∨ 60 < t.cs.length)) (hk : (tkF T t.os).1 = true) : teF F T t = 0 := by
  unfold teF
  rw [if_neg h5, if_neg h1, if_neg h, hk]
  rfl
end
theorem gk_next {F : List (List UInt8)} {T0 : List ByteArray} {L : List Tg} {i : Nat} (hi : i < L.length) (h : gkF F T0 L = gkF F (T0 ++ (L.take i).flatMap (·.os)) (L.drop i)) (ht : teF F (T0 ++ (L.take i).flatMap (·.os)) L[i] = 0) (hk : tkF (T0 ++ (L.take i).flatMap (·.os)) L[i].os = (true, (T0 ++ (L.take i).flatMap (·.os)) ++ L[i].os)) : gkF F T0 L = gkF F (T0 ++ (L.take (i + 1)).flatMap (·.os)) (L.drop (i + 1)) := by
  rw [h, List.drop_eq_getElem_cons hi, gkF, if_pos ht, hk, List.take_succ_eq_append_getElem hi, List.flatMap_append, List.append_assoc]
  simp
theorem gk_stop {F : List (List UInt8)} {T0 : List ByteArray} {L : List Tg} {i : Nat} (hi : i < L.length) (h : gkF F T0 L = gkF F (T0 ++ (L.take i).flatMap (·.os)) (L.drop i)) (ht : teF F (T0 ++ (L.take i).flatMap (·.os)) L[i] ≠ 0) : gkF F T0 L = some (L[i].nm, teF F (T0 ++ (L.take i).flatMap (·.os)) L[i]) := by
  rw [h, List.drop_eq_getElem_cons hi, gkF, if_neg ht]
end Go.Proofs.YtankaiopdbcndaaGreatDoor
