/- The document's own: where a target stands; whether a text is among others. -/
import Derived.Test.YtbmfchflnfdjaaaGreatDoorTg6
namespace Go.Proofs.YtbmfchflnfdjaaaGreatDoor
open Go.RowKit Go.Shelf Go.Maps
theorem bq_ext {a b : ByteArray} (h : a.toList = b.toList) : a = b := by
  rw [Lib.toList_data, Lib.toList_data] at h
  cases a; cases b
  simp at h
  rw [h]
theorem tl_ext {a b : ByteArray} (h : tl a = tl b) : a = b := bq_ext (by rw [Lib.toList_data, Lib.toList_data]; exact h)
/-- Where the first target of a name stands; or minus one. -/
def tgI (L : List Tg) (k : List UInt8) : Int := match L.findIdx? (fun t => decide (tnm t = k)) with
  | some j => (j : Int)
  | none => -1
theorem tgI_at {L : List Tg} {k : List UInt8} (j : Nat) (hj : j < L.length) (h1 : tnm L[j] = k) (h2 : ∀ i (hi : i < j), tnm L[i] ≠ k) : tgI L k = (j : Int) := by
  have : L.findIdx? (fun t => decide (tnm t = k)) = some j := List.findIdx?_eq_some_iff_getElem.2 ⟨hj, by simpa using h1, fun i hi => by simpa using h2 i hi⟩
  rw [tgI, this]
theorem tgI_no {L : List Tg} {k : List UInt8} (h : ∀ t ∈ L, tnm t ≠ k) : tgI L k = -1 := by
  have : L.findIdx? (fun t => decide (tnm t = k)) = none := List.findIdx?_eq_none_iff.2 fun t ht => by simpa using h t ht
  rw [tgI, this]
theorem tgI_cases (L : List Tg) (k : List UInt8) : (tgI L k = -1 ∧ k ∉ L.map tnm) ∨ ∃ j, ∃ (hj : j < L.length), tgI L k = (j : Int) ∧ tnm L[j] = k ∧ ∀ i (hi : i < j), tnm L[i] ≠ k := by
  cases e : L.findIdx? (fun t => decide (tnm t = k)) with
  | none =>
    have h := List.findIdx?_eq_none_iff.1 e
    refine .inl ⟨by rw [tgI, e], fun hm => ?_⟩
    obtain ⟨t, ht, he⟩ := List.mem_map.1 hm
    have := h t ht
    simp [he] at this
  | some j =>
    obtain ⟨h1, h2, h3⟩ := List.findIdx?_eq_some_iff_getElem.1 e
    exact .inr ⟨j, h1, by rw [tgI, e], by simpa using h2, fun i hi => by simpa using h3 i hi⟩

set_option maxHeartbeats 2000000 in
set_option maxRecDepth 100000 in
theorem TargetAt_any (ao : Option Addr) (cap : Nat) (L : List Tg) (x : ByteArray) (w : World) (hl : IsTg w ao L) (hn : L.length ≤ 1048576) :
    Calls Tryz.prog 12 #[.slice ao L.length cap, .string x] w fun e w' => e = .returned (.int .i64 (tgI L (tl x))) ∧ w' = w := by
  have HL : Hid (IsTg w ao L) := hl
  have hn1 : (L.length : Int) ≤ 1048576 := by omega
  clear hl
  go_enter Tryz.func12, Tryz.ntmps12
  go_wp2
  go_loop [5] (fun i => ∃ k : Nat, k ≤ L.length ∧ i = .int .i64 (k : Int) ∧ Hid (∀ j, (hj : j < L.length) → j < k → tnm L[j] ≠ tl x)) (fun i => L.length - (intOf i).toNat)
  case atStart =>
    refine ⟨0, Nat.zero_le _, rfl, ?_⟩
    exact (fun j hj h => absurd h (Nat.not_lt_zero _) : ∀ j, (hj : j < L.length) → j < 0 → tnm L[j] ≠ tl x)
  case round =>
    obtain ⟨k, hk, rfl, HN⟩ := hrel
    by_cases hlt : k < L.length
    · have hki : (k : Int) < (L.length : Int) := by omega
      rcases HL.out.at_ with h | ⟨g, o, rfl, hg, hcc⟩
      · exfalso; rw [h] at hlt; exact absurd hlt (by simp)
      obtain ⟨c0, _⟩ := hcc k hlt
      by_cases he : L[k].nm = x
      · have hq : (L[k].nm.toList == x.toList) = true := by rw [he]; simp
        have HR : Hid (tgI L (tl x) = (k : Int)) := tgI_at k hlt (by rw [← he]; rfl) fun i hi => HN.out i (by omega) hi
        clear he hcc HN
        generalize L[k].nm = y at c0 hq
        go_wp2
        go_ret
        exact ⟨by rw [HR.out]; rfl, rfl⟩
      · have hq : (L[k].nm.toList == x.toList) = false := by
          rw [beq_eq_false_iff_ne]
          exact fun h => he (bq_ext h)
        have HN2 : Hid (∀ j, (hj : j < L.length) → j < k + 1 → tnm L[j] ≠ tl x) := fun j hj hjk => by
          rcases (show j < k ∨ j = k by omega) with e | e
          · exact HN.out j hj e
          · subst e; exact fun h => he (tl_ext h)
        clear he hcc HN
        generalize L[k].nm = y at c0 hq
        go_wp2
        exact ⟨⟨k + 1, by omega, by go_num, HN2⟩, by simp [intOf]; omega⟩
    · obtain rfl : k = L.length := by omega
      have HR : Hid (tgI L (tl x) = -1) := tgI_no fun t ht => by
        obtain ⟨j, hj, rfl⟩ := List.mem_iff_getElem.1 ht
        exact HN.out j hj hj
      clear HN
      go_wp2
      go_ret
      exact ⟨by rw [HR.out]; rfl, rfl⟩

set_option maxHeartbeats 2000000 in
set_option maxRecDepth 100000 in
theorem HasText_any (v : Value) (xs : List ByteArray) (s : ByteArray) (w : World) (h : TxIn w v xs) (b : Bool) (hb : b = true ↔ s ∈ xs) :
    Calls Tryz.prog 13 #[v, .string s] w fun e w' => e = .returned (.bool b) ∧ w' = w := by
  obtain ⟨_, hn, ao, c, rfl, hmem⟩ := h
  have HB : Hid (b = true ↔ s ∈ xs) := hb
  have HM : Hid (xs = [] ∨ ∃ g o, ao = some ⟨g, o, none⟩ ∧ g < w.heap.size ∧ ∀ j (hj : j < xs.length), w.cell? ⟨g, o + j, none⟩ = some (.string xs[j])) := hmem
  have hn1 : (xs.length : Int) ≤ 1048576 := by omega
  clear hb hmem hn
  go_enter Tryz.func13, Tryz.ntmps13
  go_wp2
  go_loop [5] (fun i => ∃ k : Nat, k ≤ xs.length ∧ i = .int .i64 (k : Int) ∧ Hid (s ∉ xs.take k)) (fun i => xs.length - (intOf i).toNat)
  case atStart => exact ⟨0, Nat.zero_le _, rfl, by show _ ∉ _; simp⟩
  case round =>
    obtain ⟨k, hk, rfl, HK⟩ := hrel
    by_cases hlt : k < xs.length
    · have hki : (k : Int) < (xs.length : Int) := by omega
      rcases HM.out with h | ⟨g, o, rfl, hg, hcc⟩
      · exfalso; rw [h] at hlt; exact absurd hlt (by simp)
      have c1 := hcc k hlt
      by_cases he : xs[k] = s
      · have hq : (xs[k].toList == s.toList) = true := by rw [he]; simp
        have hbt : b = true := HB.out.2 (by rw [← he]; exact List.getElem_mem hlt)
        subst hbt
        clear he HB hcc
        generalize xs[k] = x at c1 hq
        go_wp2
        go_ret
        exact ⟨rfl, rfl⟩
      · have hq : (xs[k].toList == s.toList) = false := by
          rw [beq_eq_false_iff_ne]
          exact fun h => he (bq_ext h)
        have HN : Hid (s ∉ xs.take (k + 1)) := by
          show _ ∉ _
          rw [List.take_succ_eq_append_getElem hlt, List.mem_append]
          rintro (h | h)
          · exact HK.out h
          · simp at h; exact he h.symm
        clear he hcc
        generalize xs[k] = x at c1 hq
        go_wp2
        exact ⟨⟨k + 1, by omega, by go_num, HN⟩, by simp [intOf]; omega⟩
    · obtain rfl : k = xs.length := by omega
      have hbf : b = false := by
        cases hb : b with
        | false => rfl
        | true => exact absurd (HB.out.1 hb) (by have := HK.out; rwa [List.take_length] at this)
      subst hbf
      clear HB HK
      go_wp2
      go_ret
      exact ⟨rfl, rfl⟩
end Go.Proofs.YtbmfchflnfdjaaaGreatDoor
