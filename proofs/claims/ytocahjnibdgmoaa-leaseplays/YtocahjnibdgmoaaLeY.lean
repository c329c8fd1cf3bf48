/- A book of leases: is a text there; LeaseOver, walked. -/
import Derived.Test.YtocahjnibdgmoaaLeX
namespace Go.Proofs.Ytocahjnibdgmoaa
open Go.RowKit Go.Shelf Go.Maps Go.WideMaps Go.Sort

theorem eqL (x : List UInt8) (s : ByteArray) : ((⟨x.toArray⟩ : ByteArray).toList == s.toList) = decide (x = s.data.toList) := by
  rw [Lib.toList_data, Lib.toList_data]
  rw [Bool.eq_iff_iff]
  simp

set_option maxHeartbeats 4000000 in
set_option maxRecDepth 100000 in
theorem HasText_L {B : Nat} {v : Value} {l : List (List UInt8)} (s : ByteArray) {w : World} (h : w.ownsRow B 9 1 v l.length (l.map encStr)) (hn : l.length ≤ 1000000) :
    Calls Try.prog 25 #[v, .string s] w fun e w' => e = .returned (.bool (decide (s.data.toList ∈ l))) ∧ w' = w := by
  obtain ⟨ao, cap, rfl⟩ := row_shape h
  have H : Hid (w.ownsRow B 9 1 (.slice ao l.length cap) l.length (l.map encStr)) := h
  clear h
  obtain ⟨b, hb⟩ : ∃ b, b = decide (s.data.toList ∈ l) := ⟨_, rfl⟩
  have HB : Hid (b = decide (s.data.toList ∈ l)) := hb
  rw [← hb]
  clear hb
  go_enter Try.func25, Try.ntmps25
  go_wp2
  go_loopw [5] (fun v wr => ∃ k : Nat, k ≤ l.length ∧ v = .int .i64 (k : Int) ∧ Hid (s.data.toList ∉ l.take k) ∧ wr = w) (fun v _ => l.length - (RowKit.intOf v).toNat)
  case atStart => exact ⟨0, Nat.zero_le _, rfl, by unfold Hid; simp, rfl⟩
  case round =>
    obtain ⟨k, hk, rfl, HK, rfl⟩ := hrel
    by_cases hlt : k < l.length
    · have hki : (k : Int) < (l.length : Int) := by omega
      obtain ⟨g, cap', hv, _, _⟩ := H.out.form (by omega)
      cases hv
      have c1 : wr.cell? ⟨g, k, none⟩ = some (.string ⟨(l[k]).toArray⟩) := by
        refine (H.out.cellAt k (by omega)).trans ?_
        rw [List.getElem?_map, List.getElem?_eq_getElem hlt]
        rfl
      obtain ⟨k1, hk1⟩ : ∃ k1, k1 = k + 1 := ⟨_, rfl⟩
      have hk2 : (k : Int) + 1 = (k1 : Int) := by omega
      have hw2 : IntKind.i64.wrap (k1 : Int) = (k1 : Int) := by rw [IntKind.wrap_i64]; omega
      by_cases he : l[k] = s.data.toList
      · have hq : ((⟨(l[k]).toArray⟩ : ByteArray).toList == s.toList) = true := by rw [eqL]; exact decide_eq_true he
        have hbt : b = true := by rw [HB.out, decide_eq_true_eq, ← he]; exact List.getElem_mem hlt
        subst hbt
        clear he HB
        generalize (⟨(l[k]).toArray⟩ : ByteArray) = x at c1 hq
        go_wp2
        go_ret
        exact ⟨rfl, rfl⟩
      · have hq : ((⟨(l[k]).toArray⟩ : ByteArray).toList == s.toList) = false := by rw [eqL]; exact decide_eq_false he
        have HN : Hid (s.data.toList ∉ l.take k1 ∧ k1 = k + 1) := by
          refine ⟨?_, hk1⟩
          rw [hk1, List.take_succ_eq_append_getElem hlt, List.mem_append]
          rintro (h | h)
          · exact HK.out h
          · simp at h; exact he h.symm
        clear he hk1
        generalize (⟨(l[k]).toArray⟩ : ByteArray) = x at c1 hq
        go_wp2
        refine ⟨⟨k1, by rw [HN.out.2]; exact hlt, rfl, HN.out.1, trivial⟩, ?_⟩
        have := HN.out.2
        simp [RowKit.intOf]; omega
    · have hki : ¬ (k : Int) < (l.length : Int) := by omega
      have hbf : b = false := by
        rw [HB.out, decide_eq_false_iff_not]
        have := HK.out
        rw [List.take_of_length_le (by omega)] at this
        exact this
      subst hbf
      go_wp2
      go_ret
      exact ⟨rfl, rfl⟩

/-- One job, lent once to one: time goes on. -/
theorem chs_le (c : Int) (m : Nat) (h : 0 < m) : (chs c m : Int) < m := by have := chs_lt c h; omega
section
variable {a b c : Int}
def P1 (t : Int) : List Pj := [⟨[97], false, 1, [(1, t)]⟩]
theorem beatA (h : termsOk a b c) {at_ : Int} (h0 : 0 ≤ at_) (h1 : at_ ≤ a) : leE 0 (P1 a) [97] 1 at_ = 0 ∧ beP a 0 (P1 a) [97] 1 at_ = P1 (at_ + a) ∧ tellN 0 at_ (nobody 1) = at_ := by
  obtain ⟨k1, k2, k3, k4, k5, k6⟩ := h
  have ht : tellE 0 at_ (nobody 1) = 0 := by unfold tellE; rw [if_neg (by simp [nobody]; omega), if_neg (by omega)]
  have hp : tellP 0 at_ (nobody 1) (P1 a) = P1 a := by
    unfold tellP
    rw [if_pos ht]
    show [cutP at_ ⟨[97], false, 1, [(1, a)]⟩] = _
    unfold cutP P1
    simp [h1]
  have he : leE 0 (P1 a) [97] 1 at_ = 0 := by
    unfold leE
    rw [if_neg (by simpa using ht), hp]
    rfl
  refine ⟨he, ?_, tellN_zero ht⟩
  unfold beP
  rw [if_pos he, hp]
  rfl
theorem tickA {at_ now t : Int} (h0 : 0 ≤ at_) (h1 : at_ ≤ now) (h2 : now ≤ 1000000000) : tellE at_ now false = 0 ∧ tellP at_ now false (P1 t) = (if now ≤ t then P1 t else [⟨[97], false, 1, []⟩]) ∧ tellT at_ now false (P1 t) = (if now ≤ t then [] else [[97]]) ∧ tellN at_ now false = now := by
  have ht : tellE at_ now false = 0 := by unfold tellE; rw [if_neg (by simp; omega), if_neg (by omega)]
  refine ⟨ht, ?_, ?_, tellN_zero ht⟩
  · unfold tellP
    rw [if_pos ht]
    show [cutP now ⟨[97], false, 1, [(1, t)]⟩] = _
    unfold cutP P1
    by_cases h : now ≤ t <;> simp [h]
  · unfold tellT
    rw [if_pos ht]
    unfold P1
    by_cases h : now ≤ t <;> simp [h, freesP]
theorem doneA {now t : Int} (h0 : 0 ≤ now) (h2 : now ≤ 1000000000) : leE now (if now ≤ t then P1 t else [⟨[97], false, 1, []⟩]) [97] 1 now = if now ≤ t then 0 else 5 := by
  have ht : tellE now now (nobody 1) = 0 := by unfold tellE; rw [if_neg (by simp [nobody]; omega), if_neg (by omega)]
  unfold leE
  rw [if_neg (by simpa using ht)]
  unfold tellP
  rw [if_pos ht]
  by_cases h : now ≤ t
  · rw [if_pos h, if_pos h]
    show (match fndP [cutP now ⟨[97], false, 1, [(1, t)]⟩] [97] with | none => 5 | some p => if hasT 1 p.ts = true then (0 : Int) else 5) = 0
    have : cutP now ⟨[97], false, 1, [(1, t)]⟩ = ⟨[97], false, 1, [(1, t)]⟩ := by unfold cutP; simp [h]
    rw [this]
    rfl
  · rw [if_neg h, if_neg h]
    rfl
end
end Go.Proofs.Ytocahjnibdgmoaa
