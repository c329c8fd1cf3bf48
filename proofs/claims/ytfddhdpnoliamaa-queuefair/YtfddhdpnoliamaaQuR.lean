/- A queue is looked at. -/
import Derived.Test.YtfddhdpnoliamaaQuP
namespace Go.Proofs.Ytfddhdpnoliamaa
open Go.RowKit Go.Shelf

theorem below_dr {B : Nat} {a w : World} (h : Below B a w) (n : Nat) : Below B a (w.drewN n) := ⟨h.os, h.tape, h.output, h.size, h.block⟩

set_option maxHeartbeats 1000000 in
theorem isNone_any {B P : Nat} {rv : Value} {cs : List Ce} {w : World} {q : Qu} (h : QS B P rv cs w q) (hq : 0 < q.qm) :
    Calls Try.prog 23 #[.pointer (some ⟨P, 0, none⟩)] w fun e w' => e = .returned (.bool false) ∧ w' = w := by
  have c0 := h.c0
  have hz : ((q.qm : Int) == 0) = false := by simp; omega
  clear h
  go_enter Try.func23, Try.ntmps23
  go_wp2
  go_ret
  exact ⟨rfl, rfl⟩

def sizeL (l : List Tn) : Nat := (l.map fun t => t.jobs.length).sum
theorem sizeL_app (l m : List Tn) : sizeL (l ++ m) = sizeL l + sizeL m := by unfold sizeL; simp

set_option maxHeartbeats 2000000 in
set_option maxRecDepth 100000 in
theorem size_any {B P : Nat} {rv : Value} {cs : List Ce} {w : World} {q : Qu} (h : QS B P rv cs w q) (hs : sizeL q.ring ≤ 1000000) (hn : cs.length ≤ 1000000) :
    Calls Try.prog 25 #[.pointer (some ⟨P, 0, none⟩)] w fun e w' => e = .returned (.int .i64 (sizeL q.ring)) ∧ w' = w := by
  have c1 := h.c1
  obtain ⟨ao, cap, rfl⟩ := row_shape h.row
  have H : Hid (QS B P (.slice ao cs.length cap) cs w q) := h
  have hrg := h.ring
  have HS : Hid (sizeL q.ring ≤ 1000000) := hs
  clear h hs
  go_enter Try.func25, Try.ntmps25
  go_wp2
  go_loopw [3, 11] (fun v3 v wr => ∃ (k s : Nat), k ≤ cs.length ∧ v3 = .int .i64 (s : Int) ∧ v = .int .i64 (k : Int) ∧ Hid (s = sizeL (q.ring.take k)) ∧ wr = w) (fun _ v _ => cs.length - (intOf v).toNat)
  case atStart => exact ⟨0, 0, Nat.zero_le _, rfl, rfl, rfl, rfl⟩
  case round =>
    obtain ⟨k, s, hk, rfl, rfl, HI, rfl⟩ := hrel
    by_cases hkl : k < cs.length
    · obtain ⟨g, cap', hv, hg1, hg2⟩ := H.out.row.form (by omega)
      cases hv
      have hki : (k : Int) < (cs.length : Int) := by omega
      have c3 : wr.cell? ⟨g, k, none⟩ = some (pc cs[k]) := (H.out.row.cellAt k (by omega)).trans (by rw [List.getElem?_map, List.getElem?_eq_getElem hkl]; rfl)
      have ht := H.out.tens cs[k] (List.getElem_mem hkl)
      have t2 := ht.c2
      obtain ⟨ja, jcap, hj⟩ := row_shape ht.row
      rw [hj] at t2
      have hkr : k < q.ring.length := by rw [← hrg, List.length_map]; exact hkl
      have hst : sizeL (q.ring.take (k + 1)) = s + (cs[k]).t.jobs.length := by
        rw [HI.out, List.take_succ_eq_append_getElem hkr]
        have e : q.ring[k] = (cs[k]).t := by
          have : q.ring[k]? = some (cs[k]).t := by rw [← hrg, List.getElem?_map, List.getElem?_eq_getElem hkl]; rfl
          exact Option.some.inj ((List.getElem?_eq_getElem hkr).symm.trans this)
        rw [e]
        unfold sizeL
        simp
      have hle : sizeL (q.ring.take (k + 1)) ≤ sizeL q.ring := by
        have e : sizeL q.ring = sizeL (q.ring.take (k + 1)) + sizeL (q.ring.drop (k + 1)) := by rw [← sizeL_app, List.take_append_drop]
        omega
      have hb := HS.out
      unfold pc at c3
      generalize (cs[k]).t.jobs.length = jn at *
      generalize (cs[k]).blk = tb at *
      obtain ⟨s1, hs1⟩ : ∃ s1, s1 = s + jn := ⟨_, rfl⟩
      have hs2 : (s : Int) + (jn : Int) = (s1 : Int) := by omega
      have hw1 : IntKind.i64.wrap (s1 : Int) = (s1 : Int) := by rw [IntKind.wrap_i64]; omega
      obtain ⟨k1, hk1⟩ : ∃ k1, k1 = k + 1 := ⟨_, rfl⟩
      have hk2 : (k : Int) + 1 = (k1 : Int) := by omega
      have hw2 : IntKind.i64.wrap (k1 : Int) = (k1 : Int) := by rw [IntKind.wrap_i64]; omega
      have HE : Hid (s1 = sizeL (q.ring.take k1) ∧ k1 = k + 1) := ⟨by rw [hs1, hk1, hst], hk1⟩
      clear hst hs1 hk1 hle hb hj ht
      go_wp2
      refine ⟨⟨k1, s1, by rw [HE.out.2]; exact hkl, rfl, rfl, HE.out.1, trivial⟩, ?_⟩
      have := HE.out.2
      simp [intOf]; omega
    · have hki : ¬ (k : Int) < (cs.length : Int) := by omega
      have hs : s = sizeL q.ring := by rw [HI.out, List.take_of_length_le (by rw [← hrg, List.length_map]; omega)]
      subst hs
      go_wp2
      go_ret
      exact ⟨rfl, rfl⟩

/-- The closure that asks for a tenant by its number. -/
theorem isNum_any {B : Nat} {w : World} {c : Ce} (h : TenAt B w c) (n : Int) (b : Nat) (hb : w.cell? ⟨b, 0, none⟩ = some (.int .i64 n)) :
    Calls Try.prog 43 #[pc c, .pointer (some ⟨b, 0, none⟩)] w fun e w' => e = .returned (.bool (decide ((c.t.num : Int) = n))) ∧ ∃ m, w' = w.drewN m := by
  have c0 := h.c0
  have hq : ((c.t.num : Int) == n) = decide ((c.t.num : Int) = n) := by rw [Bool.eq_iff_iff]; simp
  generalize decide ((c.t.num : Int) = n) = r at *
  unfold pc
  generalize (c.t.num : Int) = x at *
  generalize c.blk = tb at *
  clear h
  go_enter Try.func43, Try.ntmps43
  go_wp2
  go_quiet (fail)
  go_wp2
  go_ret
  exact ⟨rfl, nq, rfl⟩
end Go.Proofs.Ytfddhdpnoliamaa
