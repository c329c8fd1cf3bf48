/- A queue's tenants and jobs are looked for. -/
import Derived.Test.YtfddhdpnoliamaaQuR
namespace Go.Proofs.Ytfddhdpnoliamaa
open Go.RowKit Go.Shelf

theorem ring_len {B P : Nat} {rv : Value} {cs : List Ce} {w : World} {q : Qu} (h : QS B P rv cs w q) : cs.length = q.ring.length := by rw [← h.ring, List.length_map]
theorem ring_at {B P : Nat} {rv : Value} {cs : List Ce} {w : World} {q : Qu} (h : QS B P rv cs w q) (k : Nat) (hk : k < cs.length) : q.ring[k]? = some (cs[k]).t := by
  rw [← h.ring, List.getElem?_map, List.getElem?_eq_getElem hk]; rfl

/-- The place of a tenant among these; below 0: there is none. -/
def plc (n : Int) (l : List Tn) : Int := match l.findIdx? (fun t => decide ((t.num : Int) = n)) with | some k => (k : Int) | none => -1

theorem plc_hit {n : Int} {l : List Tn} {k : Nat} (hk : k < l.length) (h : ((l[k]).num : Int) = n) (hb : ∀ j (hj : j < l.length), j < k → ((l[j]).num : Int) ≠ n) : plc n l = k := by
  have : l.findIdx? (fun t => decide ((t.num : Int) = n)) = some k := by
    rw [List.findIdx?_eq_some_iff_getElem]
    exact ⟨hk, by simpa using h, fun j hj => by simpa using hb j (by omega) hj⟩
  unfold plc; rw [this]
theorem plc_none {n : Int} {l : List Tn} (hb : ∀ j (hj : j < l.length), ((l[j]).num : Int) ≠ n) : plc n l = -1 := by
  have : l.findIdx? (fun t => decide ((t.num : Int) = n)) = none := by
    rw [List.findIdx?_eq_none_iff]
    intro t ht
    obtain ⟨j, hj, rfl⟩ := List.getElem_of_mem ht
    simpa using hb j hj
  unfold plc; rw [this]

set_option maxHeartbeats 2000000 in
set_option maxRecDepth 100000 in
theorem idxT_any {B P : Nat} {rv : Value} {cs : List Ce} {w : World} {q : Qu} (h : QS B P rv cs w q) (hn : cs.length ≤ 1000000) (n : Int) (b : Nat) (hb : w.cell? ⟨b, 0, none⟩ = some (.int .i64 n)) :
    Calls Try.prog 42 #[rv, .func (.func 43) #[] #[.pointer (some ⟨b, 0, none⟩)]] w fun e w' => e = .returned (.int .i64 (plc n q.ring)) ∧ ∃ m, w' = w.drewN m := by
  obtain ⟨ao, cap, rfl⟩ := row_shape h.row
  have H : Hid (QS B P (.slice ao cs.length cap) cs w q) := h
  have HC : Hid (∀ (m k : Nat) (hk : k < cs.length), Calls Try.prog 43 #[pc cs[k], .pointer (some ⟨b, 0, none⟩)] (w.drewN m) fun e w' => e = .returned (.bool (decide (((cs[k]).t.num : Int) = n))) ∧ ∃ m, w' = w.drewN m) := fun m k hk => by
    refine (isNum_any ((h.drewN m).tens cs[k] (List.getElem_mem hk)) n b hb).mono ?_
    rintro e w' ⟨he, m', rfl⟩
    exact ⟨he, m + m', by rw [World.drewN_drewN]⟩
  have HLn : Hid (cs.length = q.ring.length) := ring_len h
  have HA : Hid (∀ (k : Nat) (hk : k < cs.length), q.ring[k]? = some (cs[k]).t) := fun k hk => ring_at h k hk
  clear h hb
  go_enter Try.func42, Try.ntmps42
  go_wp2
  go_loopw [8] (fun v wr => ∃ k : Nat, k ≤ cs.length ∧ v = .int .i64 (k : Int) ∧ Hid (∀ j (hj : j < q.ring.length), j < k → ((q.ring[j]).num : Int) ≠ n) ∧ ∃ m, wr = w.drewN m) (fun v _ => cs.length - (intOf v).toNat)
  case atStart => exact ⟨0, Nat.zero_le _, rfl, fun j _ hj => by omega, 0, rfl⟩
  case round =>
    obtain ⟨k, hk, rfl, HI, m, rfl⟩ := hrel
    by_cases hkl : k < cs.length
    · obtain ⟨g, cap', hv, hg1, hg2⟩ := H.out.row.form (by omega)
      cases hv
      have hki : (k : Int) < (cs.length : Int) := by omega
      have c3 : w.cell? ⟨g, k, none⟩ = some (pc cs[k]) := (H.out.row.cellAt k (by omega)).trans (by rw [List.getElem?_map, List.getElem?_eq_getElem hkl]; rfl)
      have HCk : Hid (Calls Try.prog 43 #[pc cs[k], .pointer (some ⟨b, 0, none⟩)] (w.drewN m) fun e w' => e = .returned (.bool (decide (((cs[k]).t.num : Int) = n))) ∧ ∃ m, w' = w.drewN m) := HC.out m k hkl
      have hrk : k < q.ring.length := by have := HLn.out; omega
      have heq : q.ring[k] = (cs[k]).t := Option.some.inj ((List.getElem?_eq_getElem hrk).symm.trans (HA.out k hkl))
      obtain ⟨k1, hk1⟩ : ∃ k1, k1 = k + 1 := ⟨_, rfl⟩
      have hk2 : (k : Int) + 1 = (k1 : Int) := by omega
      have hw2 : IntKind.i64.wrap (k1 : Int) = (k1 : Int) := by rw [IntKind.wrap_i64]; omega
      by_cases hh : ((cs[k]).t.num : Int) = n
      · have HP : Hid (plc n q.ring = (k : Int)) := plc_hit hrk (by rw [heq]; exact hh) HI.out
        rw [show decide (((cs[k]).t.num : Int) = n) = true from by simpa using hh] at HCk
        generalize hpc : pc cs[k] = pv at *
        have hpv : pv = .pointer (some ⟨(cs[k]).blk, 0, none⟩) := hpc.symm
        generalize (cs[k]).blk = tb at *
        subst hpv
        clear hh heq hk1 hpc
        go_wp2_with (go_at_call 43; refine HCk.out.mono ?_; rintro e w' ⟨rfl, m', rfl⟩)
        go_ret
        exact ⟨by rw [HP.out]; rfl, m', rfl⟩
      · have HN : Hid (∀ j (hj : j < q.ring.length), j < k1 → ((q.ring[j]).num : Int) ≠ n) := fun j hj hjk => by
          by_cases h1 : j < k
          · exact HI.out j hj h1
          · have h2 : j = k := by omega
            subst h2; rw [heq]; exact hh
        rw [show decide (((cs[k]).t.num : Int) = n) = false from by simpa using hh] at HCk
        generalize hpc : pc cs[k] = pv at *
        have hpv : pv = .pointer (some ⟨(cs[k]).blk, 0, none⟩) := hpc.symm
        generalize (cs[k]).blk = tb at *
        subst hpv
        have HK : Hid (k1 = k + 1) := hk1
        clear hh heq hk1 hpc
        go_wp2_with (go_at_call 43; refine HCk.out.mono ?_; rintro e w' ⟨rfl, m', rfl⟩)
        refine ⟨⟨k1, by rw [HK.out]; exact hkl, rfl, HN.out, m', rfl⟩, ?_⟩
        have := HK.out
        simp [intOf]; omega
    · have hki : ¬ (k : Int) < (cs.length : Int) := by omega
      have HP : Hid (plc n q.ring = -1) := plc_none fun j hj => HI.out j hj (by have := HLn.out; omega)
      go_wp2
      go_ret
      exact ⟨by rw [HP.out]; rfl, m, rfl⟩

set_option maxHeartbeats 2000000 in
set_option maxRecDepth 100000 in
theorem placeOf_any {B P : Nat} {rv : Value} {cs : List Ce} {w : World} {q : Qu} (h : QS B P rv cs w q) (hn : cs.length ≤ 1000000) (n : Int) :
    Calls Try.prog 35 #[.pointer (some ⟨P, 0, none⟩), .int .i64 n] w fun e w' => e = .returned (.int .i64 (plc n q.ring)) ∧ Below w.heap.size w w' := by
  have hb0 : Below w.heap.size w (w.alloc (.cells #[.int .i64 n] 3)) := (Below.refl _ w).alloc (Nat.le_refl _) _
  have h1 : QS B P rv cs (w.alloc (.cells #[.int .i64 n] 3)) q := h.up hb0
  have l0 := heap_alloc_new w (.cells #[.int .i64 n] 3)
  have k0 : (w.alloc (.cells #[.int .i64 n] 3)).cell? ⟨w.heap.size, 0, none⟩ = some (.int .i64 n) := by rw [Lib.cell_of_heap l0]; rfl
  have HC : Hid (Calls Try.prog 42 #[rv, .func (.func 43) #[] #[.pointer (some ⟨w.heap.size, 0, none⟩)]] (w.alloc (.cells #[.int .i64 n] 3)) fun e w' => e = .returned (.int .i64 (plc n q.ring)) ∧ ∃ m, w' = (w.alloc (.cells #[.int .i64 n] 3)).drewN m) := idxT_any h1 hn n _ k0
  have c1 := h1.c1
  have HB : Hid (Below w.heap.size w (w.alloc (.cells #[.int .i64 n] 3))) := hb0
  obtain ⟨ao, cap, rfl⟩ := row_shape h.row
  clear h h1 hb0 l0 k0
  go_enter Try.func35, Try.ntmps35
  go_wp2_with (go_at_call 42; refine HC.out.mono ?_; rintro e w' ⟨rfl, m', rfl⟩)
  go_ret
  exact ⟨rfl, below_dr HB.out m'⟩
end Go.Proofs.Ytfddhdpnoliamaa
