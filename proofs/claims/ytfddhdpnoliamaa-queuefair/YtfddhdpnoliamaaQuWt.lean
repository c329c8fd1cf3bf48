/- What waits, by the program's queue. -/
import Derived.Test.YtfddhdpnoliamaaQuRw
namespace Go.Proofs.Ytfddhdpnoliamaa
open Go.RowKit Go.Shelf
attribute [local go_sem ↓] appS_eq

theorem own_mo {w : World} {base base' : Nat} {e : TypeId} {size : Nat} {v : Value} {n : Nat} {xs : List Value} (h : w.ownsRow base e size v n xs) (hb : base' ≤ base) : w.ownsRow base' e size v n xs := by
  refine ⟨h.1, ?_⟩
  rcases h.2 with h2 | ⟨g, cap, cur, h1, h2, h3⟩
  · exact .inl h2
  · exact .inr ⟨g, cap, cur, h1, Nat.le_trans hb h2, h3⟩

set_option maxHeartbeats 4000000 in
set_option maxRecDepth 100000 in
theorem Waiting_none {B P : Nat} {rv : Value} {cs : List Ce} {w : World} {q : Qu} (h : QS B P rv cs w q) (hq : 0 < q.qm) (hn : cs.length ≤ 1000000) (x : Int) (hp : plc x q.ring = -1) :
    Calls Try.prog 17 #[.pointer (some ⟨P, 0, none⟩), .int .i64 x] w fun e w' => e = .returned (.slice none 0 0) ∧ Below w.heap.size w w' := by
  have HNn := isNone_any h hq
  have HP : Hid (∀ W, Below w.heap.size w W → Calls Try.prog 35 #[.pointer (some ⟨P, 0, none⟩), .int .i64 x] W fun e w' => e = .returned (.int .i64 (-1)) ∧ Below w.heap.size w w') := fun W hW => by
    have := placeOf_any (h.up hW) hn x
    rw [hp] at this
    exact this.mono fun e w' ⟨a, b⟩ => ⟨a, hW.trans (b.mono hW.size)⟩
  have HN : Hid (Calls Try.prog 23 #[.pointer (some ⟨P, 0, none⟩)] w fun e w' => e = .returned (.bool false) ∧ w' = w) := HNn
  clear HNn h hp
  go_enter Try.func17, Try.ntmps17
  go_wp2_with fail
  refine HN.out.mono ?_
  rintro e w1 ⟨rfl, rfl⟩
  go_wp2_with fail
  refine (HP.out w1 (Below.refl _ _)).mono ?_
  rintro e w2 ⟨rfl, hb⟩
  have HB : Hid (Below w1.heap.size w1 w2) := hb
  clear hb
  go_wp2
  go_ret
  exact ⟨rfl, HB.out⟩

set_option maxHeartbeats 4000000 in
set_option maxRecDepth 100000 in
theorem Waiting_some {B P : Nat} {rv : Value} {a b : List Ce} {c : Ce} {w : World} {q : Qu} (h : QS B P rv (a ++ c :: b) w q) (hq : 0 < q.qm) (hn : a.length + b.length ≤ 100000) (hm : c.t.jobs.length ≤ 100000) (x : Int) (hp : plc x q.ring = a.length) :
    Calls Try.prog 17 #[.pointer (some ⟨P, 0, none⟩), .int .i64 x] w fun e w' => ∃ v', e = .returned v' ∧ w'.ownsRow w.heap.size 9 1 v' (c.t.jobs.map Jb.name).length (ss (c.t.jobs.map Jb.name)) ∧ Below w.heap.size w w' := by
  have HN : Hid (Calls Try.prog 23 #[.pointer (some ⟨P, 0, none⟩)] w fun e w' => e = .returned (.bool false) ∧ w' = w) := isNone_any h hq
  have HP : Hid (Calls Try.prog 35 #[.pointer (some ⟨P, 0, none⟩), .int .i64 x] w fun e w' => e = .returned (.int .i64 (a.length : Int)) ∧ Below w.heap.size w w') := by
    have := placeOf_any h (by simp; omega) x
    rwa [hp] at this
  have HH : Hid (QS B P rv (a ++ c :: b) w q) := h
  clear h hp
  go_enter Try.func17, Try.ntmps17
  go_wp2_with fail
  refine HN.out.mono ?_
  rintro e w1 ⟨rfl, rfl⟩
  go_wp2_with fail
  refine HP.out.mono ?_
  rintro e w2 ⟨rfl, hb⟩
  have hW := HH.out.up hb
  have c1 := hW.c1
  have ht := hW.tens c (by simp)
  have t2 := ht.c2
  obtain ⟨g, cap, hrv, k0⟩ := mid_ptr hW
  rw [hrv] at c1
  have ha0 : ¬ (a.length : Int) < 0 := by omega
  have k1 : (a.length : Int) < (a.length : Int) + ((b.length : Int) + 1) := by omega
  have HR : Hid (w2.ownsRow B 34 3 c.jv c.t.jobs.length (jcs c.t.jobs)) := ht.row
  obtain ⟨aj, cj, hjv⟩ := row_shape ht.row
  rw [hjv] at t2
  have HB : Hid (Below w1.heap.size w1 w2) := hb
  obtain ⟨i0, hi, hz0, hz1, hz2⟩ := info_p infS
  have HS : Hid (w2.ownsRow B 34 3 (.slice aj c.t.jobs.length cj) c.t.jobs.length (jcs c.t.jobs)) := hjv ▸ HR.out
  clear hW ht hb HP HN HR
  go_wp2
  clear c1 t2 k0 hrv hjv k1 ha0
  generalize hl : c.t.jobs = l at *
  have HL : Hid (c.t.jobs = l) := hl
  clear hl
  go_loopw [6, 27] (fun u v wr => ∃ k : Nat, k ≤ l.length ∧ v = .int .i64 (k : Int) ∧ Hid (wr.ownsRow w2.heap.size 9 1 u k (ss ((l.take k).map Jb.name)) ∧ Below w2.heap.size w2 wr)) (fun _ v _ => l.length - (intOf v).toNat)
  case atStart => exact ⟨0, Nat.zero_le _, rfl, ⟨rfl, .inl ⟨rfl, rfl⟩⟩, Below.refl _ _⟩
  case round =>
    obtain ⟨k, hk, rfl, HI⟩ := hrel
    obtain ⟨ao5, c5, rfl⟩ := row_shape HI.out.1
    by_cases hlt : k < l.length
    · have hki : (k : Int) < (l.length : Int) := by omega
      obtain ⟨g2, cap2, hv2, hg1, hg2⟩ := HS.out.form (by omega)
      cases hv2
      have hcell : ∀ j, j < 3 → wr.cell? ⟨g2, k * 3 + j, none⟩ = (jc l[k])[j]? := fun j hj => (HI.out.2.cell (p := ⟨g2, k * 3 + j, none⟩) hg2).trans ((HS.out.cellAt (k * 3 + j) (by omega)).trans (jcs_at l k hlt j hj))
      have d0 : wr.cell? ⟨g2, k * 3, none⟩ = some (.int .i64 (l[k].ten : Int)) := hcell 0 (by omega)
      have d1 : wr.cell? ⟨g2, k * 3 + 1, none⟩ = some (.string l[k].name) := hcell 1 (by omega)
      have d2 : wr.cell? ⟨g2, k * 3 + 2, none⟩ = some (.int .i64 (l[k].cost : Int)) := hcell 2 (by omega)
      have hg3 : g2 < wr.heap.size := World.block_lt_of_cell? wr _ d0
      have hg4 : ¬ g2 = wr.heap.size := by omega
      obtain ⟨k1, hk1⟩ : ∃ k1, k1 = k + 1 := ⟨_, rfl⟩
      have hk2 : (k : Int) + 1 = (k1 : Int) := by omega
      have hw2 : IntKind.i64.wrap (k1 : Int) = (k1 : Int) := by rw [IntKind.wrap_i64]; omega
      have HK : Hid (k1 = k + 1) := hk1
      generalize hx0 : (l[k].ten : Int) = x0 at *
      generalize hx1 : l[k].name = x1 at *
      generalize hx2 : (l[k].cost : Int) = x2 at *
      have hnm : (l.take k1).map Jb.name = (l.take k).map Jb.name ++ [x1] := by rw [hk1, List.take_succ_eq_append_getElem hlt, List.map_append, ← hx1]; rfl
      have hzA : (wr.alloc (.cells #[.int .i64 x0, .string x1, .int .i64 x2] 34)).heap.size = wr.heap.size + 1 := World.size_alloc _ _
      have hzB : ((wr.alloc (.cells #[.int .i64 x0, .string x1, .int .i64 x2] 34)).alloc (.cells #[.string x1] 9)).heap.size = wr.heap.size + 2 := by rw [World.size_alloc, hzA]
      have hbs := HI.out.2.size
      obtain ⟨v1, w3, hrun, hown1, hgrow, _⟩ := run_append_own (P := Try.prog) ((wr.alloc (.cells #[.int .i64 x0, .string x1, .int .i64 x2] 34)).alloc (.cells #[.string x1] 9)) w2.heap.size 43 43 9 i0 (.string ⟨#[]⟩) 1 16 Try.underlying43 hi hz0 hz1 hz2 rfl (by decide) (.slice ao5 k c5) k (ss ((l.take k).map Jb.name)) ((HI.out.1.alloc _).alloc _) ⟨wr.heap.size + 1, 0, none⟩ 1 1 [.string x1] rfl (fun j u hu => by
          have hj : j = 0 := by
            have := (List.getElem?_eq_some_iff.1 hu).1
            simp at this
            exact this
          subst hj
          rw [add0]
          exact al_at _ _ _ _ 0 u hzA.symm hu) (fun u hu => by simp at hu; subst hu; rfl) (by unfold maxLen; omega) (by omega) (by omega)
      have hap : (appS #[43, 43] 43 #[.slice ao5 k c5, .slice (some ⟨wr.heap.size + 1, 0, none⟩) 1 1]).run Try.prog ((wr.alloc (.cells #[.int .i64 x0, .string x1, .int .i64 x2] 34)).alloc (.cells #[.string x1] 9)) = .ok v1 w3 := hrun
      have HE : Hid (w3.ownsRow w2.heap.size 9 1 v1 k1 (ss ((l.take k1).map Jb.name)) ∧ Below w2.heap.size w2 w3) := by
        have hb1 := HI.out.2.alloc hbs (.cells #[.int .i64 x0, .string x1, .int .i64 x2] 34)
        have hb2 := hb1.alloc (by omega) (.cells #[.string x1] 9)
        refine ⟨?_, hb2.grown (w' := w3) hgrow (by omega) (fun g hg => (HI.out.1.lt g hg).1)⟩
        have e : ss ((l.take k).map Jb.name ++ [x1]) = ss ((l.take k).map Jb.name) ++ [.string x1] := by simp [ss]
        rw [hnm, e, hk1]
        exact hown1
      clear hrun hown1 hgrow hnm HI hcell hk1 hi hz0 hz1 hz2 hbs hzA hzB hx0 hx1 hx2
      go_wp2
      refine ⟨⟨k1, by rw [HK.out]; exact hlt, rfl, HE⟩, ?_⟩
      have := HK.out
      simp [intOf]; omega
    · have hki : ¬ (k : Int) < (l.length : Int) := by omega
      have hkl : k = l.length := by omega
      have HE : Hid (∀ v, v = .slice ao5 k c5 → wr.ownsRow w1.heap.size 9 1 v (l.map Jb.name).length (ss (l.map Jb.name)) ∧ Below w1.heap.size w1 wr) := by
        intro v hv
        have h0 := HI.out
        rw [← hv, hkl, List.take_of_length_le (Nat.le_refl _)] at h0
        rw [List.length_map]
        exact ⟨own_mo h0.1 HB.out.size, HB.out.trans (h0.2.mono HB.out.size)⟩
      clear HI hkl
      go_wp2
      go_ret
      refine ⟨_, rfl, ?_⟩
      have h0 := HE.out _ rfl
      rw [← HL.out, List.length_map] at h0
      simpa using h0
end Go.Proofs.Ytfddhdpnoliamaa
