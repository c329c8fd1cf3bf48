/- The document's ring: what is not put. -/
import Derived.Test.YtfddhdpnoliamaaQuWt
namespace Go.Proofs.Ytfddhdpnoliamaa
open Go.RowKit Go.Shelf
attribute [local go_sem ↓] appS_eq

set_option maxHeartbeats 8000000 in
set_option maxRecDepth 100000 in
theorem rPut_no {B P : Nat} {tv cv jv : Value} {w : World} {r : Rg} (h : RS B P tv cv jv w r) (x : Int) (s : ByteArray) (y : Int) (hs : s.size ≤ maxLen) (hn : r.jobs.length ≤ 200) (hne : rE r x s y ≠ 0) :
    Calls Try.prog 11 #[.pointer (some ⟨P, 0, none⟩), .agg #[.int .i64 x, .string s, .int .i64 y]] w fun e w' => e = .returned (.int .i64 (rE r x s y)) ∧ Below w.heap.size w w' := by
  have l0 := heap_alloc_new w (.cells #[.int .i64 x, .string s, .int .i64 y] 34)
  have hb0 : Below w.heap.size w (w.alloc (.cells #[.int .i64 x, .string s, .int .i64 y] 34)) := (Below.refl _ w).alloc (Nat.le_refl _) _
  have h1 := h.up hb0
  have e0 : (w.alloc (.cells #[.int .i64 x, .string s, .int .i64 y] 34)).cell? ⟨w.heap.size, 0, none⟩ = some (.int .i64 x) := by rw [Lib.cell_of_heap l0]; rfl
  have e1 : (w.alloc (.cells #[.int .i64 x, .string s, .int .i64 y] 34)).cell? ⟨w.heap.size, 1, none⟩ = some (.string s) := by rw [Lib.cell_of_heap l0]; rfl
  have e2 : (w.alloc (.cells #[.int .i64 x, .string s, .int .i64 y] 34)).cell? ⟨w.heap.size, 2, none⟩ = some (.int .i64 y) := by rw [Lib.cell_of_heap l0]; rfl
  have HB : Hid (Below w.heap.size w (w.alloc (.cells #[.int .i64 x, .string s, .int .i64 y] 34))) := hb0
  by_cases hrg : x < 1 ∨ 20 < x ∨ y < 1 ∨ 1000 < y
  · have HE : Hid (rE r x s y = 3) := by unfold Hid rE jobE; rw [if_pos hrg]; rfl
    clear h h1 hb0 l0 hne hn hs
    by_cases g1 : x < 1
    · clear hrg
      go_enter Try.func11, Try.ntmps11
      go_wp2
      go_ret
      exact ⟨by rw [HE.out]; rfl, HB.out⟩
    by_cases g2 : 20 < x
    · clear hrg
      go_enter Try.func11, Try.ntmps11
      go_wp2
      go_ret
      exact ⟨by rw [HE.out]; rfl, HB.out⟩
    by_cases g3 : y < 1
    · clear hrg
      go_enter Try.func11, Try.ntmps11
      go_wp2
      go_ret
      exact ⟨by rw [HE.out]; rfl, HB.out⟩
    have g4 : 1000 < y := by omega
    clear hrg
    go_enter Try.func11, Try.ntmps11
    go_wp2
    go_ret
    exact ⟨by rw [HE.out]; rfl, HB.out⟩
  have g1 : ¬ x < 1 := by omega
  have g2 : ¬ 20 < x := by omega
  have g3 : ¬ y < 1 := by omega
  have g4 : ¬ 1000 < y := by omega
  have HNm : Hid (∀ W, Calls Try.prog 28 #[.string s] W fun e w' => e = .returned (.bool (nameOk s)) ∧ w' = W) := fun W => RIsName_any s W hs
  by_cases hnm : nameOk s = false
  · have HE : Hid (rE r x s y = 1) := by unfold Hid rE jobE; rw [if_neg hrg, if_pos hnm]; rfl
    rw [hnm] at HNm
    clear h h1 hb0 l0 hne hn hs hrg
    go_enter Try.func11, Try.ntmps11
    go_wp2_with fail
    refine (HNm.out _).mono ?_
    rintro e w1 ⟨rfl, rfl⟩
    go_wp2
    go_ret
    exact ⟨by rw [HE.out]; rfl, HB.out⟩
  have hnm2 : nameOk s = true := by simpa using hnm
  have hj0 : jobE x s y = 0 := by unfold jobE; rw [if_neg hrg, if_neg hnm]
  rw [hnm2] at HNm
  have c4 := h1.c 4 jv rfl
  have HJ : Hid (Calls Try.prog 29 #[.pointer (some ⟨P, 0, none⟩), .string s] (w.alloc (.cells #[.int .i64 x, .string s, .int .i64 y] 34)) fun e w' => e = .returned (.int .i64 (jat r.jobs (fun j => eqN j.name s))) ∧ ∃ m, w' = (w.alloc (.cells #[.int .i64 x, .string s, .int .i64 y] 34)).drewN m) :=
    JobAt_any P s jv r.jobs (w.alloc (.cells #[.int .i64 x, .string s, .int .i64 y] 34)) c4 h1.jobs.readJ (by omega)
  have HB2 : Hid (∀ m, Below w.heap.size w ((w.alloc (.cells #[.int .i64 x, .string s, .int .i64 y] 34)).drewN m)) := fun m => hb0.trans ⟨rfl, rfl, rfl, Nat.le_refl _, fun _ _ => rfl⟩
  by_cases hj : 0 ≤ jat r.jobs (fun j => eqN j.name s)
  · have HE : Hid (rE r x s y = 6) := by unfold Hid rE; rw [hj0, if_neg (by decide), if_pos hj]
    clear h h1 hb0 l0 hne hn hs hrg hnm hnm2 hj0 c4
    generalize jat r.jobs (fun j => eqN j.name s) = z at *
    go_enter Try.func11, Try.ntmps11
    go_wp2_with fail
    refine (HNm.out _).mono ?_
    rintro e w1 ⟨rfl, rfl⟩
    go_wp2_with fail
    refine HJ.out.mono ?_
    rintro e w1 ⟨rfl, m, rfl⟩
    go_wp2
    go_ret
    exact ⟨by rw [HE.out]; rfl, HB2.out m⟩
  have hl : r.jobs.length = 200 := by
    unfold rE at hne
    rw [hj0, if_neg (by decide), if_neg hj] at hne
    by_cases e : r.jobs.length = 200
    · exact e
    · rw [if_neg e] at hne; exact absurd rfl hne
  have HE : Hid (rE r x s y = 2) := by unfold Hid rE; rw [hj0, if_neg (by decide), if_neg hj, if_pos hl]
  obtain ⟨ao, cap, hjv⟩ := h1.jobs.shape
  rw [hjv, hl] at c4
  clear h h1 hb0 l0 hne hn hs hrg hnm hnm2 hj0 hjv
  generalize jat r.jobs (fun j => eqN j.name s) = z at *
  have hz : ¬ z ≥ 0 := hj
  go_enter Try.func11, Try.ntmps11
  go_wp2_with fail
  refine (HNm.out _).mono ?_
  rintro e w1 ⟨rfl, rfl⟩
  go_wp2_with fail
  refine HJ.out.mono ?_
  rintro e w1 ⟨rfl, m, rfl⟩
  go_wp2
  go_ret
  exact ⟨by rw [HE.out]; rfl, HB2.out m⟩
end Go.Proofs.Ytfddhdpnoliamaa
