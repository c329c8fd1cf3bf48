/- A machine does a line: it tells a size, a sum. -/
import Derived.Deep.QuietTactic
import Derived.BigQuiet
import Derived.BigRegion
import Derived.Test.YtapiedeekbfpnaaGreatDoorTr5
namespace Go.Proofs.YtapiedeekbfpnaaGreatDoor
open Go.RowKit Go.Shelf Go.Maps Go.WideMaps Go.Sort

theorem dig_pow : ∀ (k n : Nat), n < 10 ^ (k + 1) → (Lib.decDigits n).length ≤ k + 1
  | 0, n, h => by rw [Lib.decDigits, dif_pos (by simpa using h)]; simp
  | k + 1, n, h => by
    by_cases h2 : n < 10
    · rw [Lib.decDigits, dif_pos h2]; simp
    · rw [Lib.decDigits, dif_neg h2, List.length_append]
      have := dig_pow k (n / 10) (by rw [Nat.pow_succ] at h; omega)
      simp
      omega
theorem szF_len {t : ByteArray} (h : t.size < 1000000) : (szF t).size ≤ 6 := by
  have h1 : (szF t).size = (Lib.decDigits t.size).length := List.size_toArray
  have h2 := dig_pow 5 t.size h
  omega

set_option maxHeartbeats 2000000 in
set_option linter.unusedSimpArgs false in
set_option maxRecDepth 100000 in
theorem deed_sum (m : Mc) (P bx : Nat) (l : Ln) (t : ByteArray) (w : World) (h : McAt w P m) (hx : w.cell? ⟨bx, 0, none⟩ = some (.pointer (some ⟨P, 0, none⟩))) (hbp : bx ≠ P) (hf : m.fuel ≤ 1000000) (hr : l.r < 8) (ht : m.tx[l.r]? = some t) (hts : t.size ≤ 100000) (he : Env w) :
    Calls Tryz.prog 78 #[.agg (lnC l), .pointer (some ⟨bx, 0, none⟩)] w fun e w' => e = .returned (.tuple #[]) ∧ McAt w' P (putM m l.r (smD t)) ∧ UpB P w w' := by
  obtain ⟨W, hW⟩ : ∃ W, W = w.alloc (.cells (lnC l) 67) := ⟨_, rfl⟩
  have hb : Below w.heap.size w W := by rw [hW]; exact (Below.refl _ w).alloc (Nat.le_refl _) _
  obtain ⟨f1, f2⟩ := sum_facts hW h hx hbp
  have hlen : (smD t).size ≤ 1000000 := by rw [smD_size]; omega
  obtain ⟨k1, k2, k3⟩ := f1 W.drew (Below.refl _ W).drew
  have heW : Env W.drew := he.up hb.drew
  have hC := Sm_any t W.drew (by omega) heW
  have HC : Hid (Calls Tryz.prog 79 #[.string t] W.drew fun e w' => e = .returned (.string (smD t)) ∧ (w'.cell? ⟨bx, 0, none⟩ = some (.pointer (some ⟨P, 0, none⟩)) ∧ w'.cell? ⟨w.heap.size, 1, none⟩ = some (.int .i64 (l.r : Int))) ∧ Hid (Below W.heap.size W w')) := hC.mono fun e w' q => by
    have q2 : Below W.heap.size W w' := ⟨q.2.os, q.2.tape, q.2.output, q.2.size, q.2.block⟩
    obtain ⟨_, j2, j3⟩ := f1 w' q2
    exact ⟨q.1, ⟨j2, by rw [Lib.cell_of_heap j3]; rfl⟩, q2⟩
  have HP : Hid (∀ V : World, Hid (Below W.heap.size W V) → Calls Tryz.prog 68 #[.pointer (some ⟨P, 0, none⟩), .int .i64 (l.r : Int), .string (smD t)] V fun e w' => e = .returned (.tuple #[]) ∧ (w'.cell? ⟨bx, 0, none⟩ = some (.pointer (some ⟨P, 0, none⟩)) ∧ w'.cell? ⟨w.heap.size, 1, none⟩ = some (.int .i64 (l.r : Int))) ∧ Hid (McAt w' P (putM m l.r (smD t)) ∧ UpB P w w')) := fun V hV => (put_any m P l.r (smD t) V (f1 V hV.out).1 hf hr hlen).mono fun e w' q => by
    obtain ⟨j1, j2, j3⟩ := f2 V w' hV.out q.2.2
    exact ⟨q.1, ⟨j1, by rw [Lib.cell_of_heap j2]; rfl⟩, q.2.1, j3⟩
  have HS : Hid (W.drew.cell? ⟨bx, 0, none⟩ = some (.pointer (some ⟨P, 0, none⟩)) ∧ W.drew.cell? ⟨w.heap.size, 1, none⟩ = some (.int .i64 (l.r : Int))) := ⟨k2, by rw [Lib.cell_of_heap k3]; rfl⟩
  have ct : W.drew.cell? ⟨P, 2 + l.r, none⟩ = some (.string t) := (k1.cell _).trans (mcL_lo l.r t ht)
  have hri : (l.r : Int) < 8 := by omega
  rw [hW] at HC HP HS ct
  generalize smD t = res at *
  clear h hf hC hb hW hx f1 f2 k1 k2 k3 hlen hr hbp ht hts he heW
  unfold lnC at *
  go_enter Tryz.func78, Tryz.ntmps78
  go_wp2
  refine wp_region_held_drew (S := fun V => V.cell? ⟨bx, 0, none⟩ = some (.pointer (some ⟨P, 0, none⟩)) ∧ V.cell? ⟨w.heap.size, 1, none⟩ = some (.int .i64 (l.r : Int))) (by kernel_rfl) HS.out (fun hHeld => ?_)
  refine wpAnyH_take (i := 0) (v := .pointer (some ⟨P, 0, none⟩)) rfl (by kernel_rfl) (by kernel_rfl) (by kernel_rfl) (fun _ _ _ h => h) (Or.inl ⟨by rfl, ?_⟩) (by assumption) ?_
  · intro V hSV
    try dsimp only at hSV
    go_simp
    try with_reducible rfl
  try simp only [Act.put, List.setIfInBounds_toArray, List.set_cons_zero, List.set_cons_succ]
  refine wpAnyH_take (i := 1) (v := .pointer (some ⟨w.heap.size, 1, none⟩)) rfl (by kernel_rfl) (by kernel_rfl) (by kernel_rfl) (fun _ _ _ h => h) (Or.inl ⟨by rfl, ?_⟩) (by assumption) ?_
  · intro V hSV
    try dsimp only at hSV
    go_simp
    try with_reducible rfl
  try simp only [Act.put, List.setIfInBounds_toArray, List.set_cons_zero, List.set_cons_succ]
  refine wpAnyH_take (i := 2) (v := .int .i64 (l.r : Int)) rfl (by kernel_rfl) (by kernel_rfl) (by kernel_rfl) (fun _ _ _ h => h) (Or.inl ⟨by rfl, ?_⟩) (by assumption) ?_
  · intro V hSV
    try dsimp only at hSV
    go_simp
    try with_reducible rfl
  try simp only [Act.put, List.setIfInBounds_toArray, List.set_cons_zero, List.set_cons_succ]
  refine wpAnyH_take (i := 3) (v := .pointer (some ⟨P, 0, none⟩)) rfl (by kernel_rfl) (by kernel_rfl) (by kernel_rfl) (fun _ _ _ h => h) (Or.inl ⟨by rfl, ?_⟩) (by assumption) ?_
  · intro V hSV
    try dsimp only at hSV
    go_simp
    try with_reducible rfl
  try simp only [Act.put, List.setIfInBounds_toArray, List.set_cons_zero, List.set_cons_succ]
  refine wpAnyH_take (i := 4) (v := .pointer (some ⟨w.heap.size, 1, none⟩)) rfl (by kernel_rfl) (by kernel_rfl) (by kernel_rfl) (fun _ _ _ h => h) (Or.inl ⟨by rfl, ?_⟩) (by assumption) ?_
  · intro V hSV
    try dsimp only at hSV
    go_simp
    try with_reducible rfl
  try simp only [Act.put, List.setIfInBounds_toArray, List.set_cons_zero, List.set_cons_succ]
  refine wpAnyH_take (i := 5) (v := .int .i64 (l.r : Int)) rfl (by kernel_rfl) (by kernel_rfl) (by kernel_rfl) (fun _ _ _ h => h) (Or.inl ⟨by rfl, ?_⟩) (by assumption) ?_
  · intro V hSV
    try dsimp only at hSV
    go_simp
    try with_reducible rfl
  try simp only [Act.put, List.setIfInBounds_toArray, List.set_cons_zero, List.set_cons_succ]
  refine wpAnyH_take (i := 6) (v := .pointer (some ⟨P, 0, none⟩)) rfl (by kernel_rfl) (by kernel_rfl) (by kernel_rfl) (fun _ _ _ h => h) (Or.inl ⟨by rfl, ?_⟩) (by assumption) ?_
  · intro V hSV
    try dsimp only at hSV
    go_simp
    try with_reducible rfl
  try simp only [Act.put, List.setIfInBounds_toArray, List.set_cons_zero, List.set_cons_succ]
  refine wpAnyH_take (i := 7) (v := .pointer (some ⟨P, 2, none⟩)) rfl (by kernel_rfl) (by kernel_rfl) (by kernel_rfl) (fun _ _ _ h => h) (Or.inl ⟨by rfl, ?_⟩) (by assumption) ?_
  · intro V hSV
    try dsimp only at hSV
    go_simp
    try with_reducible rfl
  try simp only [Act.put, List.setIfInBounds_toArray, List.set_cons_zero, List.set_cons_succ]
  refine wpAnyH_take (i := 8) (v := .pointer (some ⟨P, 2 + l.r, none⟩)) rfl (by kernel_rfl) (by kernel_rfl) (by kernel_rfl) (fun _ _ _ h => h) (Or.inl ⟨by rfl, ?_⟩) (by assumption) ?_
  · intro V hSV
    try dsimp only at hSV
    go_simp
    try with_reducible rfl
  try simp only [Act.put, List.setIfInBounds_toArray, List.set_cons_zero, List.set_cons_succ]
  refine wpAnyH_ready (rs := [9]) (by kernel_rfl) (by simp) (AllReadyH.cons rfl (fun K hK => ?_) AllReadyH.nil)
  go_simp
  refine hK.out _ _ hHeld (fun hHeld => ?_)
  clear hK K
  try simp only [Act.put, List.setIfInBounds_toArray, List.set_cons_zero, List.set_cons_succ]
  refine wpAnyH_ready (rs := [10]) (by kernel_rfl) (by simp) (AllReadyH.cons rfl (fun K hK => ?_) AllReadyH.nil)
  go_simp
  refine HC.out.mono ?_
  rintro e w1 ⟨rfl, hS1, H1⟩
  refine hK.out _ _ hS1 (fun hHeld => ?_)
  clear hK K
  try simp only [Act.put, List.setIfInBounds_toArray, List.set_cons_zero, List.set_cons_succ]
  refine wpAnyH_ready (rs := [11]) (by kernel_rfl) (by simp) (AllReadyH.cons rfl (fun K hK => ?_) AllReadyH.nil)
  go_simp
  refine (HP.out _ H1).mono ?_
  rintro e w2 ⟨rfl, hS2, H2⟩
  refine hK.out _ _ hS2 (fun hHeld => ?_)
  clear hK K
  refine wpAnyH_done (by kernel_rfl) ?_ _
  try simp only [Act.put, List.setIfInBounds_toArray, List.set_cons_zero, List.set_cons_succ]
  go_wp2
  go_end0
  exact ⟨rfl, H2.out⟩

set_option maxHeartbeats 2000000 in
set_option linter.unusedSimpArgs false in
set_option maxRecDepth 100000 in
theorem deed_size (m : Mc) (P bx : Nat) (l : Ln) (t : ByteArray) (w : World) (h : McAt w P m) (hx : w.cell? ⟨bx, 0, none⟩ = some (.pointer (some ⟨P, 0, none⟩))) (hbp : bx ≠ P) (hf : m.fuel ≤ 1000000) (hr : l.r < 8) (hs : l.s < 8) (ht : m.tx[l.s]? = some t) (hts : t.size ≤ 100000) (he : Env w) :
    Calls Tryz.prog 76 #[.agg (lnC l), .pointer (some ⟨bx, 0, none⟩)] w fun e w' => e = .returned (.tuple #[]) ∧ McAt w' P (putM m l.r (szF t)) ∧ UpB P w w' := by
  obtain ⟨W, hW⟩ : ∃ W, W = w.alloc (.cells (lnC l) 67) := ⟨_, rfl⟩
  have hb : Below w.heap.size w W := by rw [hW]; exact (Below.refl _ w).alloc (Nat.le_refl _) _
  obtain ⟨f1, f2⟩ := sum_facts hW h hx hbp
  have hlen : (szF t).size ≤ 1000000 := by have := szF_len (t := t) (by omega); omega
  obtain ⟨k1, k2, k3⟩ := f1 W.drew (Below.refl _ W).drew
  have heW : Env W.drew := he.up hb.drew
  have hC := Itoa_any t.size (by omega) W.drew heW
  have HC : Hid (Calls Tryz.prog 77 #[.int .i64 (t.size : Int)] W.drew fun e w' => e = .returned (.string (szF t)) ∧ (w'.cell? ⟨bx, 0, none⟩ = some (.pointer (some ⟨P, 0, none⟩)) ∧ w'.cell? ⟨w.heap.size, 1, none⟩ = some (.int .i64 (l.r : Int)) ∧ w'.cell? ⟨w.heap.size, 2, none⟩ = some (.int .i64 (l.s : Int))) ∧ Hid (Below W.heap.size W w')) := hC.mono fun e w' q => by
    have q2 : Below W.heap.size W w' := ⟨q.2.os, q.2.tape, q.2.output, q.2.size, q.2.block⟩
    obtain ⟨_, j2, j3⟩ := f1 w' q2
    exact ⟨q.1, ⟨j2, by rw [Lib.cell_of_heap j3]; rfl, by rw [Lib.cell_of_heap j3]; rfl⟩, q2⟩
  have HP : Hid (∀ V : World, Hid (Below W.heap.size W V) → Calls Tryz.prog 68 #[.pointer (some ⟨P, 0, none⟩), .int .i64 (l.r : Int), .string (szF t)] V fun e w' => e = .returned (.tuple #[]) ∧ (w'.cell? ⟨bx, 0, none⟩ = some (.pointer (some ⟨P, 0, none⟩)) ∧ w'.cell? ⟨w.heap.size, 1, none⟩ = some (.int .i64 (l.r : Int)) ∧ w'.cell? ⟨w.heap.size, 2, none⟩ = some (.int .i64 (l.s : Int))) ∧ Hid (McAt w' P (putM m l.r (szF t)) ∧ UpB P w w')) := fun V hV => (put_any m P l.r (szF t) V (f1 V hV.out).1 hf hr hlen).mono fun e w' q => by
    obtain ⟨j1, j2, j3⟩ := f2 V w' hV.out q.2.2
    exact ⟨q.1, ⟨j1, by rw [Lib.cell_of_heap j2]; rfl, by rw [Lib.cell_of_heap j2]; rfl⟩, q.2.1, j3⟩
  have HS : Hid (W.drew.cell? ⟨bx, 0, none⟩ = some (.pointer (some ⟨P, 0, none⟩)) ∧ W.drew.cell? ⟨w.heap.size, 1, none⟩ = some (.int .i64 (l.r : Int)) ∧ W.drew.cell? ⟨w.heap.size, 2, none⟩ = some (.int .i64 (l.s : Int))) := ⟨k2, by rw [Lib.cell_of_heap k3]; rfl, by rw [Lib.cell_of_heap k3]; rfl⟩
  have ct : W.drew.cell? ⟨P, 2 + l.s, none⟩ = some (.string t) := (k1.cell _).trans (mcL_lo l.s t ht)
  have hri : (l.r : Int) < 8 := by omega
  have hsi : (l.s : Int) < 8 := by omega
  have htz : (t.size : Int) ≤ 100000 := by omega
  rw [hW] at HC HP HS ct
  generalize szF t = res at *
  clear h hf hC hb hW hx f1 f2 k1 k2 k3 hlen hr hs hbp ht hts he heW
  unfold lnC at *
  go_enter Tryz.func76, Tryz.ntmps76
  go_wp2
  refine wp_region_held_drew (S := fun V => V.cell? ⟨bx, 0, none⟩ = some (.pointer (some ⟨P, 0, none⟩)) ∧ V.cell? ⟨w.heap.size, 1, none⟩ = some (.int .i64 (l.r : Int)) ∧ V.cell? ⟨w.heap.size, 2, none⟩ = some (.int .i64 (l.s : Int))) (by kernel_rfl) HS.out (fun hHeld => ?_)
  refine wpAnyH_take (i := 0) (v := .pointer (some ⟨P, 0, none⟩)) rfl (by kernel_rfl) (by kernel_rfl) (by kernel_rfl) (fun _ _ _ h => h) (Or.inl ⟨by rfl, ?_⟩) (by assumption) ?_
  · intro V hSV
    try dsimp only at hSV
    go_simp
    try with_reducible rfl
  try simp only [Act.put, List.setIfInBounds_toArray, List.set_cons_zero, List.set_cons_succ]
  refine wpAnyH_take (i := 1) (v := .pointer (some ⟨w.heap.size, 1, none⟩)) rfl (by kernel_rfl) (by kernel_rfl) (by kernel_rfl) (fun _ _ _ h => h) (Or.inl ⟨by rfl, ?_⟩) (by assumption) ?_
  · intro V hSV
    try dsimp only at hSV
    go_simp
    try with_reducible rfl
  try simp only [Act.put, List.setIfInBounds_toArray, List.set_cons_zero, List.set_cons_succ]
  refine wpAnyH_take (i := 2) (v := .int .i64 (l.r : Int)) rfl (by kernel_rfl) (by kernel_rfl) (by kernel_rfl) (fun _ _ _ h => h) (Or.inl ⟨by rfl, ?_⟩) (by assumption) ?_
  · intro V hSV
    try dsimp only at hSV
    go_simp
    try with_reducible rfl
  try simp only [Act.put, List.setIfInBounds_toArray, List.set_cons_zero, List.set_cons_succ]
  refine wpAnyH_take (i := 3) (v := .pointer (some ⟨P, 0, none⟩)) rfl (by kernel_rfl) (by kernel_rfl) (by kernel_rfl) (fun _ _ _ h => h) (Or.inl ⟨by rfl, ?_⟩) (by assumption) ?_
  · intro V hSV
    try dsimp only at hSV
    go_simp
    try with_reducible rfl
  try simp only [Act.put, List.setIfInBounds_toArray, List.set_cons_zero, List.set_cons_succ]
  refine wpAnyH_take (i := 4) (v := .pointer (some ⟨w.heap.size, 2, none⟩)) rfl (by kernel_rfl) (by kernel_rfl) (by kernel_rfl) (fun _ _ _ h => h) (Or.inl ⟨by rfl, ?_⟩) (by assumption) ?_
  · intro V hSV
    try dsimp only at hSV
    go_simp
    try with_reducible rfl
  try simp only [Act.put, List.setIfInBounds_toArray, List.set_cons_zero, List.set_cons_succ]
  refine wpAnyH_take (i := 5) (v := .int .i64 (l.s : Int)) rfl (by kernel_rfl) (by kernel_rfl) (by kernel_rfl) (fun _ _ _ h => h) (Or.inl ⟨by rfl, ?_⟩) (by assumption) ?_
  · intro V hSV
    try dsimp only at hSV
    go_simp
    try with_reducible rfl
  try simp only [Act.put, List.setIfInBounds_toArray, List.set_cons_zero, List.set_cons_succ]
  refine wpAnyH_take (i := 6) (v := .pointer (some ⟨P, 0, none⟩)) rfl (by kernel_rfl) (by kernel_rfl) (by kernel_rfl) (fun _ _ _ h => h) (Or.inl ⟨by rfl, ?_⟩) (by assumption) ?_
  · intro V hSV
    try dsimp only at hSV
    go_simp
    try with_reducible rfl
  try simp only [Act.put, List.setIfInBounds_toArray, List.set_cons_zero, List.set_cons_succ]
  refine wpAnyH_take (i := 7) (v := .pointer (some ⟨P, 2, none⟩)) rfl (by kernel_rfl) (by kernel_rfl) (by kernel_rfl) (fun _ _ _ h => h) (Or.inl ⟨by rfl, ?_⟩) (by assumption) ?_
  · intro V hSV
    try dsimp only at hSV
    go_simp
    try with_reducible rfl
  try simp only [Act.put, List.setIfInBounds_toArray, List.set_cons_zero, List.set_cons_succ]
  refine wpAnyH_take (i := 8) (v := .pointer (some ⟨P, 2 + l.s, none⟩)) rfl (by kernel_rfl) (by kernel_rfl) (by kernel_rfl) (fun _ _ _ h => h) (Or.inl ⟨by rfl, ?_⟩) (by assumption) ?_
  · intro V hSV
    try dsimp only at hSV
    go_simp
    try with_reducible rfl
  try simp only [Act.put, List.setIfInBounds_toArray, List.set_cons_zero, List.set_cons_succ]
  refine wpAnyH_ready (rs := [9]) (by kernel_rfl) (by simp) (AllReadyH.cons rfl (fun K hK => ?_) AllReadyH.nil)
  go_simp
  refine hK.out _ _ hHeld (fun hHeld => ?_)
  clear hK K
  try simp only [Act.put, List.setIfInBounds_toArray, List.set_cons_zero, List.set_cons_succ]
  refine wpAnyH_take (i := 10) (v := .int .i64 (t.size : Int)) rfl (by kernel_rfl) (by kernel_rfl) (by kernel_rfl) (fun _ _ _ h => h) (Or.inl ⟨by rfl, ?_⟩) (by assumption) ?_
  · intro V hSV
    try dsimp only at hSV
    go_simp
    try with_reducible rfl
  try simp only [Act.put, List.setIfInBounds_toArray, List.set_cons_zero, List.set_cons_succ]
  refine wpAnyH_ready (rs := [11]) (by kernel_rfl) (by simp) (AllReadyH.cons rfl (fun K hK => ?_) AllReadyH.nil)
  go_simp
  refine HC.out.mono ?_
  rintro e w1 ⟨rfl, hS1, H1⟩
  refine hK.out _ _ hS1 (fun hHeld => ?_)
  clear hK K
  try simp only [Act.put, List.setIfInBounds_toArray, List.set_cons_zero, List.set_cons_succ]
  refine wpAnyH_ready (rs := [12]) (by kernel_rfl) (by simp) (AllReadyH.cons rfl (fun K hK => ?_) AllReadyH.nil)
  go_simp
  refine (HP.out _ H1).mono ?_
  rintro e w2 ⟨rfl, hS2, H2⟩
  refine hK.out _ _ hS2 (fun hHeld => ?_)
  clear hK K
  refine wpAnyH_done (by kernel_rfl) ?_ _
  try simp only [Act.put, List.setIfInBounds_toArray, List.set_cons_zero, List.set_cons_succ]
  go_wp2
  go_end0
  exact ⟨rfl, H2.out⟩
end Go.Proofs.YtapiedeekbfpnaaGreatDoor

/- Two lines are run: what must be in any case. -/
namespace Go.Proofs.YtapiedeekbfpnaaGreatDoor
open Go.RowKit Go.Shelf Go.Maps Go.WideMaps Go.Sort

def tSet : ByteArray := ⟨#[115, 101, 116]⟩
def tMake : ByteArray := ⟨#[109, 97, 107, 101]⟩
def tHi : ByteArray := ⟨#[104, 105]⟩
def tOut : ByteArray := ⟨#[111, 117, 116]⟩
def bl1 : Ln := ⟨tSet, 0, 0, ⟨#[]⟩, tHi, 0, 0⟩
def bl2 : Ln := ⟨tMake, 0, 0, tOut, ⟨#[]⟩, 0, 0⟩
def bm0 (fv : Value) (mp : Nat) : Mc := ⟨fv, mp, List.replicate 8 ⟨#[]⟩, 100, 0, false, 0⟩
def bm1 (fv : Value) (mp : Nat) : Mc := ⟨fv, mp, tHi :: List.replicate 7 ⟨#[]⟩, 99, 1, false, 0⟩
def bm2 (fv : Value) (mp : Nat) : Mc := ⟨fv, mp, tHi :: List.replicate 7 ⟨#[]⟩, 98, 2, false, 0⟩
def bfl : Fl := ⟨tOut, tHi, false⟩
theorem bput (fv : Value) (mp : Nat) : putM { bm0 fv mp with next := 1 } 0 tHi = bm1 fv mp := rfl
theorem bmk (fv : Value) (mp : Nat) : mkM { bm1 fv mp with next := 2 } [] bfl = bm2 fv mp := rfl
theorem bmkD (fv : Value) (mp : Nat) : mkD { bm1 fv mp with next := 2 } [] bfl (byD []) = byD [bfl] := by
  have h1 : mayF [] bfl.pa = true ∧ (burnM { bm1 fv mp with next := 2 } bfl.tx.size).2 = true := ⟨rfl, rfl⟩
  unfold mkD
  rw [if_pos h1]
  exact (byD_snoc [] bfl).symm
/-- Two lines in memory. -/
structure TwoAt (w : World) (g : Nat) : Prop where
  lt : g < w.heap.size
  a : ∀ j v, ((lnC bl1).toList ++ (lnC bl2).toList)[j]? = some v → w.cell? ⟨g, j, none⟩ = some v
theorem TwoAt.keep {w w' : World} {g : Nat} (h : TwoAt w g) (hh : w'.heap[g]? = w.heap[g]?) (hs : w.heap.size ≤ w'.heap.size) : TwoAt w' g := ⟨Nat.lt_of_lt_of_le h.lt hs, fun j v hv => (cell_same hh j).trans (h.a j v hv)⟩
theorem TwoAt.c {w : World} {g : Nat} (h : TwoAt w g) :
    (w.cell? ⟨g, 0, none⟩ = some (.string ⟨#[115, 101, 116]⟩) ∧ w.cell? ⟨g, 1, none⟩ = some (.int .i64 0) ∧ w.cell? ⟨g, 2, none⟩ = some (.int .i64 0) ∧ w.cell? ⟨g, 3, none⟩ = some (.string ⟨#[]⟩) ∧ w.cell? ⟨g, 4, none⟩ = some (.string ⟨#[104, 105]⟩) ∧ w.cell? ⟨g, 5, none⟩ = some (.int .i64 0) ∧ w.cell? ⟨g, 6, none⟩ = some (.int .i64 0)) ∧
    (w.cell? ⟨g, 7, none⟩ = some (.string ⟨#[109, 97, 107, 101]⟩) ∧ w.cell? ⟨g, 8, none⟩ = some (.int .i64 0) ∧ w.cell? ⟨g, 9, none⟩ = some (.int .i64 0) ∧ w.cell? ⟨g, 10, none⟩ = some (.string ⟨#[111, 117, 116]⟩) ∧ w.cell? ⟨g, 11, none⟩ = some (.string ⟨#[]⟩) ∧ w.cell? ⟨g, 12, none⟩ = some (.int .i64 0) ∧ w.cell? ⟨g, 13, none⟩ = some (.int .i64 0)) :=
  ⟨⟨h.a 0 _ rfl, h.a 1 _ rfl, h.a 2 _ rfl, h.a 3 _ rfl, h.a 4 _ rfl, h.a 5 _ rfl, h.a 6 _ rfl⟩, ⟨h.a 7 _ rfl, h.a 8 _ rfl, h.a 9 _ rfl, h.a 10 _ rfl, h.a 11 _ rfl, h.a 12 _ rfl, h.a 13 _ rfl⟩⟩

theorem rd {w1 : World} {P : Nat} {m : Mc} (hm : McAt w1 P m) (l : Ln) (x : Nat) :
    (w1.alloc (.cells (lnC l) 67)).cell? ⟨P, 11, none⟩ = some (.int .i64 (m.next : Int)) ∧ (w1.alloc (.cells (lnC l) 67)).frozen? ⟨P, 11, none⟩ = false ∧
    McAt ((w1.alloc (.cells (lnC l) 67)).setCell ⟨P, 11, none⟩ (.int .i64 (x : Int))) P { m with next := x } ∧ LnAt ((w1.alloc (.cells (lnC l) 67)).setCell ⟨P, 11, none⟩ (.int .i64 (x : Int))) w1.heap.size l ∧ UpB P w1 ((w1.alloc (.cells (lnC l) 67)).setCell ⟨P, 11, none⟩ (.int .i64 (x : Int))) := by
  have hb : Below w1.heap.size w1 (w1.alloc (.cells (lnC l) 67)) := (Below.refl _ w1).alloc (Nat.le_refl _) _
  have h1 := hm.below hb
  have hP := hm.lt
  refine ⟨h1.c11, h1.frozen 11, h1.setNext x, ?_, (UpB.of_below hb).trans (UpB.set P 11 _ _)⟩
  exact (Below.heap_setCell _ ⟨P, 11, none⟩ _ w1.heap.size (by show w1.heap.size ≠ P; omega)).trans (heap_alloc_new w1 _)
theorem ded_set : ∀ j, j < 13 → dedK[j]? = some (tSet.data.toList, []) → dedN[j]? = some 67 := by decide
theorem ded_make : ∀ j, j < 13 → dedK[j]? = some (tMake.data.toList, []) → dedN[j]? = some 80 := by decide
theorem dedK_lt {j : Nat} {x : List UInt8 × List Nat} (h : dedK[j]? = some x) : j < 13 := (List.getElem?_eq_some_iff.1 h).1

set_option maxHeartbeats 4000000 in
set_option maxRecDepth 100000 in
theorem run_begun (fv : Value) (P mp g cap : Nat) (w : World) (h : McAt w P (bm0 fv mp)) (ho : w.ownsMap Tryz.prog 9 fileE mp 0 (byD [])) (ht : TwoAt w g) (hne : mp ≠ P) (hgP : g ≠ P) :
    Calls Tryz.prog 21 #[.pointer (some ⟨P, 0, none⟩), .slice (some ⟨g, 0, none⟩) 2 cap] w fun e w' => e = .returned (.tuple #[]) ∧ McAt w' P (bm2 fv mp) ∧ (∃ n', n' ≤ 1 ∧ w'.ownsMap Tryz.prog 9 fileE mp n' (byD [bfl])) ∧ UpC P mp w w' := by
  have HND : Hid (Calls Tryz.prog 36 #[.pointer (some ⟨P, 0, none⟩)] w fun e w' => ∃ M bx, e = .returned (.map (some M)) ∧ Hid (DdI w.heap.size M bx P w 13 w')) := (newDeeds_any P w).mono fun e w' q => by obtain ⟨M, bx, q1, q2⟩ := q; exact ⟨M, bx, q1, q2⟩
  have HH : Hid (McAt w P (bm0 fv mp) ∧ w.ownsMap Tryz.prog 9 fileE mp 0 (byD []) ∧ TwoAt w g) := ⟨h, ho, ht⟩
  clear h ho ht
  go_enter Tryz.func21, Tryz.ntmps21
  go_wp2_with (first
    | (go_at_call 36; refine HND.out.mono ?_; rintro e w1 ⟨M, bx, rfl, HD⟩)
    | go_in)
  have hb1 := HD.out.bel
  have m1 := HH.out.1.below hb1
  have o1 := ownsMap_heap HH.out.2.1 (hb1.block mp HH.out.2.1.lt)
  have t1 := HH.out.2.2.keep (hb1.block g HH.out.2.2.lt) hb1.size
  have hMl := HD.out.lt
  have hlo := HD.out.lo
  have hbxl : bx < w1.heap.size := World.block_lt_of_cell? w1 ⟨bx, 0, none⟩ HD.out.env
  have hPl := HH.out.1.lt
  have hmpl := HH.out.2.1.lt
  have hgl := HH.out.2.2.lt
  obtain ⟨⟨a0, a1, a2, a3, a4, a5, a6⟩, _⟩ := t1.c
  have n1 : w1.cell? ⟨P, 11, none⟩ = some (.int .i64 0) := m1.c11
  have n2 : w1.cell? ⟨P, 12, none⟩ = some (.bool false) := m1.c12
  obtain ⟨r1, r2, r3, r4, r5⟩ := rd m1 bl1 1
  have r1 : (w1.alloc (.cells #[.string ⟨#[115, 101, 116]⟩, .int .i64 0, .int .i64 0, .string ⟨#[]⟩, .string ⟨#[104, 105]⟩, .int .i64 0, .int .i64 0] 67)).cell? ⟨P, 11, none⟩ = some (.int .i64 0) := r1
  have r2 : (w1.alloc (.cells #[.string ⟨#[115, 101, 116]⟩, .int .i64 0, .int .i64 0, .string ⟨#[]⟩, .string ⟨#[104, 105]⟩, .int .i64 0, .int .i64 0] 67)).frozen? ⟨P, 11, none⟩ = false := r2
  have r4 : ((w1.alloc (.cells #[.string ⟨#[115, 101, 116]⟩, .int .i64 0, .int .i64 0, .string ⟨#[]⟩, .string ⟨#[104, 105]⟩, .int .i64 0, .int .i64 0] 67)).setCell ⟨P, 11, none⟩ (.int .i64 1)).heap[w1.heap.size]? = some (.cells #[.string ⟨#[115, 101, 116]⟩, .int .i64 0, .int .i64 0, .string ⟨#[]⟩, .string ⟨#[104, 105]⟩, .int .i64 0, .int .i64 0] 67 (0, 0)) := r4
  obtain ⟨⟨b0, _⟩, ⟨b1, _⟩, ⟨b2, _⟩, ⟨b3, _⟩, ⟨b4, _⟩, ⟨b5, _⟩, ⟨b6, _⟩⟩ := ln_cells r4
  obtain ⟨j1, n1', k1, k2, k3⟩ := look_deed HD.out tSet (by decide) (f := [0, 6]) rfl
  rw [ded_set j1 (dedK_lt k1) k1] at k2
  obtain rfl := Option.some.inj k2
  have hlk1 := k3 ((w1.alloc (.cells #[.string ⟨#[115, 101, 116]⟩, .int .i64 0, .int .i64 0, .string ⟨#[]⟩, .string ⟨#[104, 105]⟩, .int .i64 0, .int .i64 0] 67)).setCell ⟨P, 11, none⟩ (.int .i64 1)) (r5.block M hMl (by omega))
  have hlk1 : (Instr.lookup 70 (.map (some M)) (.string ⟨#[115, 101, 116]⟩) false).run Tryz.prog ((w1.alloc (.cells #[.string ⟨#[115, 101, 116]⟩, .int .i64 0, .int .i64 0, .string ⟨#[]⟩, .string ⟨#[104, 105]⟩, .int .i64 0, .int .i64 0] 67)).setCell ⟨P, 11, none⟩ (.int .i64 1)) = .ok (.func (.func 67) #[] #[.pointer (some ⟨bx, 0, none⟩)]) ((w1.alloc (.cells #[.string ⟨#[115, 101, 116]⟩, .int .i64 0, .int .i64 0, .string ⟨#[]⟩, .string ⟨#[104, 105]⟩, .int .i64 0, .int .i64 0] 67)).setCell ⟨P, 11, none⟩ (.int .i64 1)) := hlk1
  have hds := deed_set { bm0 fv mp with next := 1 } P bx bl1 _ r3 ((cell_same (r5.block bx hbxl (by omega)) 0).trans HD.out.env) (show 100 ≤ 1000000 by decide) (show 0 < 8 by decide) (by decide)
  have HDS : Hid (Calls Tryz.prog 67 #[.agg #[.string ⟨#[115, 101, 116]⟩, .int .i64 0, .int .i64 0, .string ⟨#[]⟩, .string ⟨#[104, 105]⟩, .int .i64 0, .int .i64 0], .pointer (some ⟨bx, 0, none⟩)] ((w1.alloc (.cells #[.string ⟨#[115, 101, 116]⟩, .int .i64 0, .int .i64 0, .string ⟨#[]⟩, .string ⟨#[104, 105]⟩, .int .i64 0, .int .i64 0] 67)).setCell ⟨P, 11, none⟩ (.int .i64 1)) fun e w' => e = .returned (.tuple #[]) ∧ Hid (McAt w' P (bm1 fv mp) ∧ UpB P w1 w')) := hds.mono fun e w' q => ⟨q.1, q.2.1, r5.trans q.2.2⟩
  have HK : Hid (DdI w.heap.size M bx P w 13 w1 ∧ w1.ownsMap Tryz.prog 9 fileE mp 0 (byD []) ∧ TwoAt w1 g ∧ (P < w.heap.size ∧ mp < w.heap.size ∧ g < w.heap.size ∧ w.heap.size ≤ bx ∧ bx < M ∧ M < w1.heap.size ∧ w.heap.size ≤ w1.heap.size)) := ⟨HD.out, o1, t1, hPl, hmpl, hgl, hlo.1, hlo.2, hMl, hb1.size⟩
  clear r3 r5 hds k1 k3 r4 hb1 m1 o1 t1
  refine wp_loop_rounds 3 ?_
  rw [rounds_succ]
  go_wp2_with (first
    | (go_at_call 67; refine HDS.out.mono ?_; rintro e w4 ⟨rfl, H4⟩)
    | go_in)
  clear a0 a1 a2 a3 a4 a5 a6 n1 n2 r1 r2 b0 b1 b2 b3 b4 b5 b6 hlk1 HDS
  have u4 := H4.out.2
  have m4 := H4.out.1
  have o4 := ownsMap_heap HK.out.2.1 (u4.block mp (by omega) hne)
  have t4 := HK.out.2.2.1.keep (u4.block g (by omega) hgP) u4.size
  have x4 : w4.cell? ⟨bx, 0, none⟩ = some (.pointer (some ⟨P, 0, none⟩)) := (cell_same (u4.block bx hbxl (by omega)) 0).trans HK.out.1.env
  obtain ⟨_, ⟨a0, a1, a2, a3, a4, a5, a6⟩⟩ := t4.c
  have n1 : w4.cell? ⟨P, 11, none⟩ = some (.int .i64 1) := m4.c11
  have n2 : w4.cell? ⟨P, 12, none⟩ = some (.bool false) := m4.c12
  obtain ⟨r1, r2, r3, r4, r5⟩ := rd m4 bl2 2
  have r1 : (w4.alloc (.cells #[.string ⟨#[109, 97, 107, 101]⟩, .int .i64 0, .int .i64 0, .string ⟨#[111, 117, 116]⟩, .string ⟨#[]⟩, .int .i64 0, .int .i64 0] 67)).cell? ⟨P, 11, none⟩ = some (.int .i64 1) := r1
  have r2 : (w4.alloc (.cells #[.string ⟨#[109, 97, 107, 101]⟩, .int .i64 0, .int .i64 0, .string ⟨#[111, 117, 116]⟩, .string ⟨#[]⟩, .int .i64 0, .int .i64 0] 67)).frozen? ⟨P, 11, none⟩ = false := r2
  have r4 : ((w4.alloc (.cells #[.string ⟨#[109, 97, 107, 101]⟩, .int .i64 0, .int .i64 0, .string ⟨#[111, 117, 116]⟩, .string ⟨#[]⟩, .int .i64 0, .int .i64 0] 67)).setCell ⟨P, 11, none⟩ (.int .i64 2)).heap[w4.heap.size]? = some (.cells #[.string ⟨#[109, 97, 107, 101]⟩, .int .i64 0, .int .i64 0, .string ⟨#[111, 117, 116]⟩, .string ⟨#[]⟩, .int .i64 0, .int .i64 0] 67 (0, 0)) := r4
  obtain ⟨⟨b0, _⟩, ⟨b1, _⟩, ⟨b2, _⟩, ⟨b3, _⟩, ⟨b4, _⟩, ⟨b5, _⟩, ⟨b6, _⟩⟩ := ln_cells r4
  obtain ⟨j1, n1', k1, k2, k3⟩ := look_deed HK.out.1 tMake (by decide) (f := [7, 0]) rfl
  rw [ded_make j1 (dedK_lt k1) k1] at k2
  obtain rfl := Option.some.inj k2
  have h4s := u4.size
  have hlk1 := k3 ((w4.alloc (.cells #[.string ⟨#[109, 97, 107, 101]⟩, .int .i64 0, .int .i64 0, .string ⟨#[111, 117, 116]⟩, .string ⟨#[]⟩, .int .i64 0, .int .i64 0] 67)).setCell ⟨P, 11, none⟩ (.int .i64 2)) ((r5.block M (by omega) (by omega)).trans (u4.block M hMl (by omega)))
  have hlk1 : (Instr.lookup 70 (.map (some M)) (.string ⟨#[109, 97, 107, 101]⟩) false).run Tryz.prog ((w4.alloc (.cells #[.string ⟨#[109, 97, 107, 101]⟩, .int .i64 0, .int .i64 0, .string ⟨#[111, 117, 116]⟩, .string ⟨#[]⟩, .int .i64 0, .int .i64 0] 67)).setCell ⟨P, 11, none⟩ (.int .i64 2)) = .ok (.func (.func 80) #[] #[.pointer (some ⟨bx, 0, none⟩)]) ((w4.alloc (.cells #[.string ⟨#[109, 97, 107, 101]⟩, .int .i64 0, .int .i64 0, .string ⟨#[111, 117, 116]⟩, .string ⟨#[]⟩, .int .i64 0, .int .i64 0] 67)).setCell ⟨P, 11, none⟩ (.int .i64 2)) := hlk1
  have hds := deed_make { bm1 fv mp with next := 2 } P bx 0 [] bl2 tHi _ r3 ((cell_same (r5.block bx (by omega) (by omega)) 0).trans x4) (show 99 ≤ 1000000 by decide) (show 0 < 8 by decide) rfl (by decide) (by decide) (ownsMap_heap o4 (r5.block mp (by omega) hne)) List.nodup_nil (by decide) hne (by omega)
  have HDS : Hid (Calls Tryz.prog 80 #[.agg #[.string ⟨#[109, 97, 107, 101]⟩, .int .i64 0, .int .i64 0, .string ⟨#[111, 117, 116]⟩, .string ⟨#[]⟩, .int .i64 0, .int .i64 0], .pointer (some ⟨bx, 0, none⟩)] ((w4.alloc (.cells #[.string ⟨#[109, 97, 107, 101]⟩, .int .i64 0, .int .i64 0, .string ⟨#[111, 117, 116]⟩, .string ⟨#[]⟩, .int .i64 0, .int .i64 0] 67)).setCell ⟨P, 11, none⟩ (.int .i64 2)) fun e w' => e = .returned (.tuple #[]) ∧ Hid (McAt w' P (bm2 fv mp) ∧ (∃ n', n' ≤ 1 ∧ w'.ownsMap Tryz.prog 9 fileE mp n' (byD [bfl])) ∧ UpC P mp w w')) := hds.mono fun e w' q => by
    obtain ⟨q0, q1, ⟨n', q2, q3⟩, q4⟩ := q
    refine ⟨q0, q1, ⟨n', q2, ?_⟩, ?_⟩
    · have e1 := bmkD fv mp
      have q3 : w'.ownsMap Tryz.prog 9 fileE mp n' (mkD { bm1 fv mp with next := 2 } [] bfl (byD [])) := q3
      rw [e1] at q3
      exact q3
    · have h0 : UpC P mp w w1 := ⟨HK.out.1.bel.os, HK.out.1.bel.tape, HK.out.1.bel.output, HK.out.1.bel.size, fun g hg _ _ => HK.out.1.bel.block g hg⟩
      exact ((h0.trans (UpC.of u4)).trans (UpC.of r5)).trans q4
  clear r3 r5 hds k1 k3 r4 m4 o4 t4 u4 x4
  rw [rounds_succ]
  go_wp2_with (first
    | (go_at_call 80; refine HDS.out.mono ?_; rintro e w7 ⟨rfl, H7⟩)
    | go_in)
  clear a0 a1 a2 a3 a4 a5 a6 n1 n2 r1 r2 b0 b1 b2 b3 b4 b5 b6 hlk1 HDS
  have n1 : w7.cell? ⟨P, 11, none⟩ = some (.int .i64 2) := H7.out.1.c11
  have n2 : w7.cell? ⟨P, 12, none⟩ = some (.bool false) := H7.out.1.c12
  rw [rounds_succ]
  go_wp2
  go_end0
  exact ⟨rfl, H7.out⟩
end Go.Proofs.YtapiedeekbfpnaaGreatDoor

/- A machine does a line, whichever it is. -/
namespace Go.Proofs.YtapiedeekbfpnaaGreatDoor
open Go.RowKit Go.Shelf Go.Maps Go.WideMaps Go.Sort

theorem wk_of {l : Ln} {j : Nat} (h : dedK[j]? = some (l.wd.data.toList, [])) : wkF l = j ∧ j < 13 := by
  have hj := dedK_lt h
  refine ⟨?_, hj⟩
  unfold wkF
  have h2 : wrdL[j]? = some l.wd.data.toList := by
    have h3 : (dedK.map (·.1))[j]? = some l.wd.data.toList := by rw [List.getElem?_map, h]; rfl
    exact h3
  have hn : wrdL.Nodup := by decide
  obtain ⟨h4, h5⟩ := List.getElem?_eq_some_iff.1 h2
  rw [← h5]
  exact List.Nodup.idxOf_getElem hn j h4
/-- How a deed ends. -/
def DeP (P mp n : Nat) (m' : Mc) (L' : List Fl) (w : World) (e : Ending) (w' : World) : Prop :=
  e = .returned (.tuple #[]) ∧ McAt w' P m' ∧ (∃ n', n' ≤ n + 1 ∧ w'.ownsMap Tryz.prog 9 fileE mp n' (byD L')) ∧ UpC P mp w w'
theorem de_of {N P mp n : Nat} {args : Array Value} {m' : Mc} {L : List Fl} {w : World} (ho : w.ownsMap Tryz.prog 9 fileE mp n (byD L)) (hne : mp ≠ P)
    (hc : Calls Tryz.prog N args w fun e w' => e = .returned (.tuple #[]) ∧ McAt w' P m' ∧ UpB P w w') : Calls Tryz.prog N args w (DeP P mp n m' L w) :=
  hc.mono fun e w' q => ⟨q.1, q.2.1, ⟨n, by omega, ownsMap_heap ho (q.2.2.block mp ho.lt hne)⟩, UpC.of q.2.2⟩
theorem rdM_do (F L : List Fl) (m : Mc) (l : Ln) (h : wkF l = 1) : doM F L m l = rdM F m l.r l.pa := by
  unfold doM rdM
  simp only [h]
  all_goals (cases fndF F l.pa <;> rfl)

theorem deed_all (F L : List Fl) (m : Mc) (P bx n : Nat) (ao : Option Addr) (cap : Nat) (l : Ln) (w : World) (h : McAt w P m) (hx : w.cell? ⟨bx, 0, none⟩ = some (.pointer (some ⟨P, 0, none⟩))) (hbp : bx ≠ P) (hne : m.mp ≠ P)
    (hfv : m.fv = .slice ao F.length cap) (hl : IsFl w ao F) (hF : TrOk F) (hmo : MOk m L) (hf : m.fuel ≤ 1000000) (hlo : LnOk l) (he : Env w) (ho : w.ownsMap Tryz.prog 9 fileE m.mp n (byD L)) (hnn : n ≤ 1000000)
    {j N : Nat} (hj : dedK[j]? = some (l.wd.data.toList, [])) (hN : dedN[j]? = some N) :
    Calls Tryz.prog N #[.agg (lnC l), .pointer (some ⟨bx, 0, none⟩)] w (DeP P m.mp n (doM F L m l) (doL L m l) w) := by
  obtain ⟨hk, hj13⟩ := wk_of hj
  have tr := txF_get hmo hlo.r
  have ts := txF_get hmo hlo.s
  have zr := txF_size hmo l.r
  have zs := txF_size hmo l.s
  have mk : ∀ {b : Bool} {w' : World}, (∃ n', n' ≤ n + 1 ∧ w'.ownsMap Tryz.prog 9 fileE m.mp n' (mkD m L ⟨l.pa, txF m l.r, b⟩ (byD L))) → ∃ n', n' ≤ n + 1 ∧ w'.ownsMap Tryz.prog 9 fileE m.mp n' (byD (mkL m L ⟨l.pa, txF m l.r, b⟩)) := by
    intro b w' h
    rw [mkD_byD hmo.tr.up] at h
    exact h
  match j, hj13, hk, hN with
  | 0, _, hk, hN =>
    obtain rfl := Option.some.inj hN
    have e1 : doM F L m l = putM m l.r l.tx := by unfold doM; simp only [hk]
    have e2 : doL L m l = L := by unfold doL; simp only [hk]
    rw [e1, e2]
    exact de_of ho hne (deed_set m P bx l w h hx hf hlo.r (by have := hlo.tx; omega))
  | 1, _, hk, hN =>
    obtain rfl := Option.some.inj hN
    have e2 : doL L m l = L := by unfold doL; simp only [hk]
    rw [rdM_do F L m l hk, e2]
    exact de_of ho hne (deed_read m P bx ao cap F l w h hx hfv hl hF hf hlo.r)
  | 2, _, hk, hN =>
    obtain rfl := Option.some.inj hN
    have e1 : doM F L m l = putM m l.r (lstF F l.pa) := by unfold doM; simp only [hk]
    have e2 : doL L m l = L := by unfold doL; simp only [hk]
    rw [e1, e2]
    exact de_of ho hne (deed_list m P bx ao cap F l w h hx hbp hfv hl hF hf hlo.r (by have := hlo.pa; omega))
  | 3, _, hk, hN =>
    obtain rfl := Option.some.inj hN
    have e1 : doM F L m l = putM m l.r (jnF (txF m l.r) (txF m l.s)) := by unfold doM; simp only [hk]
    have e2 : doL L m l = L := by unfold doL; simp only [hk]
    rw [e1, e2]
    have hz : (jnF (txF m l.r) (txF m l.s)).size ≤ 1000000 := by
      have : (jnF (txF m l.r) (txF m l.s)).size = ((txF m l.r).data.toList ++ (txF m l.s).data.toList).length := List.size_toArray
      rw [this, List.length_append, Array.length_toList, Array.length_toList]
      have e1 : (txF m l.r).data.size = (txF m l.r).size := rfl
      have e2 : (txF m l.s).data.size = (txF m l.s).size := rfl
      omega
    exact de_of ho hne (deed_join m P bx l (txF m l.r) (txF m l.s) _ w h hx hf hlo.r hlo.s tr ts (fun W => catB _ _ _ (by simp [jnF, bA]) (by omega) W) hz)
  | 4, _, hk, hN =>
    obtain rfl := Option.some.inj hN
    have e1 : doM F L m l = putM m l.r (cutM (txF m l.r) l.n l.m) := by unfold doM; simp only [hk]
    have e2 : doL L m l = L := by unfold doL; simp only [hk]
    rw [e1, e2]
    exact de_of ho hne (deed_cut m P bx l (txF m l.r) w h hx hf hlo.r tr (by omega))
  | 5, _, hk, hN =>
    obtain rfl := Option.some.inj hN
    have e1 : doM F L m l = putM m l.r (szF (txF m l.s)) := by unfold doM; simp only [hk]
    have e2 : doL L m l = L := by unfold doL; simp only [hk]
    rw [e1, e2]
    exact de_of ho hne (deed_size m P bx l (txF m l.s) w h hx hbp hf hlo.r hlo.s ts zs he)
  | 6, _, hk, hN =>
    obtain rfl := Option.some.inj hN
    have e1 : doM F L m l = putM m l.r (smD (txF m l.r)) := by unfold doM; simp only [hk]
    have e2 : doL L m l = L := by unfold doL; simp only [hk]
    rw [e1, e2]
    exact de_of ho hne (deed_sum m P bx l (txF m l.r) w h hx hbp hf hlo.r tr zr he)
  | 7, _, hk, hN =>
    obtain rfl := Option.some.inj hN
    have e1 : doM F L m l = mkM m L ⟨l.pa, txF m l.r, false⟩ := by unfold doM; simp only [hk]
    have e2 : doL L m l = mkL m L ⟨l.pa, txF m l.r, false⟩ := by unfold doL; simp only [hk]
    rw [e1, e2]
    exact (deed_make m P bx n L l (txF m l.r) w h hx hf hlo.r tr (by omega) (by have := hlo.pa; omega) ho hmo.tr.nodup hnn hne hbp).mono fun e w' q => ⟨q.1, q.2.1, mk q.2.2.1, q.2.2.2⟩
  | 8, _, hk, hN =>
    obtain rfl := Option.some.inj hN
    have e1 : doM F L m l = mkM m L ⟨l.pa, txF m l.r, true⟩ := by unfold doM; simp only [hk]
    have e2 : doL L m l = mkL m L ⟨l.pa, txF m l.r, true⟩ := by unfold doL; simp only [hk]
    rw [e1, e2]
    exact (deed_run m P bx n L l (txF m l.r) w h hx hf hlo.r tr (by omega) (by have := hlo.pa; omega) ho hmo.tr.nodup hnn hne hbp).mono fun e w' q => ⟨q.1, q.2.1, mk q.2.2.1, q.2.2.2⟩
  | 9, _, hk, hN =>
    obtain rfl := Option.some.inj hN
    have e1 : doM F L m l = goM m (decide ((txF m l.r).data.toList = (txF m l.s).data.toList)) l.n := by unfold doM; simp only [hk]
    have e2 : doL L m l = L := by unfold doL; simp only [hk]
    rw [e1, e2]
    refine de_of ho hne ((deed_same m P bx l (txF m l.r) (txF m l.s) w h hx hf hlo.r hlo.s tr ts).mono fun e w' q => ?_)
    obtain ⟨q1, b, hb, q2, q3⟩ := q
    have eb : b = decide ((txF m l.r).data.toList = (txF m l.s).data.toList) := by rw [Bool.eq_iff_iff, hb, decide_eq_true_iff]
    rw [← eb]
    exact ⟨q1, q2, q3⟩
  | 10, _, hk, hN =>
    obtain rfl := Option.some.inj hN
    have e1 : doM F L m l = goM m (decide ((txF m l.r).data.toList < (txF m l.s).data.toList)) l.n := by unfold doM; simp only [hk]
    have e2 : doL L m l = L := by unfold doL; simp only [hk]
    rw [e1, e2]
    refine de_of ho hne ((deed_less m P bx l (txF m l.r) (txF m l.s) w h hx hf hlo.r hlo.s tr ts).mono fun e w' q => ?_)
    obtain ⟨q1, b, hb, q2, q3⟩ := q
    have eb : b = decide ((txF m l.r).data.toList < (txF m l.s).data.toList) := by rw [Bool.eq_iff_iff, hb, decide_eq_true_iff]
    rw [← eb]
    exact ⟨q1, q2, q3⟩
  | 11, _, hk, hN =>
    obtain rfl := Option.some.inj hN
    have e1 : doM F L m l = goM m true l.n := by unfold doM; simp only [hk]
    have e2 : doL L m l = L := by unfold doL; simp only [hk]
    rw [e1, e2]
    exact de_of ho hne (deed_goto m P bx l w h hx hf)
  | 12, _, hk, hN =>
    obtain rfl := Option.some.inj hN
    have e1 : doM F L m l = endM m l.n := by unfold doM; simp only [hk]
    have e2 : doL L m l = L := by unfold doL; simp only [hk]
    rw [e1, e2]
    exact de_of ho hne (deed_exit m P bx l w h hx hf)
  | j + 13, hj, _, _ => omega
theorem deed_enters {j N : Nat} (hN : dedN[j]? = some N) : ∀ args w, (callFunc N args).run Tryz.prog w = .ok (.enter N args) w := by
  have hj : j < 13 := (List.getElem?_eq_some_iff.1 hN).1
  match j, hj, hN with
  | 0, _, hN => obtain rfl := Option.some.inj hN; exact enters_of Tryz.func67 (by kernel_rfl) rfl
  | 1, _, hN => obtain rfl := Option.some.inj hN; exact enters_of Tryz.func69 (by kernel_rfl) rfl
  | 2, _, hN => obtain rfl := Option.some.inj hN; exact enters_of Tryz.func71 (by kernel_rfl) rfl
  | 3, _, hN => obtain rfl := Option.some.inj hN; exact enters_of Tryz.func73 (by kernel_rfl) rfl
  | 4, _, hN => obtain rfl := Option.some.inj hN; exact enters_of Tryz.func74 (by kernel_rfl) rfl
  | 5, _, hN => obtain rfl := Option.some.inj hN; exact enters_of Tryz.func76 (by kernel_rfl) rfl
  | 6, _, hN => obtain rfl := Option.some.inj hN; exact enters_of Tryz.func78 (by kernel_rfl) rfl
  | 7, _, hN => obtain rfl := Option.some.inj hN; exact enters_of Tryz.func80 (by kernel_rfl) rfl
  | 8, _, hN => obtain rfl := Option.some.inj hN; exact enters_of Tryz.func82 (by kernel_rfl) rfl
  | 9, _, hN => obtain rfl := Option.some.inj hN; exact enters_of Tryz.func83 (by kernel_rfl) rfl
  | 10, _, hN => obtain rfl := Option.some.inj hN; exact enters_of Tryz.func85 (by kernel_rfl) rfl
  | 11, _, hN => obtain rfl := Option.some.inj hN; exact enters_of Tryz.func86 (by kernel_rfl) rfl
  | 12, _, hN => obtain rfl := Option.some.inj hN; exact enters_of Tryz.func87 (by kernel_rfl) rfl
end Go.Proofs.YtapiedeekbfpnaaGreatDoor

/- What must be in any case. -/
namespace Go.Proofs.YtapiedeekbfpnaaGreatDoor
open Go.RowKit Go.Shelf Go.Maps Go.WideMaps Go.Sort

set_option maxHeartbeats 2000000 in
set_option maxRecDepth 100000 in
theorem newMachine_begun (w : World) :
    Calls Tryz.prog 20 #[.slice none 0 0, .int .i64 100] w fun e w' => e = .returned (.pointer (some ⟨w.heap.size + 1, 0, none⟩)) ∧ McAt w' (w.heap.size + 1) (bm0 (.slice none 0 0) w.heap.size) ∧ w'.ownsMap Tryz.prog 9 fileE w.heap.size 0 (byD []) ∧ Below w.heap.size w w' := by
  have hmm := @run_makeMap Tryz.prog
  have h1 : ∀ o : Obj, Below w.heap.size w ((w.alloc (.map #[] 0)).alloc o) := fun o => ((Below.refl _ w).alloc (Nat.le_refl _) _).alloc (by rw [World.size_alloc]; omega) _
  have h2 : ∀ o : Obj, ((w.alloc (.map #[] 0)).alloc o).ownsMap Tryz.prog 9 fileE w.heap.size 0 (byD []) := fun o => (World.ownsMap_made (H := Unit) w Tryz.prog 9 fileE).alloc o
  have h3 : ∀ cs : Array Value, cs = (mcL (bm0 (.slice none 0 0) w.heap.size)).toArray → McAt ((w.alloc (.map #[] 0)).alloc (.cells cs 52)) (w.heap.size + 1) (bm0 (.slice none 0 0) w.heap.size) := fun cs e => by
    refine ⟨?_, rfl⟩
    have := heap_alloc_new (w.alloc (.map #[] 0)) (.cells cs 52)
    rw [World.size_alloc] at this
    rw [this, e]
  have H1 : Hid (∀ o : Obj, Below w.heap.size w ((w.alloc (.map #[] 0)).alloc o)) := h1
  have H2 : Hid (∀ o : Obj, ((w.alloc (.map #[] 0)).alloc o).ownsMap Tryz.prog 9 fileE w.heap.size 0 (byD [])) := h2
  have H3 : Hid (∀ cs : Array Value, cs = (mcL (bm0 (.slice none 0 0) w.heap.size)).toArray → McAt ((w.alloc (.map #[] 0)).alloc (.cells cs 52)) (w.heap.size + 1) (bm0 (.slice none 0 0) w.heap.size)) := h3
  clear h1 h2 h3
  go_enter Tryz.func20, Tryz.ntmps20
  go_wp2
  go_ret
  exact ⟨rfl, H3.out _ rfl, H2.out _, H1.out _⟩

def bs1 : ByteArray := ⟨#[115, 101, 116, 32, 97, 32, 104, 105]⟩
def bs2 : ByteArray := ⟨#[109, 97, 107, 101, 32, 111, 117, 116, 32, 97]⟩
def bs3 : ByteArray := ⟨#[103, 111, 116, 111, 32, 53]⟩
theorem b_path : pathOk (bA [111, 117, 116]) = true := by
  have hn : nameOk (⟨([111, 117, 116] : List UInt8).toArray⟩ : ByteArray) = true := by
    unfold nameOk
    rw [Lib.toList_data]
    decide
  show (decide ((bA [111, 117, 116]).size ≤ 100) && (nameOk (⟨([111, 117, 116] : List UInt8).toArray⟩ : ByteArray) && true)) = true
  rw [hn]
  decide
theorem b_l1 : linF 2 bs1.data.toList = some bl1 := rfl
theorem b_l2 : linF 2 bs2.data.toList = some bl2 := by
  have e : linF 2 bs2.data.toList = (if pathOk (bA [111, 117, 116]) = true then some { Ln.none with wd := tMake, pa := tOut } else none).bind (fun l' => foldP 2 [0] [[97]] l') := rfl
  rw [e, if_pos b_path]
  rfl
theorem b_bad : badF 2 [bs1, bs2] = none := by
  refine bad_none fun j hj => ?_
  match j, hj with
  | 0, _ => show (linF 2 bs1.data.toList).isSome = true; rw [b_l1]; rfl
  | 1, _ => show (linF 2 bs2.data.toList).isSome = true; rw [b_l2]; rfl
theorem b_lns : lnsF 2 [bs1, bs2] = [bl1, bl2] := by
  unfold lnsF
  rw [List.filterMap_cons, List.filterMap_cons, b_l1, b_l2]
  rfl
theorem b_chk : chkF [bs1, bs2] = (0, 0) := by
  unfold chkF
  rw [if_neg (by rintro (h | ⟨s, h, h2⟩); exact absurd h (by decide); simp at h; rcases h with rfl | rfl; exact absurd h2 (by decide); exact absurd h2 (by decide)), show badF [bs1, bs2].length [bs1, bs2] = none from b_bad]
theorem b_chk3 : chkF [bs3] = (0, 1) := by
  unfold chkF
  rw [if_neg (by rintro (h | ⟨s, h, h2⟩); exact absurd h (by decide); simp at h; rcases h with rfl; exact absurd h2 (by decide)), show badF [bs3].length [bs3] = some 0 from by decide]

set_option maxHeartbeats 4000000 in
set_option maxRecDepth 100000 in
theorem Run_begun (g0 c0 : Nat) (w : World) (ht : TxAt w (some ⟨g0, 0, none⟩) [bs1, bs2]) (hm : MaxIs w) :
    Calls Tryz.prog 9 #[.slice none 0 0, .slice (some ⟨g0, 0, none⟩) 2 c0, .int .i64 100] w fun e w' => ∃ v, e = .returned (.tuple #[v, .int .i64 0, .int .i64 2, .int .i64 0]) ∧ w'.ownsRow w.heap.size 35 3 v 1 (flCells [bfl]) ∧ Below w.heap.size w w' := by
  have HC : Hid (Calls Tryz.prog 13 #[.slice none 0 0] w fun e w' => e = .returned (.int .i64 0) ∧ Hid (Below w.heap.size w w')) := (Check_any none 0 [] w (.inl rfl) hm).mono fun e w' q => ⟨q.1, q.2⟩
  have HL : Hid (∀ V, Hid (Below w.heap.size w V) → Calls Tryz.prog 19 #[.slice (some ⟨g0, 0, none⟩) 2 c0] V fun e w' => ∃ g cap, e = .returned (.tuple #[.slice (some ⟨g, 0, none⟩) 2 cap, .int .i64 0, .int .i64 0]) ∧ Hid (Below V.heap.size V w' ∧ TwoAt w' g)) := by
    intro V hV
    refine (linesOf_any (some ⟨g0, 0, none⟩) c0 [bs1, bs2] V (ht.below hV.out) (hm.up hV.out) (by decide)).mono ?_
    rintro e w' ⟨v, h1, h2, h3⟩
    rw [b_chk] at h1 h3
    obtain ⟨h4, h5⟩ := h3 rfl
    rw [show lnsF [bs1, bs2].length [bs1, bs2] = [bl1, bl2] from b_lns] at h4
    have h4 : w'.ownsRow V.heap.size 67 7 v (1 + 1) ((lnC bl1).toList ++ (lnC bl2).toList) := h4
    obtain ⟨g, cap, hv⟩ := own_block h4
    subst hv
    refine ⟨g, cap, h1, h2, (h4.lt g rfl).2, fun j v hv => ?_⟩
    have := h4.cells rfl j v hv
    rwa [addr_add, Nat.zero_add] at this
  clear ht hm
  go_enter Tryz.func9, Tryz.ntmps9
  go_wp2_with (first
    | (go_at_call 13; refine HC.out.mono ?_; rintro e w1 ⟨rfl, H1⟩)
    | (go_at_call 19; refine (HL.out _ H1).mono ?_; rintro e w2 ⟨g, cap, rfl, H2⟩)
    | (go_at_call 20; refine (newMachine_begun _).mono ?_; rintro e w3 ⟨rfl, q1, q2, q3⟩; have H3 : Hid (McAt w3 (w2.heap.size + 1) (bm0 (.slice none 0 0) w2.heap.size) ∧ w3.ownsMap Tryz.prog 9 fileE w2.heap.size 0 (byD []) ∧ Below w2.heap.size w2 w3) := ⟨q1, q2, q3⟩; clear q1 q2 q3)
    | (go_at_call 21; refine (run_begun (.slice none 0 0) (w2.heap.size + 1) w2.heap.size g cap w3 H3.out.1 H3.out.2.1 (H2.out.2.keep (H3.out.2.2.block g H2.out.2.lt) H3.out.2.2.size) (by omega) (by have := H2.out.2.lt; omega)).mono ?_; rintro e w4 ⟨rfl, q1, q2, q3⟩; have H4 : Hid (McAt w4 (w2.heap.size + 1) (bm2 (.slice none 0 0) w2.heap.size) ∧ (∃ n', n' ≤ 1 ∧ w4.ownsMap Tryz.prog 9 fileE w2.heap.size n' (byD [bfl])) ∧ UpC (w2.heap.size + 1) w2.heap.size w3 w4) := ⟨q1, q2, q3⟩; clear q1 q2 q3)
    | go_in)
  obtain ⟨P, hP⟩ : ∃ P, P = w2.heap.size + 1 := ⟨_, rfl⟩
  rw [← hP] at H3 H4 ⊢
  have HPe : Hid (P = w2.heap.size + 1) := hP
  clear hP
  have m4 := H4.out.1
  have s1 : w4.cell? ⟨P, 13, none⟩ = some (.int .i64 0) := m4.c13
  have s2 : w4.cell? ⟨P, 10, none⟩ = some (.int .i64 98) := m4.c10
  have HM : Hid (Calls Tryz.prog 22 #[.pointer (some ⟨P, 0, none⟩)] w4.drew fun e w' => ∃ v, e = .returned v ∧ (w'.cell? ⟨P, 13, none⟩ = some (.int .i64 0) ∧ w'.cell? ⟨P, 10, none⟩ = some (.int .i64 98)) ∧ Hid (w'.ownsRow w4.heap.size 35 3 v 1 (flCells [bfl]) ∧ Below w4.heap.size w4 w')) := by
    obtain ⟨n', h1, h2⟩ := H4.out.2.1
    refine (madeFiles_any (bm2 (.slice none 0 0) w2.heap.size) P n' [bfl] w4.drew ⟨m4.at_, m4.len⟩ (ownsMap_heap h2 rfl) (by omega) (List.pairwise_singleton _ _) (by decide)).mono ?_
    rintro e w' ⟨v, k1, k2, k3⟩
    have k3 : Below w4.heap.size w4 w' := ⟨k3.os, k3.tape, k3.output, k3.size, k3.block⟩
    have m5 := m4.below k3
    exact ⟨v, k1, ⟨m5.c13, m5.c10⟩, k2, k3⟩
  have HS : Hid (w4.drew.cell? ⟨P, 13, none⟩ = some (.int .i64 0) ∧ w4.drew.cell? ⟨P, 10, none⟩ = some (.int .i64 98)) := ⟨s1, s2⟩
  clear m4
  go_region_held3 (fun V => V.cell? ⟨P, 13, none⟩ = some (.int .i64 0) ∧ V.cell? ⟨P, 10, none⟩ = some (.int .i64 98)) (first | assumption | exact HS.out | go_keep) (first
    | (go_at_call 22; refine HM.out.mono ?_; rintro e w5 ⟨v5, rfl, hS5, H5⟩)
    | fail)
  have hw2 : IntKind.i64.wrap 2 = 2 := by rw [IntKind.wrap_i64]; decide
  rw [hw2]
  go_wp2
  refine bodyPost_ret (v := .tuple #[v5, .int .i64 0, .int .i64 2, .int .i64 0]) (by simp [results, Tryz.results9]) rfl ?_
  have hb4 : Below w.heap.size w w4 := by
    have h1 := H1.out
    have h2 := H2.out.1
    have h3 := H3.out.2.2
    have h4 := H4.out.2.2
    have hp := HPe.out
    have s2 := h2.size
    have s1 := h1.size
    exact ⟨h4.os.trans (h3.os.trans (h2.os.trans h1.os)), h4.tape.trans (h3.tape.trans (h2.tape.trans h1.tape)), h4.output.trans (h3.output.trans (h2.output.trans h1.output)), Nat.le_trans s1 (Nat.le_trans s2 (Nat.le_trans h3.size h4.size)), fun b hb => (h4.block b (Nat.lt_of_lt_of_le (by omega) h3.size) (by omega) (by omega)).trans ((h3.block b (by omega)).trans ((h2.block b (by omega)).trans (h1.block b hb)))⟩
  exact ⟨v5, rfl, row_low H5.out.1 hb4.size, below_low hb4 H5.out.2 hb4.size⟩

theorem two_texts (w : World) : TxAt (w.alloc (.cells #[.string ⟨#[115, 101, 116, 32, 97, 32, 104, 105]⟩, .string ⟨#[109, 97, 107, 101, 32, 111, 117, 116, 32, 97]⟩] 9)) (some ⟨w.heap.size, 0, none⟩) [bs1, bs2] := by
  refine .inr ⟨w.heap.size, 0, rfl, by rw [World.size_alloc]; omega, fun j hj => ?_⟩
  rw [Nat.zero_add, Lib.cell_of_heap (heap_alloc_new w _)]
  match j, hj with
  | 0, _ => rfl
  | 1, _ => rfl
theorem one_text (w : World) : TxAt (w.alloc (.cells #[.string ⟨#[103, 111, 116, 111, 32, 53]⟩] 9)) (some ⟨w.heap.size, 0, none⟩) [bs3] := by
  refine .inr ⟨w.heap.size, 0, rfl, by rw [World.size_alloc]; omega, fun j hj => ?_⟩
  rw [Nat.zero_add, Lib.cell_of_heap (heap_alloc_new w _)]
  match j, hj with
  | 0, _ => rfl

set_option maxHeartbeats 4000000 in
set_option maxRecDepth 100000 in
theorem sbegun_any (w : World) (hm : MaxIs w) :
    Calls Tryz.prog 11 #[] w fun e w' => e = .returned (.bool true) ∧ Below w.heap.size w w' := by
  have hb1 : Below w.heap.size w (w.alloc (.cells #[.string ⟨#[115, 101, 116, 32, 97, 32, 104, 105]⟩, .string ⟨#[109, 97, 107, 101, 32, 111, 117, 116, 32, 97]⟩] 9)) := (Below.refl _ w).alloc (Nat.le_refl _) _
  have hR := Run_begun w.heap.size 2 _ (two_texts w) (hm.up hb1)
  have HR : Hid (Calls Tryz.prog 9 #[.slice none 0 0, .slice (some ⟨w.heap.size, 0, none⟩) 2 2, .int .i64 100] (w.alloc (.cells #[.string ⟨#[115, 101, 116, 32, 97, 32, 104, 105]⟩, .string ⟨#[109, 97, 107, 101, 32, 111, 117, 116, 32, 97]⟩] 9)) fun e w' => ∃ g cap, e = .returned (.tuple #[.slice (some ⟨g, 0, none⟩) 1 cap, .int .i64 0, .int .i64 2, .int .i64 0]) ∧ Hid (w'.cell? ⟨g, 1, none⟩ = some (.string ⟨#[104, 105]⟩) ∧ g < w'.heap.size ∧ Below w.heap.size w w')) := by
    refine hR.mono ?_
    rintro e w' ⟨v, k1, k2, k3⟩
    obtain ⟨g, cap, hv⟩ := own_block k2
    subst hv
    refine ⟨g, cap, k1, ?_, (k2.lt g rfl).2, below_low hb1 k3 hb1.size⟩
    have := k2.cells rfl 1 (.string ⟨#[104, 105]⟩) rfl
    rwa [addr_add, Nat.zero_add] at this
  have HC : Hid (∀ V, Hid (Below w.heap.size w V) → Calls Tryz.prog 26 #[.slice (some ⟨V.heap.size, 0, none⟩) 1 1] (V.alloc (.cells #[.string ⟨#[103, 111, 116, 111, 32, 53]⟩] 9)) fun e w' => e = .returned (.tuple #[.int .i64 0, .int .i64 1]) ∧ Hid (Below V.heap.size V w')) := by
    intro V hV
    have hb : Below V.heap.size V (V.alloc (.cells #[.string ⟨#[103, 111, 116, 111, 32, 53]⟩] 9)) := (Below.refl _ V).alloc (Nat.le_refl _) _
    refine (SCheck_any (some ⟨V.heap.size, 0, none⟩) 1 [bs3] _ (one_text V) ((hm.up hV.out).up hb) (by decide)).mono ?_
    rintro e w' ⟨k1, k2⟩
    rw [b_chk3] at k1
    exact ⟨k1, below_low hb k2 hb.size⟩
  clear hR hb1 hm
  go_enter Tryz.func11, Tryz.ntmps11
  go_wp2_with (first
    | (go_at_call 9; refine HR.out.mono ?_; rintro e w1 ⟨g, cap, rfl, H1⟩)
    | (go_at_call 26; refine (HC.out w1 H1.out.2.2).mono ?_; rintro e w2 ⟨rfl, H2⟩; have ct : w2.cell? ⟨g, 1, none⟩ = some (.string ⟨#[104, 105]⟩) := ((H2.out.cell (p := ⟨g, 1, none⟩) H1.out.2.1).trans H1.out.1))
    | go_in)
  go_ret
  exact ⟨rfl, below_low H1.out.2.2 H2.out H1.out.2.2.size⟩
end Go.Proofs.YtapiedeekbfpnaaGreatDoor

/- A machine runs whatever lines. -/
namespace Go.Proofs.YtapiedeekbfpnaaGreatDoor
open Go.RowKit Go.Shelf Go.Maps Go.WideMaps Go.Sort

/-- Lines in memory. -/
def LsAt (w : World) (lo : Option Addr) (ls : List Ln) : Prop := ls = [] ∨ ∃ g, lo = some ⟨g, 0, none⟩ ∧ g < w.heap.size ∧ ∀ j (hj : j < ls.length) i (v : Value), (lnC ls[j])[i]? = some v → w.cell? ⟨g, j * 7 + i, none⟩ = some v
theorem LsAt.keep {w w' : World} {lo : Option Addr} {ls : List Ln} (h : LsAt w lo ls) (hs : w.heap.size ≤ w'.heap.size) (hb : ∀ g, lo = some ⟨g, 0, none⟩ → g < w.heap.size → w'.heap[g]? = w.heap[g]?) : LsAt w' lo ls := by
  rcases h with h | ⟨g, h1, h2, h3⟩
  · exact .inl h
  · exact .inr ⟨g, h1, Nat.lt_of_lt_of_le h2 hs, fun j hj i v hv => (cell_same (hb g h1 h2) _).trans (h3 j hj i v hv)⟩
theorem lnCells_get (ls : List Ln) : ∀ j (hj : j < ls.length) i (v : Value), (lnC ls[j])[i]? = some v → (lnCells ls)[j * 7 + i]? = some v := by
  induction ls with
  | nil => intro j hj; simp at hj
  | cons l r ih =>
    intro j hj i v hv
    have e : lnCells (l :: r) = (lnC l).toList ++ lnCells r := rfl
    have e7 : (lnC l).toList.length = 7 := rfl
    rw [e]
    cases j with
    | zero =>
      have hi : i < 7 := (Array.getElem?_eq_some_iff.1 hv).1
      rw [List.getElem?_append_left (by omega)]
      simpa using hv
    | succ j =>
      rw [List.getElem?_append_right (by omega), e7]
      have := ih j (by simpa using hj) i v hv
      rw [show (j + 1) * 7 + i - 7 = j * 7 + i by omega]
      exact this
theorem ls_own {w : World} {B : Nat} {v : Value} {ls : List Ln} (h : w.ownsRow B 67 7 v ls.length (lnCells ls)) : ∃ lo cap, v = .slice lo ls.length cap ∧ LsAt w lo ls ∧ ∀ g, lo = some ⟨g, 0, none⟩ → g < w.heap.size := by
  rcases h.2 with ⟨h1, h2⟩ | ⟨g, cap, cur, hv, _, hh, _⟩
  · refine ⟨none, 0, ?_, .inl (List.length_eq_zero_iff.1 h2), fun g hg => by cases hg⟩
    rw [h1, h2]
  · subst hv
    refine ⟨some ⟨g, 0, none⟩, cap, rfl, .inr ⟨g, rfl, (h.lt g rfl).2, fun j hj i v hv => ?_⟩, fun g' hg => by injection hg with hg; injection hg with hg; have := (h.lt g rfl).2; omega⟩
    have := h.cells rfl (j * 7 + i) v (lnCells_get ls j hj i v hv)
    rwa [addr_add, Nat.zero_add] at this
theorem UpC.below {P M B : Nat} {w w' : World} (h : UpC P M w w') (hP : B ≤ P) (hM : B ≤ M) (hB : B ≤ w.heap.size) : Below B w w' := ⟨h.os, h.tape, h.output, h.size, fun g hg => h.block g (by omega) (by omega) (by omega)⟩
theorem UpC.pre {P M : Nat} {a b c : World} (h : Below a.heap.size a b) (k : UpC P M b c) : UpC P M a c := (⟨h.os, h.tape, h.output, h.size, fun g hg _ _ => h.block g hg⟩ : UpC P M a b).trans k
/-- What holds at the head of each round. -/
structure RnI (F : List Fl) (ls : List Ln) (ao : Option Addr) (cap P mp : Nat) (w1 : World) (R : Mc × List Fl) (kx : Nat) (m : Mc) (L : List Fl) (n : Nat) (wr : World) : Prop where
  mc : McAt wr P m
  own : wr.ownsMap Tryz.prog 9 fileE mp n (byD L)
  mpe : m.mp = mp
  fv : m.fv = .slice ao F.length cap
  ok : MOk m L
  nf : n + m.fuel + (if m.ended = true then 0 else 1) ≤ 100001
  go : m.ended = true ∨ m.fuel < kx
  res : runM F ls kx m L = R
  up : UpC P mp w1 wr
theorem RnI.step {F : List Fl} {ls : List Ln} {ao : Option Addr} {cap P mp : Nat} {w1 : World} {R : Mc × List Fl} {k : Nat} {m : Mc} {L : List Fl} {n : Nat} {wr W w4 : World} (h : RnI F ls ao cap P mp w1 R (k + 1) m L n wr)
    (hs : stp ls m = false) (hp : PaOk (lnAt ls m)) (hW : UpC P mp wr W) {e : Ending} (hd : DeP P mp n (doM F L (nxM m) (lnAt ls m)) (doL L (nxM m) (lnAt ls m)) W e w4) : ∃ m' L' n', RnI F ls ao cap P mp w1 R k m' L' n' w4 := by
  obtain ⟨_, d1, ⟨n', d2, d3⟩, d4⟩ := hd
  have g := do_goes F L (nxM m) (lnAt ls m)
  have he : m.ended = false := by unfold stp at hs; rw [Bool.or_eq_false_iff] at hs; exact hs.1
  have hnf := h.nf
  rw [he, if_neg (by simp)] at hnf
  have hgo : m.fuel < k + 1 := h.go.resolve_left (by rw [he]; simp)
  have g1 : (doM F L (nxM m) (lnAt ls m)).fuel < m.fuel ∨ (doM F L (nxM m) (lnAt ls m)).ended = true := g.1
  have g2 : (doM F L (nxM m) (lnAt ls m)).fuel ≤ m.fuel := g.2.1
  refine ⟨_, _, n', d1, d3, g.2.2.2.1.trans h.mpe, g.2.2.2.2.trans h.fv, MOk.do (show MOk (nxM m) L from h.ok.tx_same rfl) _ hp, ?_, ?_, ?_, (h.up.trans hW).trans d4⟩
  · split
    · omega
    · rename_i hne
      have := g1.resolve_right hne
      omega
  · rcases g1 with g1 | g1
    · exact .inr (by omega)
    · exact .inl g1
  · rw [← h.res, runM_go F ls m L hs k]
/-- How a run ends. -/
def RunP (F : List Fl) (ls : List Ln) (P mp : Nat) (m0 : Mc) (w : World) (e : Ending) (w' : World) : Prop :=
  e = .returned (.tuple #[]) ∧ ∃ m L n, Hid (runM F ls (m0.fuel + 1) m0 [] = (m, L) ∧ McAt w' P m ∧ MOk m L ∧ n ≤ 100001 ∧ w'.ownsMap Tryz.prog 9 fileE mp n (byD L) ∧ UpC P mp w w' ∧ m.fuel ≤ m0.fuel)

theorem run_fuel {F : List Fl} {ls : List Ln} : ∀ (k : Nat) (m : Mc) (L : List Fl), (runM F ls k m L).1.fuel ≤ m.fuel
  | 0, _, _ => Nat.le_refl _
  | k + 1, m, L => by
    unfold runM
    split
    · exact Nat.le_refl _
    · exact Nat.le_trans (run_fuel k _ _) (do_goes F L (nxM m) (lnAt ls m)).2.1

set_option maxHeartbeats 4000000 in
set_option maxRecDepth 100000 in
theorem run_any (F : List Fl) (ls : List Ln) (ao lo : Option Addr) (cap lcap P mp : Nat) (m0 : Mc) (w0 w : World) (hb0 : Below w0.heap.size w0 w) (hP : w0.heap.size ≤ P) (hmp : w0.heap.size ≤ mp) (hne : mp ≠ P) (he : Env w0) (hl : IsFl w0 ao F) (hF : TrOk F)
    (h : McAt w P m0) (hm0 : m0.mp = mp) (hfv : m0.fv = .slice ao F.length cap) (hok : MOk m0 []) (hend : m0.ended = false) (hfu : m0.fuel ≤ 100000) (ho : w.ownsMap Tryz.prog 9 fileE mp 0 (byD []))
    (hls : LsAt w lo ls) (hlg : ∀ g, lo = some ⟨g, 0, none⟩ → g ≠ P ∧ g ≠ mp) (hln : ls.length ≤ 1000) (hlo : ∀ l ∈ ls, LnOk l ∧ PaOk l ∧ (∃ f, frmF l.wd.data.toList = some f) ∧ l.wd.size ≤ 100000) :
    Calls Tryz.prog 21 #[.pointer (some ⟨P, 0, none⟩), .slice lo ls.length lcap] w (RunP F ls P mp m0 w) := by
  have HND : Hid (Calls Tryz.prog 36 #[.pointer (some ⟨P, 0, none⟩)] w fun e w' => ∃ M bx, e = .returned (.map (some M)) ∧ Hid (DdI w.heap.size M bx P w 13 w')) := (newDeeds_any P w).mono fun e w' q => by obtain ⟨M, bx, q1, q2⟩ := q; exact ⟨M, bx, q1, q2⟩
  have HH : Hid (McAt w P m0 ∧ w.ownsMap Tryz.prog 9 fileE mp 0 (byD []) ∧ LsAt w lo ls ∧ m0.mp = mp ∧ m0.fv = .slice ao F.length cap ∧ MOk m0 [] ∧ m0.ended = false ∧ m0.fuel ≤ 100000) := ⟨h, ho, hls, hm0, hfv, hok, hend, hfu⟩
  have HE : Hid (∀ (V : World), Below w0.heap.size w0 V → Env V ∧ IsFl V ao F) := fun V hV => ⟨he.up hV, hl.below hV (Nat.le_refl _)⟩
  have HB0 : Hid (Below w0.heap.size w0 w ∧ w0.heap.size ≤ P ∧ w0.heap.size ≤ mp ∧ mp ≠ P) := ⟨hb0, hP, hmp, hne⟩
  have HLO : Hid ((∀ l ∈ ls, LnOk l ∧ PaOk l ∧ (∃ f, frmF l.wd.data.toList = some f) ∧ l.wd.size ≤ 100000) ∧ TrOk F ∧ ∀ g, lo = some ⟨g, 0, none⟩ → g ≠ P ∧ g ≠ mp) := ⟨hlo, hF, hlg⟩
  have HLN : Hid (ls.length ≤ 1000) := hln
  have hlni : (ls.length : Int) ≤ 1000 := by omega
  clear hb0 hP hmp hne he hl hF h hm0 hfv hok hend hfu ho hls hlg hln hlo
  go_enter Tryz.func21, Tryz.ntmps21
  go_wp2_with (first
    | (go_at_call 36; refine HND.out.mono ?_; rintro e w1 ⟨M, bx, rfl, HD⟩)
    | go_in)
  have hb1 := HD.out.bel
  have hlo := HD.out.lo
  have hMl := HD.out.lt
  have H1 : Hid (RnI F ls ao cap P mp w1 (runM F ls (m0.fuel + 1) m0 []) (m0.fuel + 1) m0 [] 0 w1) := by
    refine ⟨HH.out.1.below hb1, ownsMap_heap HH.out.2.1 (hb1.block mp HH.out.2.1.lt), HH.out.2.2.2.1, HH.out.2.2.2.2.1, HH.out.2.2.2.2.2.1, ?_, .inr (by omega), rfl, ⟨rfl, rfl, rfl, Nat.le_refl _, fun _ _ _ _ => rfl⟩⟩
    rw [HH.out.2.2.2.2.2.2.1, if_neg (by simp)]
    have := HH.out.2.2.2.2.2.2.2
    omega
  have HG : Hid (LsAt w1 lo ls ∧ P < w.heap.size ∧ mp < w.heap.size ∧ w.heap.size ≤ bx ∧ bx < M ∧ M < w1.heap.size ∧ bx < w1.heap.size) := ⟨HH.out.2.2.1.keep hb1.size (fun g _ hg => hb1.block g hg), HH.out.1.lt, HH.out.2.1.lt, hlo.1, hlo.2, hMl, by omega⟩
  have HB1 : Hid (Below w0.heap.size w0 w1) := below_low HB0.out.1 hb1 HB0.out.1.size
  have HBW : Hid (Below w.heap.size w w1) := hb1
  clear hb1 hlo hMl
  go_loopg [5] (m0.fuel + 1) (fun kx _ wr => ∃ m L n q, q ≤ kx ∧ Hid (RnI F ls ao cap P mp w1 (runM F ls (m0.fuel + 1) m0 []) q m L n wr))
  case atStart => exact ⟨m0, [], 0, _, Nat.le_refl _, H1⟩
  case round =>
    obtain ⟨m, L, n, q, hq, HR⟩ := hrel
    have c11 := HR.out.mc.c11
    have c12 := HR.out.mc.c12
    have fin : stp ls m = true → Hid (∃ m' L' n', runM F ls (m0.fuel + 1) m0 [] = (m', L') ∧ McAt wr P m' ∧ MOk m' L' ∧ n' ≤ 100001 ∧ wr.ownsMap Tryz.prog 9 fileE mp n' (byD L') ∧ UpC P mp w wr ∧ m'.fuel ≤ m0.fuel) := fun hs => by
      have e := HR.out.res
      rw [runM_stp F ls m L hs] at e
      refine ⟨m, L, n, e.symm, HR.out.mc, HR.out.ok, by have := HR.out.nf; omega, HR.out.own, UpC.pre HBW.out HR.out.up, ?_⟩
      have := run_fuel (F := F) (ls := ls) (m0.fuel + 1) m0 []
      rw [← e] at this
      exact this
    have FIN : Hid (stp ls m = true → Hid (∃ m' L' n', runM F ls (m0.fuel + 1) m0 [] = (m', L') ∧ McAt wr P m' ∧ MOk m' L' ∧ n' ≤ 100001 ∧ wr.ownsMap Tryz.prog 9 fileE mp n' (byD L') ∧ UpC P mp w wr ∧ m'.fuel ≤ m0.fuel)) := fin
    clear fin
    cases hE : m.ended with
    | true =>
      rw [hE] at c12
      have HF := FIN.out (by unfold stp; rw [hE]; rfl)
      clear hE
      go_wp2
      go_end0
      obtain ⟨m', L', n', hh⟩ := HF.out
      exact ⟨rfl, m', L', n', hh⟩
    | false =>
      rw [hE] at c12
      by_cases hn : m.next < ls.length
      · have hs : stp ls m = false := by unfold stp; rw [hE, decide_eq_false (by omega)]; rfl
        have hmem : lnAt ls m ∈ ls := by
          unfold lnAt
          rw [List.getD_eq_getElem?_getD, List.getElem?_eq_getElem hn]
          exact List.getElem_mem hn
        obtain ⟨o1, o2, ⟨fr, o3⟩, o4⟩ := HLO.out.1 _ hmem
        obtain ⟨k, hk⟩ : ∃ k, q = k + 1 := ⟨q - 1, by have := HR.out.go.resolve_left (by rw [hE]; simp); omega⟩
        subst hk
        have HSt : Hid (stp ls m = false ∧ PaOk (lnAt ls m)) := ⟨hs, o2⟩
        obtain ⟨g, rfl, hg, hcl⟩ : ∃ g, lo = some ⟨g, 0, none⟩ ∧ g < wr.heap.size ∧ ∀ j (hj : j < ls.length) i (v : Value), (lnC ls[j])[i]? = some v → wr.cell? ⟨g, j * 7 + i, none⟩ = some v := by
          rcases HG.out.1.keep HR.out.up.size (fun g e hg => HR.out.up.block g hg (HLO.out.2.2 g e).1 (HLO.out.2.2 g e).2) with h | h
          · rw [h] at hn; simp at hn
          · exact h
        have hcl := hcl m.next hn
        have hla : ls[m.next] = lnAt ls m := by
          unfold lnAt
          rw [List.getD_eq_getElem?_getD, List.getElem?_eq_getElem hn]
          rfl
        rw [hla] at hcl
        obtain ⟨r1, r2, r3, r4, r5⟩ := rd HR.out.mc (lnAt ls m) (m.next + 1)
        have hu5 : UpC P mp wr ((wr.alloc (.cells (lnC (lnAt ls m)) 67)).setCell ⟨P, 11, none⟩ (.int .i64 ((m.next + 1 : Nat) : Int))) := UpC.of r5
        obtain ⟨j, N, k1, k2, k3⟩ := look_deed HD.out (lnAt ls m).wd (by unfold maxLen; omega) o3
        have hsz := HR.out.up.size
        have hMk : ((wr.alloc (.cells (lnC (lnAt ls m)) 67)).setCell ⟨P, 11, none⟩ (.int .i64 ((m.next + 1 : Nat) : Int))).heap[M]? = w1.heap[M]? := (hu5.block M (by have := HG.out; omega) (by have := HG.out; omega) (by have := HG.out; omega)).trans (HR.out.up.block M HG.out.2.2.2.2.2.1 (by have := HG.out; omega) (by have := HG.out; omega))
        have hxk : ((wr.alloc (.cells (lnC (lnAt ls m)) 67)).setCell ⟨P, 11, none⟩ (.int .i64 ((m.next + 1 : Nat) : Int))).cell? ⟨bx, 0, none⟩ = some (.pointer (some ⟨P, 0, none⟩)) := (cell_same ((hu5.block bx (by have := HG.out; omega) (by have := HG.out; omega) (by have := HG.out; omega)).trans (HR.out.up.block bx HG.out.2.2.2.2.2.2 (by have := HG.out; omega) (by have := HG.out; omega))) 0).trans HD.out.env
        have hlk := k3 _ hMk
        have hB2 : Below w0.heap.size w0 ((wr.alloc (.cells (lnC (lnAt ls m)) 67)).setCell ⟨P, 11, none⟩ (.int .i64 ((m.next + 1 : Nat) : Int))) := HB1.out.trans ((HR.out.up.trans hu5).below HB0.out.2.1 HB0.out.2.2.1 HB1.out.size)
        obtain ⟨e1, e2⟩ := HE.out _ hB2
        have hmo : MOk (nxM m) L := HR.out.ok.tx_same rfl
        have hown2 := ownsMap_heap HR.out.own (r5.block mp HR.out.own.lt HB0.out.2.2.2)
        have hnf := HR.out.nf
        have hdd := deed_all F L (nxM m) P bx n ao cap (lnAt ls m) _ r3 hxk (by have := HG.out; omega) (show m.mp ≠ P by rw [HR.out.mpe]; exact HB0.out.2.2.2) HR.out.fv e2 HLO.out.2.1 hmo (show m.fuel ≤ 1000000 by omega) o1 e1 (show World.ownsMap _ _ _ _ m.mp _ _ by rw [HR.out.mpe]; exact hown2) (by omega) k1 k2
        have hdd2 : Calls Tryz.prog N #[.agg (lnC (lnAt ls m)), .pointer (some ⟨bx, 0, none⟩)] ((wr.alloc (.cells (lnC (lnAt ls m)) 67)).setCell ⟨P, 11, none⟩ (.int .i64 ((m.next + 1 : Nat) : Int))) (DeP P mp n (doM F L (nxM m) (lnAt ls m)) (doL L (nxM m) (lnAt ls m)) ((wr.alloc (.cells (lnC (lnAt ls m)) 67)).setCell ⟨P, 11, none⟩ (.int .i64 ((m.next + 1 : Nat) : Int)))) := by
          have em : (nxM m).mp = mp := HR.out.mpe
          rw [em] at hdd
          exact hdd
        have eg := deed_enters k2
        obtain ⟨⟨b0, _⟩, ⟨b1, _⟩, ⟨b2, _⟩, ⟨b3, _⟩, ⟨b4, _⟩, ⟨b5, _⟩, ⟨b6, _⟩⟩ := ln_cells r4
        have HST : Hid (∀ {e : Ending} {w4 : World}, DeP P mp n (doM F L (nxM m) (lnAt ls m)) (doL L (nxM m) (lnAt ls m)) ((wr.alloc (.cells (lnC (lnAt ls m)) 67)).setCell ⟨P, 11, none⟩ (.int .i64 ((m.next + 1 : Nat) : Int))) e w4 → Hid (e = .returned (.tuple #[]) ∧ ∃ m' L' n', RnI F ls ao cap P mp w1 (runM F ls (m0.fuel + 1) m0 []) k m' L' n' w4)) := fun {e w4} hd => ⟨hd.1, HR.out.step HSt.out.1 HSt.out.2 hu5 hd⟩
        have a0 : wr.cell? ⟨g, m.next * 7, none⟩ = some (.string (lnAt ls m).wd) := hcl 0 _ rfl
        have a1 : wr.cell? ⟨g, m.next * 7 + 1, none⟩ = some (.int .i64 ((lnAt ls m).r : Int)) := hcl 1 _ rfl
        have a2 : wr.cell? ⟨g, m.next * 7 + 2, none⟩ = some (.int .i64 ((lnAt ls m).s : Int)) := hcl 2 _ rfl
        have a3 : wr.cell? ⟨g, m.next * 7 + 3, none⟩ = some (.string (lnAt ls m).pa) := hcl 3 _ rfl
        have a4 : wr.cell? ⟨g, m.next * 7 + 4, none⟩ = some (.string (lnAt ls m).tx) := hcl 4 _ rfl
        have a5 : wr.cell? ⟨g, m.next * 7 + 5, none⟩ = some (.int .i64 ((lnAt ls m).n : Int)) := hcl 5 _ rfl
        have a6 : wr.cell? ⟨g, m.next * 7 + 6, none⟩ = some (.int .i64 ((lnAt ls m).m : Int)) := hcl 6 _ rfl
        generalize lnAt ls m = l at *
        obtain ⟨y, hy⟩ : ∃ y, m.next + 1 = y := ⟨_, rfl⟩
        rw [hy] at hlk b0 b1 b2 b3 b4 b5 b6 hdd2 HST
        have hy1 : (m.next : Int) + 1 = (y : Int) := by omega
        have hy2 : IntKind.i64.wrap (y : Int) = (y : Int) := by rw [IntKind.wrap_i64]; have := HLN.out; omega
        have hni : (m.next : Int) < (ls.length : Int) := by omega
        generalize m.next = nx at *
        clear hcl hla hmem hs o1 o2 o3 o4 hE hn hy k1 k2 k3 hMk hxk hB2 e1 e2 hmo hown2 hnf hdd r3 r4 r5 hu5 hsz hg
        unfold lnC at *
        go_wp2_with (first
          | (go_at_fn N; refine hdd2.mono ?_; rintro e w4 hd4; have H4 := HST.out hd4; obtain rfl := H4.out.1; clear hd4)
          | go_in)
        obtain ⟨m', L', n', H5⟩ := H4.out.2
        go_roundg k
        case measure => omega
        case rel => exact ⟨m', L', n', k, Nat.le_refl _, H5⟩
      · have HF := FIN.out (by unfold stp; rw [decide_eq_true (show ls.length ≤ m.next by omega)]; simp)
        have hni : ¬ (m.next : Int) < (ls.length : Int) := by omega
        generalize (m.next : Int) = nx at *
        clear hE hn
        go_wp2
        go_end0
        obtain ⟨m', L', n', hh⟩ := HF.out
        exact ⟨rfl, m', L', n', hh⟩
end Go.Proofs.YtapiedeekbfpnaaGreatDoor

/- Run, whole: what it answers of whatever it is handed. -/
namespace Go.Proofs.YtapiedeekbfpnaaGreatDoor
open Go.RowKit Go.Shelf Go.Maps Go.WideMaps Go.Sort

/-- The same machine with its files, and its map, elsewhere. -/
def setM (fv : Value) (mp : Nat) (m : Mc) : Mc := { m with fv := fv, mp := mp }
section
variable (fv : Value) (mp : Nat) (m : Mc)
theorem burn_set (b : Nat) : burnM (setM fv mp m) b = (setM fv mp (burnM m b).1, (burnM m b).2) := by
  unfold burnM
  show (if m.fuel < _ then _ else _) = _
  split <;> rfl
theorem end_set (c : Nat) : endM (setM fv mp m) c = setM fv mp (endM m c) := by
  unfold endM
  rw [burn_set]
  simp only
  split <;> rfl
theorem put_set (r : Nat) (t : ByteArray) : putM (setM fv mp m) r t = setM fv mp (putM m r t) := by
  unfold putM
  rw [burn_set]
  simp only
  split
  · exact end_set fv mp m 102
  · split <;> rfl
theorem go_set (b : Bool) (n : Nat) : goM (setM fv mp m) b n = setM fv mp (goM m b n) := by
  unfold goM
  rw [burn_set]
  simp only
  split <;> rfl
theorem mk_set (L : List Fl) (f : Fl) : mkM (setM fv mp m) L f = setM fv mp (mkM m L f) := by
  unfold mkM
  rw [burn_set]
  split
  · rfl
  · exact end_set fv mp m 103
theorem mkL_set (L : List Fl) (f : Fl) : mkL (setM fv mp m) L f = mkL m L f := by
  unfold mkL
  rw [burn_set]
theorem do_set (F L : List Fl) (l : Ln) : doM F L (setM fv mp m) l = setM fv mp (doM F L m l) := by
  have e : ∀ i, txF (setM fv mp m) i = txF m i := fun _ => rfl
  unfold doM
  simp only [e]
  split
  · exact put_set _ _ _ _ _
  · split
    · exact end_set _ _ _ _
    · exact put_set _ _ _ _ _
  · exact put_set _ _ _ _ _
  · exact put_set _ _ _ _ _
  · exact put_set _ _ _ _ _
  · exact put_set _ _ _ _ _
  · exact put_set _ _ _ _ _
  · exact mk_set _ _ _ _ _
  · exact mk_set _ _ _ _ _
  · exact go_set _ _ _ _ _
  · exact go_set _ _ _ _ _
  · exact go_set _ _ _ _ _
  · exact end_set _ _ _ _
theorem doL_set (L : List Fl) (l : Ln) : doL L (setM fv mp m) l = doL L m l := by
  have e : ∀ i, txF (setM fv mp m) i = txF m i := fun _ => rfl
  unfold doL
  simp only [e, mkL_set]
end
theorem run_set (fv : Value) (mp : Nat) (F : List Fl) (ls : List Ln) : ∀ (k : Nat) (m : Mc) (L : List Fl), runM F ls k (setM fv mp m) L = (setM fv mp (runM F ls k m L).1, (runM F ls k m L).2)
  | 0, m, L => rfl
  | k + 1, m, L => by
    unfold runM
    have e1 : stp ls (setM fv mp m) = stp ls m := rfl
    have e2 : lnAt ls (setM fv mp m) = lnAt ls m := rfl
    have e3 : nxM (setM fv mp m) = setM fv mp (nxM m) := rfl
    rw [e1, e2, e3, do_set, doL_set]
    split
    · rfl
    · exact run_set fv mp F ls k _ _
/-- A machine at its beginning. -/
def mz (fuel : Nat) : Mc := ⟨.slice none 0 0, 0, List.replicate 8 ⟨#[]⟩, fuel, 0, false, 0⟩
theorem mz_ok (fuel : Nat) : MOk (mz fuel) [] := ⟨rfl, fun t ht => by rw [List.eq_of_mem_replicate ht]; show (0 : Nat) ≤ _; omega, TrOk.nil⟩
/-- What lines come to. -/
def rnR (F : List Fl) (ls : List Ln) (fuel : Nat) : Mc × List Fl := runM F ls (fuel + 1) (mz fuel) []
/-- What Run answers: its error; the files; the code; what was burnt. -/
def rnE (F : List Fl) (ss : List ByteArray) (fuel : Int) : Int := if chF F ≠ 0 then chF F else if (chkF ss).2 ≠ 0 then ((chkF ss).2 : Int) else if fuel < 0 ∨ 100000 < fuel then 3 else 0
def rnL (F : List Fl) (ss : List ByteArray) (fuel : Int) : List Fl := if rnE F ss fuel = 0 then (rnR F (lnsF ss.length ss) fuel.toNat).2 else []
def rnC (F : List Fl) (ss : List ByteArray) (fuel : Int) : Nat := if rnE F ss fuel = 0 then (rnR F (lnsF ss.length ss) fuel.toNat).1.code else 0
def rnS (F : List Fl) (ss : List ByteArray) (fuel : Int) : Nat := if rnE F ss fuel = 0 then fuel.toNat - (rnR F (lnsF ss.length ss) fuel.toNat).1.fuel else 0
/-- How Run ends. -/
def RnP (F : List Fl) (ss : List ByteArray) (fuel : Int) (w : World) (e : Ending) (w' : World) : Prop :=
  ∃ ra rc, e = .returned (.tuple #[.slice ra (rnL F ss fuel).length rc, .int .i64 (rnC F ss fuel : Int), .int .i64 (rnS F ss fuel : Int), .int .i64 (rnE F ss fuel)]) ∧ Hid (w'.ownsRow w.heap.size 35 3 (.slice ra (rnL F ss fuel).length rc) (rnL F ss fuel).length (flCells (rnL F ss fuel))) ∧ Hid (Below w.heap.size w w')
theorem rnP_err {F : List Fl} {ss : List ByteArray} {fuel : Int} {w w' : World} {er : Int} (he : rnE F ss fuel = er) (h0 : er ≠ 0) (hb : Below w.heap.size w w') : RnP F ss fuel w (.returned (.tuple #[.slice none 0 0, .int .i64 0, .int .i64 0, .int .i64 er])) w' := by
  have e1 : rnL F ss fuel = [] := by unfold rnL; rw [if_neg (by rw [he]; exact h0)]
  have e2 : rnC F ss fuel = 0 := by unfold rnC; rw [if_neg (by rw [he]; exact h0)]
  have e3 : rnS F ss fuel = 0 := by unfold rnS; rw [if_neg (by rw [he]; exact h0)]
  unfold RnP
  rw [e1, e2, e3, he]
  exact ⟨none, 0, rfl, ⟨rfl, .inl ⟨rfl, rfl⟩⟩, hb⟩

set_option maxHeartbeats 2000000 in
set_option maxRecDepth 100000 in
theorem newMachine_any (ao : Option Addr) (n cap fuel : Nat) (w : World) :
    Calls Tryz.prog 20 #[.slice ao n cap, .int .i64 (fuel : Int)] w fun e w' => e = .returned (.pointer (some ⟨w.heap.size + 1, 0, none⟩)) ∧ McAt w' (w.heap.size + 1) (setM (.slice ao n cap) w.heap.size (mz fuel)) ∧ w'.ownsMap Tryz.prog 9 fileE w.heap.size 0 (byD []) ∧ Below w.heap.size w w' := by
  have hmm := @run_makeMap Tryz.prog
  have h1 : ∀ o : Obj, Below w.heap.size w ((w.alloc (.map #[] 0)).alloc o) := fun o => ((Below.refl _ w).alloc (Nat.le_refl _) _).alloc (by rw [World.size_alloc]; omega) _
  have h2 : ∀ o : Obj, ((w.alloc (.map #[] 0)).alloc o).ownsMap Tryz.prog 9 fileE w.heap.size 0 (byD []) := fun o => (World.ownsMap_made (H := Unit) w Tryz.prog 9 fileE).alloc o
  have h3 : ∀ cs : Array Value, cs = (mcL (setM (.slice ao n cap) w.heap.size (mz fuel))).toArray → McAt ((w.alloc (.map #[] 0)).alloc (.cells cs 52)) (w.heap.size + 1) (setM (.slice ao n cap) w.heap.size (mz fuel)) := fun cs e => by
    refine ⟨?_, rfl⟩
    have := heap_alloc_new (w.alloc (.map #[] 0)) (.cells cs 52)
    rw [World.size_alloc] at this
    rw [this, e]
  have H1 : Hid (∀ o : Obj, Below w.heap.size w ((w.alloc (.map #[] 0)).alloc o)) := h1
  have H2 : Hid (∀ o : Obj, ((w.alloc (.map #[] 0)).alloc o).ownsMap Tryz.prog 9 fileE w.heap.size 0 (byD [])) := h2
  have H3 : Hid (∀ cs : Array Value, cs = (mcL (setM (.slice ao n cap) w.heap.size (mz fuel))).toArray → McAt ((w.alloc (.map #[] 0)).alloc (.cells cs 52)) (w.heap.size + 1) (setM (.slice ao n cap) w.heap.size (mz fuel))) := h3
  clear h1 h2 h3
  go_enter Tryz.func20, Tryz.ntmps20
  go_wp2
  go_ret
  exact ⟨rfl, H3.out _ rfl, H2.out _, H1.out _⟩

theorem lns_ok {ss : List ByteArray} (h : (chkF ss).2 = 0) : ss.length ≤ 60 ∧ ∀ l ∈ lnsF ss.length ss, LnOk l ∧ PaOk l ∧ (∃ f, frmF l.wd.data.toList = some f) ∧ l.wd.size ≤ 100000 := by
  unfold chkF at h
  split at h
  · cases h
  · rename_i hn
    have hlen : ss.length ≤ 60 := Nat.le_of_not_lt fun h => hn (.inl h)
    refine ⟨hlen, fun l hl => ?_⟩
    obtain ⟨s, hs, e⟩ := List.mem_filterMap.1 hl
    have hsz : s.data.toList.length ≤ 100000 := by
      rw [Array.length_toList]
      exact Nat.le_of_not_lt fun h => hn (.inr ⟨s, hs, h⟩)
    obtain ⟨o1, f, o2, o3⟩ := linF_ok hsz e
    refine ⟨o1, lin_pa hsz e, ⟨f, ?_⟩, ?_⟩
    · rw [o3]
      simpa [bA] using o2
    · rw [o3]
      have h1 : (bA (Lib.cut s.data.toList [32]).1).size = (Lib.cut s.data.toList [32]).1.length := List.size_toArray
      obtain ⟨r, hr⟩ := wdL_cut s.data.toList
      have h2 := wdL_mem s.data.toList [] (Lib.cut s.data.toList [32]).1 (by rw [hr]; exact List.mem_cons_self)
      simp at h2
      rw [h1]
      have h3 : s.data.toList.length = s.data.size := Array.length_toList
      have h4 : s.data.size = s.size := rfl
      omega

set_option maxHeartbeats 8000000 in
set_option maxRecDepth 100000 in
theorem Run_any (ao co : Option Addr) (cap ccap : Nat) (F : List Fl) (ss : List ByteArray) (fuel : Int) (w : World) (hl : IsFl w ao F) (ht : TxAt w co ss) (he : Env w) (hlen : ss.length ≤ 4611686018427387904) (hf1 : -9223372036854775808 ≤ fuel) (hf2 : fuel ≤ 9223372036854775807) :
    Calls Tryz.prog 9 #[.slice ao F.length cap, .slice co ss.length ccap, .int .i64 fuel] w (RnP F ss fuel w) := by
  have HC : Hid (Calls Tryz.prog 13 #[.slice ao F.length cap] w fun e w' => e = .returned (.int .i64 (chF F)) ∧ Hid (Below w.heap.size w w')) := Check_any ao cap F w hl he.1
  have HL : Hid (∀ V, Hid (Below w.heap.size w V) → Calls Tryz.prog 19 #[.slice co ss.length ccap] V fun e w' => ∃ v, e = .returned (.tuple #[v, .int .i64 ((chkF ss).1 : Int), .int .i64 ((chkF ss).2 : Int)]) ∧ Hid (Below w.heap.size w w' ∧ ((chkF ss).2 = 0 → w'.ownsRow V.heap.size 67 7 v ss.length (lnCells (lnsF ss.length ss)) ∧ (lnsF ss.length ss).length = ss.length))) := fun V hV =>
    (linesOf_any co ccap ss V (ht.below hV.out) (he.up hV.out).1 hlen).mono fun e w' ⟨v, q1, q2, q3⟩ => ⟨v, q1, below_low hV.out q2 hV.out.size, q3⟩
  have HK : Hid (IsFl w ao F ∧ Env w) := ⟨hl, he⟩
  have HER : Hid (rnE F ss fuel = if chF F ≠ 0 then chF F else if (chkF ss).2 ≠ 0 then ((chkF ss).2 : Int) else if fuel < 0 ∨ 100000 < fuel then 3 else 0) := rfl
  clear hl ht he hlen
  obtain ⟨c, hc⟩ : ∃ c, chF F = c := ⟨_, rfl⟩
  have HCF : Hid (chF F = c) := hc
  rw [hc] at HC HER
  obtain ⟨d, hd⟩ : ∃ d, (chkF ss).2 = d := ⟨_, rfl⟩
  have HDF : Hid ((chkF ss).2 = d) := hd
  rw [hd] at HL HER
  generalize (chkF ss).1 = d1 at HL
  clear hc hd
  by_cases hc0 : c = 0
  · subst hc0
    rw [if_neg (by simp)] at HER
    by_cases hd0 : d = 0
    · subst hd0
      rw [if_neg (by simp)] at HER
      by_cases hr : fuel < 0 ∨ 100000 < fuel
      · rw [if_pos hr] at HER
        by_cases hneg : fuel < 0
        · clear hr
          go_enter Tryz.func9, Tryz.ntmps9
          go_wp2_with (first
            | (go_at_call 13; refine HC.out.mono ?_; rintro e w1 ⟨rfl, H1⟩)
            | (go_at_call 19; refine (HL.out _ H1).mono ?_; rintro e w2 ⟨v, rfl, H2⟩)
            | go_in)
          refine bodyPost_ret (v := .tuple #[.slice none 0 0, .int .i64 0, .int .i64 0, .int .i64 3]) (by simp [results, Tryz.results9]) rfl ?_
          exact rnP_err HER.out (by decide) H2.out.1
        · have hbig : 100000 < fuel := hr.resolve_left hneg
          have hneg2 : 0 ≤ fuel := by omega
          clear hr hneg
          go_enter Tryz.func9, Tryz.ntmps9
          go_wp2_with (first
            | (go_at_call 13; refine HC.out.mono ?_; rintro e w1 ⟨rfl, H1⟩)
            | (go_at_call 19; refine (HL.out _ H1).mono ?_; rintro e w2 ⟨v, rfl, H2⟩)
            | go_in)
          refine bodyPost_ret (v := .tuple #[.slice none 0 0, .int .i64 0, .int .i64 0, .int .i64 3]) (by simp [results, Tryz.results9]) rfl ?_
          exact rnP_err HER.out (by decide) H2.out.1
      · rw [if_neg hr] at HER
        obtain ⟨fu, rfl⟩ : ∃ fu : Nat, fuel = (fu : Int) := ⟨fuel.toNat, by omega⟩
        have hfu : fu ≤ 100000 := by omega
        have hfui : (fu : Int) ≤ 100000 := by omega
        have hfu0 : (0 : Int) ≤ (fu : Int) := by omega
        have hFok : TrOk F := TrOk.of HCF.out
        obtain ⟨hss, hlns⟩ := lns_ok HDF.out
        have HR : Hid (∀ (w1 w2 w3 : World) (v : Value), Below w.heap.size w w2 → (w2.ownsRow w1.heap.size 67 7 v ss.length (lnCells (lnsF ss.length ss)) ∧ (lnsF ss.length ss).length = ss.length) → McAt w3 (w2.heap.size + 1) (setM (.slice ao F.length cap) w2.heap.size (mz fu)) → w3.ownsMap Tryz.prog 9 fileE w2.heap.size 0 (byD []) → Below w2.heap.size w2 w3 →
            Calls Tryz.prog 21 #[.pointer (some ⟨w2.heap.size + 1, 0, none⟩), v] w3 fun e w' => e = .returned (.tuple #[]) ∧ Hid (∃ m L n, rnR F (lnsF ss.length ss) fu = (m, L) ∧ McAt w' (w2.heap.size + 1) (setM (.slice ao F.length cap) w2.heap.size m) ∧ MOk m L ∧ n ≤ 100001 ∧ w'.ownsMap Tryz.prog 9 fileE w2.heap.size n (byD L) ∧ Below w2.heap.size w2 w' ∧ m.fuel ≤ fu)) := by
          intro w1 w2 w3 v hb2 hrow hmc hown hb3
          obtain ⟨hrow, hle⟩ := hrow
          have hrow : w2.ownsRow w1.heap.size 67 7 v (lnsF ss.length ss).length (lnCells (lnsF ss.length ss)) := by rw [hle]; exact hrow
          obtain ⟨lo, lcap, rfl, hls, hge⟩ := ls_own hrow
          have hls3 : LsAt w3 lo (lnsF ss.length ss) := hls.keep hb3.size (fun g _ hg => hb3.block g hg)
          refine (run_any F (lnsF ss.length ss) ao lo cap lcap (w2.heap.size + 1) w2.heap.size (setM (.slice ao F.length cap) w2.heap.size (mz fu)) w2 w3 hb3 (by omega) (Nat.le_refl _) (by omega) (HK.out.2.up hb2) (HK.out.1.below hb2 (Nat.le_refl _)) hFok hmc rfl rfl ((mz_ok fu).tx_same rfl) rfl hfu hown hls3 (fun g e => by have := hge g e; omega) (by rw [hle]; omega) hlns).mono ?_
          rintro e w' ⟨rfl, m, L, n, H⟩
          obtain ⟨k1, k2, k3, k4, k5, k6, _⟩ := H.out
          have k1 : runM F (lnsF ss.length ss) (fu + 1) (setM (.slice ao F.length cap) w2.heap.size (mz fu)) [] = (m, L) := k1
          rw [run_set] at k1
          have k0 : rnR F (lnsF ss.length ss) fu = runM F (lnsF ss.length ss) (fu + 1) (mz fu) [] := rfl
          rw [← k0] at k1
          injection k1 with k1a k1b
          have hfl := run_fuel (F := F) (ls := lnsF ss.length ss) (fu + 1) (mz fu) []
          rw [← k0] at hfl
          have hok2 : MOk (rnR F (lnsF ss.length ss) fu).1 L := k3.tx_same (by rw [← k1a]; rfl)
          refine ⟨rfl, (rnR F (lnsF ss.length ss) fu).1, L, n, by rw [← k1b], by rw [k1a]; exact k2, hok2, k4, k5, ?_, hfl⟩
          exact below_low hb3 (k6.below (by omega) (by omega) hb3.size) (Nat.le_refl _)
        have HLN : Hid (∀ m L, rnR F (lnsF ss.length ss) fu = (m, L) → rnE F ss fu = 0 → rnL F ss fu = L ∧ rnC F ss fu = m.code ∧ rnS F ss fu = fu - m.fuel) := fun m L e1 e2 => by
          unfold rnL rnC rnS
          rw [if_pos e2, if_pos e2, if_pos e2, Int.toNat_natCast, e1]
          exact ⟨rfl, rfl, rfl⟩
        have HL2 : Hid (∀ V, Hid (Below w.heap.size w V) → Calls Tryz.prog 19 #[.slice co ss.length ccap] V fun e w' => ∃ v, e = .returned (.tuple #[v, .int .i64 (d1 : Int), .int .i64 0]) ∧ Hid (Below w.heap.size w w' ∧ w'.ownsRow V.heap.size 67 7 v ss.length (lnCells (lnsF ss.length ss)) ∧ (lnsF ss.length ss).length = ss.length)) := fun V hV => (HL.out V hV).mono fun e w' ⟨v, q1, q2⟩ => ⟨v, q1, q2.out.1, q2.out.2 rfl⟩
        clear hr hFok hlns
        go_enter Tryz.func9, Tryz.ntmps9
        go_wp2_with (first
          | (go_at_call 13; refine HC.out.mono ?_; rintro e w1 ⟨rfl, H1⟩)
          | (go_at_call 19; refine (HL2.out _ H1).mono ?_; rintro e w2 ⟨v, rfl, H2⟩)
          | (go_at_call 20; refine (newMachine_any ao F.length cap fu _).mono ?_; rintro e w3 ⟨rfl, q1, q2, q3⟩; have H3 : Hid (McAt w3 (w2.heap.size + 1) (setM (.slice ao F.length cap) w2.heap.size (mz fu)) ∧ w3.ownsMap Tryz.prog 9 fileE w2.heap.size 0 (byD []) ∧ Below w2.heap.size w2 w3) := ⟨q1, q2, q3⟩; clear q1 q2 q3)
          | (go_at_call 21; refine (HR.out w1 w2 w3 v H2.out.1 H2.out.2 H3.out.1 H3.out.2.1 H3.out.2.2).mono ?_; rintro e w4 ⟨rfl, H4⟩)
          | go_in)
        obtain ⟨P, hP⟩ : ∃ P, P = w2.heap.size + 1 := ⟨_, rfl⟩
        obtain ⟨m, L, n, g1, g2, g3, g4, g5, g6, g7⟩ := H4.out
        rw [← hP] at g2 ⊢
        obtain ⟨z1, z2, z3⟩ := HLN.out m L g1 HER.out
        have s1 : w4.cell? ⟨P, 13, none⟩ = some (.int .i64 (m.code : Int)) := g2.c13
        have s2 : w4.cell? ⟨P, 10, none⟩ = some (.int .i64 (m.fuel : Int)) := g2.c10
        have HM : Hid (Calls Tryz.prog 22 #[.pointer (some ⟨P, 0, none⟩)] w4.drew fun e w' => ∃ v, e = .returned v ∧ (w'.cell? ⟨P, 13, none⟩ = some (.int .i64 (m.code : Int)) ∧ w'.cell? ⟨P, 10, none⟩ = some (.int .i64 (m.fuel : Int))) ∧ Hid (w'.ownsRow w4.heap.size 35 3 v L.length (flCells L) ∧ Below w4.heap.size w4 w')) := by
          refine (madeFiles_any (setM (.slice ao F.length cap) w2.heap.size m) P n L w4.drew ⟨g2.at_, g2.len⟩ (ownsMap_heap g5 rfl) (by omega) g3.tr.up (by have := g3.tr.ln; omega)).mono ?_
          rintro e w' ⟨v, k1, k2, k3⟩
          have k3 : Below w4.heap.size w4 w' := ⟨k3.os, k3.tape, k3.output, k3.size, k3.block⟩
          have m5 := g2.below k3
          exact ⟨v, k1, ⟨m5.c13, m5.c10⟩, k2, k3⟩
        have HS : Hid (w4.drew.cell? ⟨P, 13, none⟩ = some (.int .i64 (m.code : Int)) ∧ w4.drew.cell? ⟨P, 10, none⟩ = some (.int .i64 (m.fuel : Int))) := ⟨s1, s2⟩
        obtain ⟨sp, hsp⟩ : ∃ sp : Nat, fu - m.fuel = sp := ⟨_, rfl⟩
        have e5 : (fu : Int) - (m.fuel : Int) = (sp : Int) := by omega
        have e6 : IntKind.i64.wrap (sp : Int) = (sp : Int) := by rw [IntKind.wrap_i64]; omega
        have HZ : Hid (rnL F ss fu = L ∧ rnC F ss fu = m.code ∧ rnS F ss fu = sp ∧ Below w.heap.size w w4) := ⟨z1, z2, z3.trans hsp, below_low H2.out.1 g6 H2.out.1.size⟩
        clear g1 g2 g3 g4 g5 g6 g7 z1 z2 z3 hsp hP H4 H3
        generalize (m.fuel : Int) = mf at *
        generalize m.code = mc at *
        go_region_held3 (fun V => V.cell? ⟨P, 13, none⟩ = some (.int .i64 (mc : Int)) ∧ V.cell? ⟨P, 10, none⟩ = some (.int .i64 mf)) (first | assumption | exact HS.out | go_keep) (first
          | (go_at_call 22; refine HM.out.mono ?_; rintro e w5 ⟨v5, rfl, hS5, H5⟩)
          | fail)
        go_wp2
        refine bodyPost_ret (v := .tuple #[v5, .int .i64 (mc : Int), .int .i64 (sp : Int), .int .i64 0]) (by simp [results, Tryz.results9]) rfl ?_
        unfold RnP
        obtain ⟨z1, z2, z3, z4⟩ := HZ.out
        rw [z1, z2, z3, HER.out]
        have hr5 := row_low H5.out.1 z4.size
        obtain ⟨ra, rc, rfl⟩ : ∃ ra rc, v5 = .slice ra L.length rc := by
          rcases hr5.2 with ⟨h1, h2⟩ | ⟨g, cap, cur, hv, _⟩
          · exact ⟨none, 0, by rw [h1, h2]⟩
          · exact ⟨_, _, hv⟩
        exact ⟨ra, rc, rfl, hr5, below_low z4 H5.out.2 z4.size⟩
    · rw [if_pos hd0] at HER
      have hdi : ((d : Int) == 0) = false := by simp; omega
      have hdn : ¬ (d : Int) = 0 := by omega
      go_enter Tryz.func9, Tryz.ntmps9
      go_wp2_with (first
        | (go_at_call 13; refine HC.out.mono ?_; rintro e w1 ⟨rfl, H1⟩)
        | (go_at_call 19; refine (HL.out _ H1).mono ?_; rintro e w2 ⟨v, rfl, H2⟩)
        | go_in)
      refine bodyPost_ret (v := .tuple #[.slice none 0 0, .int .i64 0, .int .i64 0, .int .i64 (d : Int)]) (by simp [results, Tryz.results9]) rfl ?_
      exact rnP_err HER.out hdn H2.out.1
  · rw [if_pos hc0] at HER
    have hci : (c == 0) = false := by simpa using hc0
    go_enter Tryz.func9, Tryz.ntmps9
    go_wp2_with (first
      | (go_at_call 13; refine HC.out.mono ?_; rintro e w1 ⟨rfl, H1⟩)
      | go_in)
    refine bodyPost_ret (v := .tuple #[.slice none 0 0, .int .i64 0, .int .i64 0, .int .i64 c]) (by simp [results, Tryz.results9]) rfl ?_
    exact rnP_err HER.out hc0 H1.out
end Go.Proofs.YtapiedeekbfpnaaGreatDoor

/- What a line burns, and what it comes to if there is as much; more fuel, and less. -/
namespace Go.Proofs.YtapiedeekbfpnaaGreatDoor
open Go.RowKit Go.Shelf Go.Maps Go.WideMaps Go.Sort

/-- The text that a line puts, if it puts one and there is one. -/
def txR (F : List Fl) (m : Mc) (l : Ln) : Option ByteArray := match wkF l with
  | 0 => some l.tx
  | 1 => (fndF F l.pa).map Fl.tx
  | 2 => some (lstF F l.pa)
  | 3 => some (jnF (txF m l.r) (txF m l.s))
  | 4 => some (cutM (txF m l.r) l.n l.m)
  | 5 => some (szF (txF m l.s))
  | _ => some (smD (txF m l.r))
/-- What a line burns. -/
def cst (F L : List Fl) (m : Mc) (l : Ln) : Nat :=
  if wkF l ≤ 6 then (match txR F m l with
    | none => 1
    | some t => if 100000 < t.size then 1 else 1 + t.size / 16)
  else if wkF l ≤ 8 then (if mayF L l.pa = true then 1 + (txF m l.r).size / 16 else 1)
  else 1
/-- What a line comes to, its fuel aside. -/
def fin (F L : List Fl) (m : Mc) (l : Ln) : Mc :=
  if wkF l ≤ 6 then (match txR F m l with
    | none => { m with ended := true, code := 101 }
    | some t => if 100000 < t.size then { m with ended := true, code := 102 } else { m with tx := m.tx.set l.r t })
  else if wkF l ≤ 8 then (if mayF L l.pa = true then m else { m with ended := true, code := 103 })
  else if wkF l = 9 then (if (txF m l.r).data.toList = (txF m l.s).data.toList then { m with next := l.n } else m)
  else if wkF l = 10 then (if (txF m l.r).data.toList < (txF m l.s).data.toList then { m with next := l.n } else m)
  else if wkF l = 11 then { m with next := l.n }
  else { m with ended := true, code := l.n }
def finL (L : List Fl) (m : Mc) (l : Ln) : List Fl := if (wkF l = 7 ∨ wkF l = 8) ∧ mayF L l.pa = true then putF L ⟨l.pa, txF m l.r, decide (wkF l = 8)⟩ else L
def outM (m : Mc) : Mc := { m with fuel := 0, ended := true, code := 104 }
def wF (m : Mc) (x : Nat) : Mc := { m with fuel := x }

theorem burn_eq (m : Mc) (b : Nat) : burnM m b = if m.fuel < 1 + b / 16 then (outM m, false) else (wF m (m.fuel - (1 + b / 16)), true) := rfl
theorem end_eq (m : Mc) (c : Nat) : endM m c = if m.fuel < 1 then outM m else wF { m with ended := true, code := c } (m.fuel - 1) := by
  unfold endM
  rw [burn_eq]
  show (if (if m.fuel < 1 then (outM m, false) else (wF m (m.fuel - 1), true)).2 = true then _ else _) = _
  by_cases h : m.fuel < 1
  · simp [h]
  · simp [h]
    rfl
theorem put_eq (m : Mc) (r : Nat) (t : ByteArray) (h : ¬ 100000 < t.size) : putM m r t = if m.fuel < 1 + t.size / 16 then outM m else wF { m with tx := m.tx.set r t } (m.fuel - (1 + t.size / 16)) := by
  unfold putM
  rw [if_neg h, burn_eq]
  by_cases h : m.fuel < 1 + t.size / 16
  · simp [h]
  · simp [h]
    rfl
theorem put_eq2 (m : Mc) (r : Nat) (t : ByteArray) (h : 100000 < t.size) : putM m r t = endM m 102 := by
  unfold putM
  rw [if_pos h]
theorem go_eq (m : Mc) (b : Bool) (n : Nat) : goM m b n = if m.fuel < 1 then outM m else wF (if b = true then { m with next := n } else m) (m.fuel - 1) := by
  unfold goM
  rw [burn_eq]
  show (if ((if m.fuel < 1 then (outM m, false) else (wF m (m.fuel - 1), true)).2 && b) = true then _ else _) = _
  by_cases h : m.fuel < 1
  · simp [h]
  · cases b <;> simp [h] <;> rfl
theorem mk_eq (m : Mc) (L : List Fl) (f : Fl) : mkM m L f = if mayF L f.pa = true then (if m.fuel < 1 + f.tx.size / 16 then outM m else wF m (m.fuel - (1 + f.tx.size / 16))) else endM m 103 := by
  unfold mkM
  rw [burn_eq]
  split
  · split <;> rfl
  · rfl
theorem putD_eq (F L : List Fl) (m : Mc) (l : Ln) (hk : wkF l ≤ 6) (t : ByteArray) (ht : txR F m l = some t) : putM m l.r t = if m.fuel < cst F L m l then outM m else wF (fin F L m l) (m.fuel - cst F L m l) := by
  unfold cst fin
  rw [if_pos hk, if_pos hk, ht]
  simp only
  by_cases h : 100000 < t.size
  · rw [if_pos h, if_pos h, put_eq2 m _ t h, end_eq]
  · rw [if_neg h, if_neg h, put_eq m _ t h]
theorem do_eq (F L : List Fl) (m : Mc) (l : Ln) : doM F L m l = if m.fuel < cst F L m l then outM m else wF (fin F L m l) (m.fuel - cst F L m l) := by
  by_cases h6 : wkF l ≤ 6
  · match hk : wkF l, h6 with
    | 0, _ => rw [show doM F L m l = putM m l.r l.tx by unfold doM; simp only [hk]]; exact putD_eq F L m l (by omega) _ (by unfold txR; simp only [hk])
    | 1, _ =>
      cases hf : fndF F l.pa with
      | none =>
        rw [show doM F L m l = endM m 101 by unfold doM; simp only [hk, hf], end_eq]
        have e : txR F m l = none := by unfold txR; simp only [hk, hf]; rfl
        have ec : cst F L m l = 1 := by unfold cst; rw [if_pos (by omega), e]
        have ef : fin F L m l = { m with ended := true, code := 101 } := by unfold fin; rw [if_pos (by omega), e]
        rw [ec, ef]
      | some f =>
        rw [show doM F L m l = putM m l.r f.tx by unfold doM; simp only [hk, hf]]
        exact putD_eq F L m l (by omega) _ (by unfold txR; simp only [hk, hf]; rfl)
    | 2, _ => rw [show doM F L m l = putM m l.r (lstF F l.pa) by unfold doM; simp only [hk]]; exact putD_eq F L m l (by omega) _ (by unfold txR; simp only [hk])
    | 3, _ => rw [show doM F L m l = putM m l.r (jnF (txF m l.r) (txF m l.s)) by unfold doM; simp only [hk]]; exact putD_eq F L m l (by omega) _ (by unfold txR; simp only [hk])
    | 4, _ => rw [show doM F L m l = putM m l.r (cutM (txF m l.r) l.n l.m) by unfold doM; simp only [hk]]; exact putD_eq F L m l (by omega) _ (by unfold txR; simp only [hk])
    | 5, _ => rw [show doM F L m l = putM m l.r (szF (txF m l.s)) by unfold doM; simp only [hk]]; exact putD_eq F L m l (by omega) _ (by unfold txR; simp only [hk])
    | 6, _ => rw [show doM F L m l = putM m l.r (smD (txF m l.r)) by unfold doM; simp only [hk]]; exact putD_eq F L m l (by omega) _ (by unfold txR; simp only [hk])
  · unfold cst fin
    rw [if_neg h6, if_neg h6]
    by_cases h8 : wkF l ≤ 8
    · rw [if_pos h8, if_pos h8]
      have e : ∃ b, doM F L m l = mkM m L ⟨l.pa, txF m l.r, b⟩ := by
        rcases (show wkF l = 7 ∨ wkF l = 8 by omega) with hk | hk
        · exact ⟨false, by unfold doM; simp only [hk]⟩
        · exact ⟨true, by unfold doM; simp only [hk]⟩
      obtain ⟨b, e⟩ := e
      rw [e, mk_eq]
      simp only
      split
      · rfl
      · exact end_eq m 103
    · rw [if_neg h8, if_neg h8]
      by_cases h9 : wkF l = 9
      · rw [if_pos h9, show doM F L m l = goM m (decide ((txF m l.r).data.toList = (txF m l.s).data.toList)) l.n by unfold doM; simp only [h9], go_eq]
        simp only [decide_eq_true_eq]
      · rw [if_neg h9]
        by_cases h10 : wkF l = 10
        · rw [if_pos h10, show doM F L m l = goM m (decide ((txF m l.r).data.toList < (txF m l.s).data.toList)) l.n by unfold doM; simp only [h10], go_eq]
          simp only [decide_eq_true_eq]
        · rw [if_neg h10]
          by_cases h11 : wkF l = 11
          · rw [if_pos h11, show doM F L m l = goM m true l.n by unfold doM; simp only [h11], go_eq]
            rfl
          · rw [if_neg h11]
            have e : doM F L m l = endM m l.n := by
              unfold doM
              split <;> first | omega | rfl
            rw [e, end_eq]
theorem doL_eq (F L : List Fl) (m : Mc) (l : Ln) : doL L m l = if m.fuel < cst F L m l then L else finL L m l := by
  by_cases h : wkF l = 7 ∨ wkF l = 8
  · have e : doL L m l = mkL m L ⟨l.pa, txF m l.r, decide (wkF l = 8)⟩ := by
      rcases h with h | h
      · unfold doL; simp only [h]; rfl
      · unfold doL; simp only [h]; rfl
    rw [e]
    have ec : cst F L m l = if mayF L l.pa = true then 1 + (txF m l.r).size / 16 else 1 := by unfold cst; rw [if_neg (by omega), if_pos (by omega)]
    rw [ec]
    unfold mkL finL
    rw [burn_eq]
    by_cases hm : mayF L l.pa = true
    · simp only [hm, if_true, h, and_self, true_and]
      by_cases hb : m.fuel < 1 + (txF m l.r).size / 16
      · simp [hb]
      · simp [hb]
    · simp [hm]
  · have e : doL L m l = L := by
      unfold doL
      split
      · exact absurd (Or.inl (by assumption)) h
      · exact absurd (Or.inr (by assumption)) h
      · rfl
    have e2 : finL L m l = L := by unfold finL; rw [if_neg (fun hh => h hh.1)]
    rw [e, e2]
    split <;> rfl
theorem cst_pos (F L : List Fl) (m : Mc) (l : Ln) : 1 ≤ cst F L m l := by
  unfold cst
  repeat' split
  all_goals omega
theorem cst_w (F L : List Fl) (m : Mc) (l : Ln) (x : Nat) : cst F L (wF m x) l = cst F L m l := rfl
theorem fin_w (F L : List Fl) (m : Mc) (l : Ln) (x y : Nat) : wF (fin F L (wF m x) l) y = wF (fin F L m l) y := by
  have e : txR F (wF m x) l = txR F m l := rfl
  have e2 : ∀ i, txF (wF m x) i = txF m i := fun _ => rfl
  unfold fin
  rw [e]
  simp only [e2]
  repeat' split
  all_goals rfl
theorem finL_w (L : List Fl) (m : Mc) (l : Ln) (x : Nat) : finL L (wF m x) l = finL L m l := rfl
/-- One step: there was too little fuel, or there was enough. -/
theorem step_eq (F : List Fl) (ls : List Ln) (k : Nat) (m : Mc) (L : List Fl) (h : stp ls m = false) :
    runM F ls (k + 1) m L = if m.fuel < cst F L (nxM m) (lnAt ls m) then (outM (nxM m), L) else runM F ls k (wF (fin F L (nxM m) (lnAt ls m)) (m.fuel - cst F L (nxM m) (lnAt ls m))) (finL L (nxM m) (lnAt ls m)) := by
  rw [runM_go F ls m L h, do_eq, doL_eq F]
  have e : (nxM m).fuel = m.fuel := rfl
  rw [e]
  split
  · exact runM_stp F ls _ _ (by unfold stp outM; rfl) k
  · rfl
theorem wF_w (m : Mc) (x y : Nat) : wF (wF m x) y = wF m y := rfl
theorem wF_self (m : Mc) : wF m m.fuel = m := rfl
theorem stp_w (ls : List Ln) (m : Mc) (x : Nat) : stp ls (wF m x) = stp ls m := rfl
theorem lnAt_w (ls : List Ln) (m : Mc) (x : Nat) : lnAt ls (wF m x) = lnAt ls m := rfl
/-- It did not end for want of fuel. -/
def Fed (m : Mc) : Prop := m.ended = true → m.code ≠ 104
/-- With more fuel it comes to the same. -/
theorem run_more (F : List Fl) (ls : List Ln) (d : Nat) : ∀ (k : Nat) (m : Mc) (L : List Fl), Fed (runM F ls k m L).1 → runM F ls k (wF m (m.fuel + d)) L = (wF (runM F ls k m L).1 ((runM F ls k m L).1.fuel + d), (runM F ls k m L).2)
  | 0, m, L, _ => rfl
  | k + 1, m, L, h => by
    by_cases hs : stp ls m = true
    · rw [runM_stp F ls m L hs, runM_stp F ls _ L (by rw [stp_w]; exact hs)]
    · have hs : stp ls m = false := by simpa using hs
      rw [step_eq F ls k m L hs] at h ⊢
      rw [step_eq F ls k (wF m (m.fuel + d)) L (by rw [stp_w]; exact hs)]
      have e1 : nxM (wF m (m.fuel + d)) = wF (nxM m) (m.fuel + d) := rfl
      have e2 : (wF m (m.fuel + d)).fuel = m.fuel + d := rfl
      rw [lnAt_w, e1, cst_w, e2, fin_w, finL_w]
      by_cases hc : m.fuel < cst F L (nxM m) (lnAt ls m)
      · rw [if_pos hc] at h
        exact absurd rfl (h rfl)
      · rw [if_neg hc] at h ⊢
        rw [if_neg (by omega)]
        have ih := run_more F ls d k (wF (fin F L (nxM m) (lnAt ls m)) (m.fuel - cst F L (nxM m) (lnAt ls m))) (finL L (nxM m) (lnAt ls m)) h
        have e3 : (wF (fin F L (nxM m) (lnAt ls m)) (m.fuel - cst F L (nxM m) (lnAt ls m))).fuel = m.fuel - cst F L (nxM m) (lnAt ls m) := rfl
        rw [e3, wF_w] at ih
        rw [show m.fuel + d - cst F L (nxM m) (lnAt ls m) = m.fuel - cst F L (nxM m) (lnAt ls m) + d by omega]
        exact ih
/-- With so much less that enough is left, too. -/
theorem run_less (F : List Fl) (ls : List Ln) (d : Nat) : ∀ (k : Nat) (m : Mc) (L : List Fl), Fed (runM F ls k m L).1 → d ≤ (runM F ls k m L).1.fuel → runM F ls k (wF m (m.fuel - d)) L = (wF (runM F ls k m L).1 ((runM F ls k m L).1.fuel - d), (runM F ls k m L).2)
  | 0, m, L, _, _ => rfl
  | k + 1, m, L, h, hd => by
    by_cases hs : stp ls m = true
    · rw [runM_stp F ls m L hs, runM_stp F ls _ L (by rw [stp_w]; exact hs)]
    · have hs : stp ls m = false := by simpa using hs
      rw [step_eq F ls k m L hs] at h hd ⊢
      rw [step_eq F ls k (wF m (m.fuel - d)) L (by rw [stp_w]; exact hs)]
      have e1 : nxM (wF m (m.fuel - d)) = wF (nxM m) (m.fuel - d) := rfl
      have e2 : (wF m (m.fuel - d)).fuel = m.fuel - d := rfl
      rw [lnAt_w, e1, cst_w, e2, fin_w, finL_w]
      by_cases hc : m.fuel < cst F L (nxM m) (lnAt ls m)
      · rw [if_pos hc] at h
        exact absurd rfl (h rfl)
      · rw [if_neg hc] at h hd ⊢
        have hle := run_fuel (F := F) (ls := ls) k (wF (fin F L (nxM m) (lnAt ls m)) (m.fuel - cst F L (nxM m) (lnAt ls m))) (finL L (nxM m) (lnAt ls m))
        have e3 : (wF (fin F L (nxM m) (lnAt ls m)) (m.fuel - cst F L (nxM m) (lnAt ls m))).fuel = m.fuel - cst F L (nxM m) (lnAt ls m) := rfl
        rw [e3] at hle
        rw [if_neg (by omega)]
        have ih := run_less F ls d k (wF (fin F L (nxM m) (lnAt ls m)) (m.fuel - cst F L (nxM m) (lnAt ls m))) (finL L (nxM m) (lnAt ls m)) h hd
        rw [e3, wF_w] at ih
        rw [show m.fuel - d - cst F L (nxM m) (lnAt ls m) = m.fuel - cst F L (nxM m) (lnAt ls m) - d by omega]
        exact ih
/-- As many rounds as there is fuel, and one, are enough. -/
theorem run_stops (F : List Fl) (ls : List Ln) : ∀ (k : Nat) (m : Mc) (L : List Fl), (m.ended = true ∨ m.fuel < k) → stp ls (runM F ls k m L).1 = true
  | 0, m, L, h => by
    have h : m.ended = true := h.resolve_right (by omega)
    show stp ls m = true
    unfold stp
    rw [h]
    rfl
  | k + 1, m, L, h => by
    by_cases hs : stp ls m = true
    · rw [runM_stp F ls m L hs]; exact hs
    · have hs : stp ls m = false := by simpa using hs
      rw [runM_go F ls m L hs]
      have he : m.ended = false := by unfold stp at hs; rw [Bool.or_eq_false_iff] at hs; exact hs.1
      have hf : m.fuel < k + 1 := h.resolve_left (by rw [he]; simp)
      have g := (do_goes F L (nxM m) (lnAt ls m)).1
      have e : (nxM m).fuel = m.fuel := rfl
      rw [e] at g
      refine run_stops F ls k _ _ ?_
      rcases g with g | g
      · exact .inr (by omega)
      · exact .inl g
theorem run_rounds (F : List Fl) (ls : List Ln) (j : Nat) : ∀ (k : Nat) (m : Mc) (L : List Fl), stp ls (runM F ls k m L).1 = true → runM F ls (k + j) m L = runM F ls k m L
  | 0, m, L, h => by rw [Nat.zero_add, runM_stp F ls m L h]; rfl
  | k + 1, m, L, h => by
    by_cases hs : stp ls m = true
    · rw [runM_stp F ls m L hs, runM_stp F ls m L hs]
    · have hs : stp ls m = false := by simpa using hs
      rw [runM_go F ls m L hs] at h ⊢
      rw [show k + 1 + j = (k + j) + 1 by omega, runM_go F ls m L hs]
      exact run_rounds F ls j k _ _ h
theorem rnR_rounds (F : List Fl) (ls : List Ln) (f k : Nat) (h : f + 1 ≤ k) : runM F ls k (mz f) [] = rnR F ls f := by
  have := run_rounds F ls (k - (f + 1)) (f + 1) (mz f) [] (run_stops F ls (f + 1) (mz f) [] (.inr (Nat.lt_succ_self f)))
  rw [show f + 1 + (k - (f + 1)) = k by omega] at this
  exact this
/-- More fuel. -/
theorem rn_more (F : List Fl) (ls : List Ln) (f d : Nat) (h : Fed (rnR F ls f).1) : rnR F ls (f + d) = (wF (rnR F ls f).1 ((rnR F ls f).1.fuel + d), (rnR F ls f).2) := by
  have h1 := run_more F ls d (f + d + 1) (mz f) []
  rw [rnR_rounds F ls f (f + d + 1) (by omega)] at h1
  exact h1 h
/-- Just what was burnt. -/
theorem rn_just (F : List Fl) (ls : List Ln) (f : Nat) (h : Fed (rnR F ls f).1) : rnR F ls (f - (rnR F ls f).1.fuel) = (wF (rnR F ls f).1 0, (rnR F ls f).2) := by
  have h1 := run_less F ls (rnR F ls f).1.fuel (f + 1) (mz f) [] h (Nat.le_refl _)
  have e : wF (mz f) ((mz f).fuel - (rnR F ls f).1.fuel) = mz (f - (rnR F ls f).1.fuel) := rfl
  rw [e, rnR_rounds F ls _ (f + 1) (by omega)] at h1
  rw [h1]
  show (wF (rnR F ls f).1 ((rnR F ls f).1.fuel - (rnR F ls f).1.fuel), (rnR F ls f).2) = _
  rw [Nat.sub_self]
end Go.Proofs.YtapiedeekbfpnaaGreatDoor

/- How a run ends, plain: its code, and what is left. -/
namespace Go.Proofs.YtapiedeekbfpnaaGreatDoor
open Go.RowKit Go.Shelf Go.Maps Go.WideMaps Go.Sort

/-- A line ends by a number below 100. -/
def ExOk (l : Ln) : Prop := 12 ≤ wkF l → l.n ≤ 99
structure CdOk (m : Mc) : Prop where
  out : m.code = 104 → m.fuel = 0
  cod : m.code ≤ 99 ∨ (101 ≤ m.code ∧ m.code ≤ 104)
  run : m.ended = false → m.code = 0
theorem fin_code {F L : List Fl} {m : Mc} {l : Ln} (h : m.code = 0) (hx : ExOk l) : ((fin F L m l).code ≤ 99 ∨ (101 ≤ (fin F L m l).code ∧ (fin F L m l).code ≤ 103)) ∧ ((fin F L m l).ended = false → (fin F L m l).code = 0) := by
  unfold fin
  by_cases h6 : wkF l ≤ 6
  · rw [if_pos h6]
    split
    · exact ⟨.inr ⟨by show 101 ≤ 101; decide, by show 101 ≤ 103; decide⟩, fun e => by cases e⟩
    · split
      · exact ⟨.inr ⟨by show 101 ≤ 102; decide, by show 102 ≤ 103; decide⟩, fun e => by cases e⟩
      · exact ⟨.inl (by show m.code ≤ 99; omega), fun _ => h⟩
  · rw [if_neg h6]
    by_cases h8 : wkF l ≤ 8
    · rw [if_pos h8]
      split
      · exact ⟨.inl (by omega), fun _ => h⟩
      · exact ⟨.inr ⟨by show 101 ≤ 103; decide, by show 103 ≤ 103; decide⟩, fun e => by cases e⟩
    · rw [if_neg h8]
      by_cases h9 : wkF l = 9
      · rw [if_pos h9]
        split
        · exact ⟨.inl (by show m.code ≤ 99; omega), fun _ => h⟩
        · exact ⟨.inl (by omega), fun _ => h⟩
      · rw [if_neg h9]
        by_cases h10 : wkF l = 10
        · rw [if_pos h10]
          split
          · exact ⟨.inl (by show m.code ≤ 99; omega), fun _ => h⟩
          · exact ⟨.inl (by omega), fun _ => h⟩
        · rw [if_neg h10]
          by_cases h11 : wkF l = 11
          · rw [if_pos h11]
            exact ⟨.inl (by show m.code ≤ 99; omega), fun _ => h⟩
          · rw [if_neg h11]
            exact ⟨.inl (hx (by omega)), fun e => by cases e⟩
theorem run_code {F : List Fl} {ls : List Ln} (hl : ∀ l ∈ ls, ExOk l) : ∀ (k : Nat) (m : Mc) (L : List Fl), CdOk m → CdOk (runM F ls k m L).1
  | 0, _, _, h => h
  | k + 1, m, L, h => by
    by_cases hs : stp ls m = true
    · rw [runM_stp F ls m L hs]; exact h
    · have hs : stp ls m = false := by simpa using hs
      rw [step_eq F ls k m L hs]
      have he : m.ended = false := by unfold stp at hs; rw [Bool.or_eq_false_iff] at hs; exact hs.1
      have hn : m.next < ls.length := by
        unfold stp at hs
        rw [Bool.or_eq_false_iff] at hs
        have := of_decide_eq_false hs.2
        omega
      have hx : ExOk (lnAt ls m) := by
        unfold lnAt
        rw [List.getD_eq_getElem?_getD, List.getElem?_eq_getElem hn]
        exact hl _ (List.getElem_mem hn)
      split
      · exact ⟨fun _ => rfl, .inr ⟨by show 101 ≤ 104; decide, by show 104 ≤ 104; decide⟩, fun e => by cases e⟩
      · refine run_code hl k _ _ ?_
        have h0 : (nxM m).code = 0 := h.run he
        obtain ⟨c1, c2⟩ := fin_code (F := F) (L := L) (m := nxM m) (l := lnAt ls m) h0 hx
        exact ⟨fun e => by
          have e : (fin F L (nxM m) (lnAt ls m)).code = 104 := e
          omega, by
          show (fin F L (nxM m) (lnAt ls m)).code ≤ 99 ∨ (101 ≤ (fin F L (nxM m) (lnAt ls m)).code ∧ (fin F L (nxM m) (lnAt ls m)).code ≤ 104)
          omega, c2⟩
theorem mz_cd (f : Nat) : CdOk (mz f) := ⟨fun e => absurd e (by show ¬ (0 : Nat) = 104; decide), .inl (Nat.zero_le _), fun _ => rfl⟩
theorem rn_code {F : List Fl} {ls : List Ln} (hl : ∀ l ∈ ls, ExOk l) (f : Nat) : CdOk (rnR F ls f).1 := run_code hl _ _ _ (mz_cd f)
theorem takP_n5 {lines : Nat} {l l' : Ln} {g : List UInt8} (e : takP lines 5 l g = some l') : l'.n ≤ 99 := by
  have e : (numF g).bind (fun v => if v ≤ 99 then some { l with n := v } else Option.none) = some l' := e
  obtain ⟨v, _, e⟩ := Option.bind_eq_some_iff.1 e
  split at e
  · rename_i h
    obtain rfl := Option.some.inj e
    exact h
  · cases e
/-- The form of a line, by its word. -/
theorem frm_all : ∀ j, j < 13 → ∃ p, frmL[j]? = some p ∧ wrdL[j]? = some p.1 ∧ frmF p.1 = some p.2 := by
  intro j hj
  match j, hj with
  | 0, _ => exact ⟨_, rfl, rfl, rfl⟩
  | 1, _ => exact ⟨_, rfl, rfl, rfl⟩
  | 2, _ => exact ⟨_, rfl, rfl, rfl⟩
  | 3, _ => exact ⟨_, rfl, rfl, rfl⟩
  | 4, _ => exact ⟨_, rfl, rfl, rfl⟩
  | 5, _ => exact ⟨_, rfl, rfl, rfl⟩
  | 6, _ => exact ⟨_, rfl, rfl, rfl⟩
  | 7, _ => exact ⟨_, rfl, rfl, rfl⟩
  | 8, _ => exact ⟨_, rfl, rfl, rfl⟩
  | 9, _ => exact ⟨_, rfl, rfl, rfl⟩
  | 10, _ => exact ⟨_, rfl, rfl, rfl⟩
  | 11, _ => exact ⟨_, rfl, rfl, rfl⟩
  | 12, _ => exact ⟨_, rfl, rfl, rfl⟩
  | j + 13, h => omega
theorem lin_form {lines : Nat} {s : List UInt8} {l : Ln} (hs : s.length ≤ 100000) (h : linF lines s = some l) : wkF l < 13 ∧ l.wd.data.toList = (Lib.cut s [32]).1 ∧ ∃ f, frmL[wkF l]? = some ((Lib.cut s [32]).1, f) ∧ frmF (Lib.cut s [32]).1 = some f := by
  obtain ⟨_, f, hf, hw⟩ := linF_ok hs h
  have hwk : wkF l = wrdL.idxOf (Lib.cut s [32]).1 := by unfold wkF; rw [hw]; simp [bA]
  have h13 : wkF l < 13 := by rw [hwk]; exact lookup_idx _ f hf
  refine ⟨h13, by rw [hw]; simp [bA], ?_⟩
  have h1 := wrd_at (w := (Lib.cut s [32]).1) (j := wkF l) hwk.symm h13
  obtain ⟨p, p1, p2, p3⟩ := frm_all _ h13
  rw [h1] at p2
  have e := Option.some.inj p2
  rw [e]
  exact ⟨p.2, p1, p3⟩
/-- What stands behind the first word of a line that is right; a line that sets aside, just those words. -/
theorem lin_words {lines : Nat} {s : List UInt8} {l : Ln} (hs : s.length ≤ 100000) (h : linF lines s = some l) (h0 : wkF l ≠ 0) : ∃ f, frmL[wkF l]? = some ((Lib.cut s [32]).1, f) ∧ (wdL [] s).length = f.length + 1 ∧ foldP lines f (wdL [] s).tail { Ln.none with wd := bA (Lib.cut s [32]).1 } = some l := by
  obtain ⟨h13, _, f, f1, f2⟩ := lin_form hs h
  have hne : f ≠ [0, 6] := by
    intro e
    subst e
    have : ∀ j, j < 13 → (frmL[j]?).map (·.2) = some [0, 6] → j = 0 := by decide
    exact h0 (this _ h13 (by rw [f1]; rfl))
  have hr : rigF lines s = true := by rw [← linF_rig, h]; rfl
  unfold rigF at hr
  rw [f2] at hr
  simp only at hr
  rw [if_neg hne, Bool.and_eq_true] at hr
  have hl := of_decide_eq_true hr.1
  refine ⟨f, f1, hl, ?_⟩
  unfold linF at h
  rw [f2] at h
  simp only at h
  rw [wdN_le f.length s (by omega)] at h
  split at h
  · cases h
  · exact h
theorem lin_ex {lines : Nat} {s : List UInt8} {l : Ln} (hs : s.length ≤ 100000) (h : linF lines s = some l) : ExOk l := by
  intro hk
  obtain ⟨h13, _⟩ := lin_form hs h
  have hk : wkF l = 12 := by omega
  obtain ⟨f, f1, f2, f3⟩ := lin_words hs h (by omega)
  rw [hk] at f1
  have e : f = [5] := (congrArg Prod.snd (Option.some.inj f1)).symm
  subst e
  cases hw : (wdL [] s).tail with
  | nil =>
    have := congrArg List.length hw
    rw [List.length_tail] at this
    simp at this f2
    omega
  | cons g gs =>
    rw [hw] at f3
    obtain ⟨l1, e1, e2⟩ := Option.bind_eq_some_iff.1 (show (takP lines 5 _ g).bind (fun l' => foldP lines [] gs l') = some l from f3)
    have e2 : l1 = l := by
      cases gs <;> exact Option.some.inj e2
    rw [← e2]
    exact takP_n5 e1
theorem lns_ex {ss : List ByteArray} (h : (chkF ss).2 = 0) : ∀ l ∈ lnsF ss.length ss, ExOk l := by
  unfold chkF at h
  split at h
  · cases h
  · rename_i hn
    intro l hl
    obtain ⟨s, hs, e⟩ := List.mem_filterMap.1 hl
    refine lin_ex ?_ e
    rw [Array.length_toList]
    exact Nat.le_of_not_lt fun h => hn (.inr ⟨s, hs, h⟩)
/-- What a run of a right command comes to. -/
theorem rn_zero {F : List Fl} {ss : List ByteArray} {fuel : Int} (h : rnE F ss fuel = 0) : ∃ fu : Nat, fuel = (fu : Int) ∧ fu ≤ 100000 ∧ chF F = 0 ∧ (chkF ss).2 = 0 := by
  unfold rnE at h
  split at h
  · rename_i hc; exact absurd h hc
  · rename_i hc
    have hc : chF F = 0 := Classical.byContradiction hc
    split at h
    · rename_i hd; exact absurd h (by omega)
    · rename_i hd
      have hd : (chkF ss).2 = 0 := by omega
      split at h
      · cases h
      · rename_i hf
        exact ⟨fuel.toNat, by omega, by omega, hc, hd⟩
theorem rnE_of {F : List Fl} {ss : List ByteArray} {fu : Nat} (h1 : chF F = 0) (h2 : (chkF ss).2 = 0) (h3 : fu ≤ 100000) : rnE F ss (fu : Int) = 0 := by
  unfold rnE
  rw [if_neg (by simp [h1]), if_neg (by simp [h2]), if_neg (by omega)]
theorem rn_val {F : List Fl} {ss : List ByteArray} {fu : Nat} (h : rnE F ss (fu : Int) = 0) : rnL F ss (fu : Int) = (rnR F (lnsF ss.length ss) fu).2 ∧ rnC F ss (fu : Int) = (rnR F (lnsF ss.length ss) fu).1.code ∧ rnS F ss (fu : Int) = fu - (rnR F (lnsF ss.length ss) fu).1.fuel := by
  unfold rnL rnC rnS
  rw [if_pos h, if_pos h, if_pos h, Int.toNat_natCast]
  exact ⟨rfl, rfl, rfl⟩
theorem rn_tree (F : List Fl) (ss : List ByteArray) (fuel : Int) : TrOk (rnL F ss fuel) := by
  by_cases h : rnE F ss fuel = 0
  · obtain ⟨fu, rfl, _, _, h2⟩ := rn_zero h
    rw [(rn_val h).1]
    exact (run_ok (fun l hl => ((lns_ok h2).2 l hl).2.1) (fu + 1) (mz fu) [] (mz_ok fu)).tr
  · unfold rnL
    rw [if_neg h]
    exact TrOk.nil
theorem rn_out {F : List Fl} {ss : List ByteArray} {fu : Nat} (h : rnE F ss (fu : Int) = 0) (hc : rnC F ss (fu : Int) = 104) : rnS F ss (fu : Int) = fu := by
  obtain ⟨_, _, _, _, h2⟩ := rn_zero h
  obtain ⟨_, v2, v3⟩ := rn_val h
  have := (rn_code (F := F) (lns_ex h2) fu).out (by rw [← v2]; exact hc)
  rw [v3, this]
  rfl
theorem rn_cod (F : List Fl) (ss : List ByteArray) (fuel : Int) : rnC F ss fuel ≤ 99 ∨ (101 ≤ rnC F ss fuel ∧ rnC F ss fuel ≤ 104) := by
  by_cases h : rnE F ss fuel = 0
  · obtain ⟨fu, rfl, _, _, h2⟩ := rn_zero h
    rw [(rn_val h).2.1]
    exact (rn_code (lns_ex h2) fu).cod
  · unfold rnC
    rw [if_neg h]
    exact .inl (Nat.zero_le _)
theorem rn_mores {F : List Fl} {ss : List ByteArray} {fu d : Nat} (h : rnE F ss (fu : Int) = 0) (hc : rnC F ss (fu : Int) ≠ 104) (hd : fu + d ≤ 100000) :
    rnE F ss ((fu + d : Nat) : Int) = 0 ∧ rnL F ss ((fu + d : Nat) : Int) = rnL F ss (fu : Int) ∧ rnC F ss ((fu + d : Nat) : Int) = rnC F ss (fu : Int) ∧ rnS F ss ((fu + d : Nat) : Int) = rnS F ss (fu : Int) := by
  obtain ⟨_, _, _, h1, h2⟩ := rn_zero h
  have he := rnE_of h1 h2 hd
  obtain ⟨v1, v2, v3⟩ := rn_val h
  obtain ⟨u1, u2, u3⟩ := rn_val he
  have hfed : Fed (rnR F (lnsF ss.length ss) fu).1 := fun _ => by rw [← v2]; exact hc
  have hm := rn_more F (lnsF ss.length ss) fu d hfed
  rw [hm] at u1 u2 u3
  refine ⟨he, u1.trans v1.symm, u2.trans v2.symm, ?_⟩
  rw [u3, v3]
  show fu + d - ((rnR F (lnsF ss.length ss) fu).1.fuel + d) = _
  omega
theorem rn_justs {F : List Fl} {ss : List ByteArray} {fu : Nat} (h : rnE F ss (fu : Int) = 0) (hc : rnC F ss (fu : Int) ≠ 104) :
    rnE F ss (rnS F ss (fu : Int) : Int) = 0 ∧ rnL F ss (rnS F ss (fu : Int) : Int) = rnL F ss (fu : Int) ∧ rnC F ss (rnS F ss (fu : Int) : Int) = rnC F ss (fu : Int) ∧ rnS F ss (rnS F ss (fu : Int) : Int) = rnS F ss (fu : Int) := by
  obtain ⟨f2, e2, hf2, h1, h2⟩ := rn_zero h
  have e2 : fu = f2 := by omega
  subst e2
  obtain ⟨v1, v2, v3⟩ := rn_val h
  have he := rnE_of (fu := rnS F ss (fu : Int)) h1 h2 (by omega)
  obtain ⟨u1, u2, u3⟩ := rn_val he
  have hfed : Fed (rnR F (lnsF ss.length ss) fu).1 := fun _ => by rw [← v2]; exact hc
  have hm := rn_just F (lnsF ss.length ss) fu hfed
  rw [← v3] at hm
  rw [hm] at u1 u2 u3
  exact ⟨he, u1.trans v1.symm, u2.trans v2.symm, u3⟩
theorem rn_spent (F : List Fl) (ss : List ByteArray) (fuel : Int) (h : rnE F ss fuel = 0) : (rnS F ss fuel : Int) ≤ fuel := by
  obtain ⟨fu, rfl, _⟩ := rn_zero h
  have := (rn_val h).2.2
  omega
end Go.Proofs.YtapiedeekbfpnaaGreatDoor

/- Files that are the same. -/
namespace Go.Proofs.YtapiedeekbfpnaaGreatDoor
open Go.RowKit Go.Shelf

theorem toL_inj {a b : ByteArray} (h : a.toList = b.toList) : a = b := by
  rw [Lib.toList_data, Lib.toList_data] at h
  obtain ⟨x⟩ := a
  obtain ⟨y⟩ := b
  exact congrArg ByteArray.mk (Array.toList_inj.1 h)
/-- How the look ends. -/
def SmP (A C : List Fl) (w : World) (e : Ending) (w' : World) : Prop := ∃ b, e = .returned (.bool b) ∧ (b = true ↔ A = C) ∧ ∃ n, w' = w.drewN n

set_option maxHeartbeats 4000000 in
set_option maxRecDepth 100000 in
theorem SameFiles_any (ao co : Option Addr) (ac cc : Nat) (A C : List Fl) (w : World) (hn : A.length ≤ 4611686018427387904) (ha : IsFl w ao A) (hc : IsFl w co C) :
    Calls Tryz.prog 15 #[.slice ao A.length ac, .slice co C.length cc] w (SmP A C w) := by
  by_cases hl : A.length = C.length
  · rw [← hl]
    have HA : Hid (IsFl w ao A) := ha
    have HC : Hid (IsFl w co C) := hc
    have HL : Hid (A.length = C.length) := hl
    have hn1 : (A.length : Int) ≤ 4611686018427387904 := by omega
    clear ha hc hl
    go_enter Tryz.func15, Tryz.ntmps15
    go_wp2
    go_loopw [5] (fun i wr => ∃ k m : Nat, k ≤ A.length ∧ i = .int .i64 k ∧ A.take k = C.take k ∧ wr = w.drewN m) (fun i _ => A.length - (intOf i).toNat)
    case atStart => exact ⟨0, 0, Nat.zero_le _, rfl, rfl, rfl⟩
    case round =>
      obtain ⟨k, m, hk, rfl, ht, rfl⟩ := hrel
      have HK : Hid (A.take k = C.take k) := ht
      clear ht
      by_cases hlt : k < A.length
      · have hlt' : k < C.length := by rw [← HL.out]; exact hlt
        rcases HA.out with h | ⟨g, o, rfl, _, hca⟩
        · exfalso; rw [h] at hlt; exact absurd hlt (by simp)
        rcases HC.out with h | ⟨g', o', rfl, _, hcc⟩
        · exfalso; rw [h] at hlt'; exact absurd hlt' (by simp)
        obtain ⟨a0, a1, a2⟩ := hca k hlt
        obtain ⟨b0, b1, b2⟩ := hcc k hlt'
        have HN : Hid (A[k] ≠ C[k] → A ≠ C) := fun h e => h (by simp only [e])
        have HY : Hid (A[k] = C[k] → A.take (k + 1) = C.take (k + 1)) := fun h => by rw [List.take_succ_eq_append_getElem hlt, List.take_succ_eq_append_getElem hlt', HK.out, h]
        generalize A[k] = x at *
        generalize C[k] = y at *
        obtain ⟨xp, xt, xr⟩ := x
        obtain ⟨yp, yt, yr⟩ := y
        simp only at a0 a1 a2 b0 b1 b2
        have i2 : (k : Int) < A.length := by omega
        clear hca hcc
        by_cases h1 : xp.toList = yp.toList
        · obtain rfl := toL_inj h1
          by_cases h2 : xt.toList = yt.toList
          · obtain rfl := toL_inj h2
            by_cases h3 : xr = yr
            · subst h3
              have HZ : Hid (A.take (k + 1) = C.take (k + 1)) := HY.out rfl
              clear h1 h2 HN HY
              go_wp2
              go_region
              all_goals go_wp2
              all_goals exact ⟨⟨k + 1, m + 1, by omega, by go_num, HZ.out, rfl⟩, by simp [intOf]; omega⟩
            · have HZ : Hid (A ≠ C) := HN.out (by intro e; injection e with _ _ e; exact h3 e)
              have h3' : (xr == yr) = false := by simpa using h3
              clear h1 h2 HN HY
              go_wp2
              go_region
              all_goals go_wp2
              all_goals
                go_ret
                exact ⟨false, rfl, ⟨fun h => absurd h (by decide), fun h => absurd h HZ.out⟩, m + 1, rfl⟩
          · have HZ : Hid (A ≠ C) := HN.out (by intro e; injection e with _ e _; rw [e] at h2; exact h2 rfl)
            clear h1 HN HY
            go_wp2
            go_region
            all_goals go_wp2
            all_goals
              go_ret
              exact ⟨false, rfl, ⟨fun h => absurd h (by decide), fun h => absurd h HZ.out⟩, m + 1, rfl⟩
        · have HZ : Hid (A ≠ C) := HN.out (by intro e; injection e with e _ _; rw [e] at h1; exact h1 rfl)
          clear HN HY
          go_wp2
          go_region
          all_goals go_wp2
          all_goals
            go_ret
            exact ⟨false, rfl, ⟨fun h => absurd h (by decide), fun h => absurd h HZ.out⟩, m + 1, rfl⟩
      · have hki : ¬ (k : Int) < (A.length : Int) := by omega
        have HZ : Hid (A = C) := by
          have := HK.out
          have hL := HL.out
          rwa [List.take_of_length_le (by omega), List.take_of_length_le (by omega)] at this
        go_wp2
        go_ret
        exact ⟨true, rfl, ⟨fun _ => HZ.out, fun _ => rfl⟩, m, rfl⟩
  · have hne : ¬ (A.length : Int) = C.length := by omega
    have HZ : Hid (A ≠ C) := fun e => hl (by rw [e])
    clear hl ha hc
    go_enter Tryz.func15, Tryz.ntmps15
    go_wp2
    go_ret
    exact ⟨false, rfl, ⟨fun h => absurd h (by decide), fun h => absurd h HZ.out⟩, 0, rfl⟩
end Go.Proofs.YtapiedeekbfpnaaGreatDoor
