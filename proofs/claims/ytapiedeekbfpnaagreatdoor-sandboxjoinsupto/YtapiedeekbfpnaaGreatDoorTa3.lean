/- What each part of a line takes. -/
import Derived.Laws.EntriesVeiled
import Derived.Shelf.Strings.Cut
import Derived.Test.YtapiedeekbfpnaaGreatDoorTa2
namespace Go.Proofs.YtapiedeekbfpnaaGreatDoor
open Go.RowKit Go.Shelf

/-- Nothing turns but one block, and what is new. -/
structure UpB (P : Nat) (w w' : World) : Prop where
  os : w'.os = w.os
  tape : w'.tape = w.tape
  output : w'.output = w.output
  size : w.heap.size ≤ w'.heap.size
  block : ∀ g : Nat, g < w.heap.size → g ≠ P → w'.heap[g]? = w.heap[g]?
theorem UpB.refl (P : Nat) (w : World) : UpB P w w := ⟨rfl, rfl, rfl, Nat.le_refl _, fun _ _ _ => rfl⟩
theorem UpB.trans {P : Nat} {a b c : World} (h : UpB P a b) (k : UpB P b c) : UpB P a c :=
  ⟨k.os.trans h.os, k.tape.trans h.tape, k.output.trans h.output, Nat.le_trans h.size k.size, fun g hg hn => (k.block g (Nat.lt_of_lt_of_le hg h.size) hn).trans (h.block g hg hn)⟩
theorem UpB.of_below {P : Nat} {w w' : World} (h : Below w.heap.size w w') : UpB P w w' := ⟨h.os, h.tape, h.output, h.size, fun g hg _ => h.block g hg⟩
theorem UpB.below {P : Nat} {w w' : World} {B : Nat} (h : UpB P w w') (hB : B ≤ P) (hw : B ≤ w.heap.size) : Below B w w' :=
  ⟨h.os, h.tape, h.output, h.size, fun g hg => h.block g (by omega) (by omega)⟩
theorem UpB.set (P i : Nat) (w : World) (v : Value) : UpB P w (w.setCell ⟨P, i, none⟩ v) :=
  ⟨rfl, rfl, rfl, by simp [World.setCell], fun g _ hg => Below.heap_setCell w ⟨P, i, none⟩ v g hg⟩
theorem UpB.drewN {P : Nat} {w w' : World} (h : UpB P w w') (n : Nat) : UpB P w (w'.drewN n) := ⟨h.os, h.tape, h.output, h.size, h.block⟩

def lnC (l : Ln) : Array Value := #[.string l.wd, .int .i64 (l.r : Int), .int .i64 (l.s : Int), .string l.pa, .string l.tx, .int .i64 (l.n : Int), .int .i64 (l.m : Int)]
/-- A line lies in a block. -/
def LnAt (w : World) (P : Nat) (l : Ln) : Prop := w.heap[P]? = some (.cells (lnC l) 67 (0, 0))
theorem LnAt.lt {w : World} {P : Nat} {l : Ln} (h : LnAt w P l) : P < w.heap.size := (Array.getElem?_eq_some_iff.1 h).1
theorem LnAt.below {w w' : World} {P : Nat} {l : Ln} (h : LnAt w P l) (hb : Below w.heap.size w w') : LnAt w' P l := (hb.block P h.lt).trans h
/-- What a part comes to. -/
def TkQ (lines k P : Nat) (l : Ln) (g : ByteArray) (w : World) (e : Ending) (w' : World) : Prop :=
  e = .returned (.bool (takP lines k l g.data.toList).isSome) ∧ (∃ l', LnAt w' P l' ∧ ∀ l2, takP lines k l g.data.toList = some l2 → l' = l2) ∧ UpB P w w'

set_option maxHeartbeats 1000000 in
set_option maxRecDepth 100000 in
theorem part_r (lines P : Nat) (l : Ln) (g : ByteArray) (w : World) (hl : LnAt w P l) (hg : g.size ≤ 1000000) :
    Calls Tryz.prog 54 #[.pointer (some ⟨P, 0, none⟩), .string g] w (TkQ lines 0 P l g w) := by
  have HR : Hid (∀ W, Calls Tryz.prog 55 #[.string g] W fun e w' => e = .returned (.tuple (regV g.data.toList)) ∧ w' = W) := fun W => register_any g W hg
  have f1 := Lib.frozen_of_heap hl 1
  have c1 : w.cell? ⟨P, 1, none⟩ = some (.int .i64 (l.r : Int)) := by rw [Lib.cell_of_heap hl]; rfl
  have H : Hid (LnAt w P l) := hl
  clear hl hg
  cases hv : regF g.data.toList with
  | none =>
    rw [show regV g.data.toList = #[.int .i64 0, .bool false] by unfold regV; rw [hv]] at HR
    have HV : Hid (regF g.data.toList = none) := hv
    clear hv
    go_enter Tryz.func54, Tryz.ntmps54
    go_wp2_with (first | (go_at_call 55; refine (HR.out _).mono ?_; rintro e w1 ⟨rfl, hw⟩; subst w1) | go_in)
    go_ret
    have ht : takP lines 0 l g.data.toList = none := by unfold takP; simp [HV.out]
    refine ⟨by rw [ht]; rfl, ⟨{ l with r := 0 }, ?_, fun l2 h2 => by rw [ht] at h2; cases h2⟩, UpB.set P 1 w _⟩
    exact Go.Joins.block_setCell H.out _
  | some v =>
    rw [show regV g.data.toList = #[.int .i64 (v : Int), .bool true] by unfold regV; rw [hv]] at HR
    have HV : Hid (regF g.data.toList = some v) := hv
    clear hv
    go_enter Tryz.func54, Tryz.ntmps54
    go_wp2_with (first | (go_at_call 55; refine (HR.out _).mono ?_; rintro e w1 ⟨rfl, hw⟩; subst w1) | go_in)
    go_ret
    have ht : takP lines 0 l g.data.toList = some { l with r := v } := by unfold takP; simp [HV.out]
    refine ⟨by rw [ht]; rfl, ⟨{ l with r := v }, ?_, fun l2 h2 => by rw [ht] at h2; exact Option.some.inj h2⟩, UpB.set P 1 w _⟩
    exact Go.Joins.block_setCell H.out _

set_option maxHeartbeats 1000000 in
set_option maxRecDepth 100000 in
theorem part_s (lines P : Nat) (l : Ln) (g : ByteArray) (w : World) (hl : LnAt w P l) (hg : g.size ≤ 1000000) :
    Calls Tryz.prog 56 #[.pointer (some ⟨P, 0, none⟩), .string g] w (TkQ lines 1 P l g w) := by
  have HR : Hid (∀ W, Calls Tryz.prog 55 #[.string g] W fun e w' => e = .returned (.tuple (regV g.data.toList)) ∧ w' = W) := fun W => register_any g W hg
  have f1 := Lib.frozen_of_heap hl 2
  have c1 : w.cell? ⟨P, 2, none⟩ = some (.int .i64 (l.s : Int)) := by rw [Lib.cell_of_heap hl]; rfl
  have H : Hid (LnAt w P l) := hl
  clear hl hg
  cases hv : regF g.data.toList with
  | none =>
    rw [show regV g.data.toList = #[.int .i64 0, .bool false] by unfold regV; rw [hv]] at HR
    have HV : Hid (regF g.data.toList = none) := hv
    clear hv
    go_enter Tryz.func56, Tryz.ntmps56
    go_wp2_with (first | (go_at_call 55; refine (HR.out _).mono ?_; rintro e w1 ⟨rfl, hw⟩; subst w1) | go_in)
    go_ret
    have ht : takP lines 1 l g.data.toList = none := by unfold takP; simp [HV.out]
    refine ⟨by rw [ht]; rfl, ⟨{ l with s := 0 }, ?_, fun l2 h2 => by rw [ht] at h2; cases h2⟩, UpB.set P 2 w _⟩
    exact Go.Joins.block_setCell H.out _
  | some v =>
    rw [show regV g.data.toList = #[.int .i64 (v : Int), .bool true] by unfold regV; rw [hv]] at HR
    have HV : Hid (regF g.data.toList = some v) := hv
    clear hv
    go_enter Tryz.func56, Tryz.ntmps56
    go_wp2_with (first | (go_at_call 55; refine (HR.out _).mono ?_; rintro e w1 ⟨rfl, hw⟩; subst w1) | go_in)
    go_ret
    have ht : takP lines 1 l g.data.toList = some { l with s := v } := by unfold takP; simp [HV.out]
    refine ⟨by rw [ht]; rfl, ⟨{ l with s := v }, ?_, fun l2 h2 => by rw [ht] at h2; exact Option.some.inj h2⟩, UpB.set P 2 w _⟩
    exact Go.Joins.block_setCell H.out _

set_option maxHeartbeats 1000000 in
set_option maxRecDepth 100000 in
theorem part_n (lines P : Nat) (l : Ln) (g : ByteArray) (w : World) (hl : LnAt w P l) (hg : g.size ≤ 1000000) :
    Calls Tryz.prog 57 #[.pointer (some ⟨P, 0, none⟩), .string g] w (TkQ lines 2 P l g w) := by
  have HR : Hid (∀ W, Calls Tryz.prog 58 #[.string g] W fun e w' => e = .returned (.tuple (numV g.data.toList)) ∧ Below W.heap.size W w') := fun W => numb_any g W hg
  have H : Hid (LnAt w P l) := hl
  clear hl hg
  cases hv : numF g.data.toList with
  | none =>
    rw [show numV g.data.toList = #[.int .i64 0, .bool false] by unfold numV; rw [hv]] at HR
    have HV : Hid (numF g.data.toList = none) := hv
    clear hv
    go_enter Tryz.func57, Tryz.ntmps57
    go_wp2_with (first | (go_at_call 58; refine (HR.out _).mono ?_; rintro e w1 ⟨rfl, hb⟩; have HB : Hid (Below w.heap.size w w1) := hb; have hl1 : w1.heap[P]? = some (.cells (lnC l) 67 (0, 0)) := H.out.below hb; have f1 := Lib.frozen_of_heap hl1 5; have c1 : w1.cell? ⟨P, 5, none⟩ = some (.int .i64 (l.n : Int)) := (by rw [Lib.cell_of_heap hl1]; rfl); have HL1 : Hid (LnAt w1 P l) := hl1; clear hb hl1) | go_in)
    go_ret
    have ht : takP lines 2 l g.data.toList = none := by unfold takP; simp [HV.out]
    refine ⟨by rw [ht]; rfl, ⟨{ l with n := 0 }, ?_, fun l2 h2 => by rw [ht] at h2; cases h2⟩, (UpB.of_below HB.out).trans (UpB.set P 5 _ _)⟩
    exact Go.Joins.block_setCell HL1.out _
  | some v =>
    rw [show numV g.data.toList = #[.int .i64 (v : Int), .bool true] by unfold numV; rw [hv]] at HR
    have HV : Hid (numF g.data.toList = some v) := hv
    clear hv
    go_enter Tryz.func57, Tryz.ntmps57
    go_wp2_with (first | (go_at_call 58; refine (HR.out _).mono ?_; rintro e w1 ⟨rfl, hb⟩; have HB : Hid (Below w.heap.size w w1) := hb; have hl1 : w1.heap[P]? = some (.cells (lnC l) 67 (0, 0)) := H.out.below hb; have f1 := Lib.frozen_of_heap hl1 5; have c1 : w1.cell? ⟨P, 5, none⟩ = some (.int .i64 (l.n : Int)) := (by rw [Lib.cell_of_heap hl1]; rfl); have HL1 : Hid (LnAt w1 P l) := hl1; clear hb hl1) | go_in)
    go_ret
    have ht : takP lines 2 l g.data.toList = some { l with n := v } := by unfold takP; simp [HV.out]
    refine ⟨by rw [ht]; rfl, ⟨{ l with n := v }, ?_, fun l2 h2 => by rw [ht] at h2; exact Option.some.inj h2⟩, (UpB.of_below HB.out).trans (UpB.set P 5 _ _)⟩
    exact Go.Joins.block_setCell HL1.out _

set_option maxHeartbeats 1000000 in
set_option maxRecDepth 100000 in
theorem part_m (lines P : Nat) (l : Ln) (g : ByteArray) (w : World) (hl : LnAt w P l) (hg : g.size ≤ 1000000) :
    Calls Tryz.prog 59 #[.pointer (some ⟨P, 0, none⟩), .string g] w (TkQ lines 3 P l g w) := by
  have HR : Hid (∀ W, Calls Tryz.prog 58 #[.string g] W fun e w' => e = .returned (.tuple (numV g.data.toList)) ∧ Below W.heap.size W w') := fun W => numb_any g W hg
  have H : Hid (LnAt w P l) := hl
  clear hl hg
  cases hv : numF g.data.toList with
  | none =>
    rw [show numV g.data.toList = #[.int .i64 0, .bool false] by unfold numV; rw [hv]] at HR
    have HV : Hid (numF g.data.toList = none) := hv
    clear hv
    go_enter Tryz.func59, Tryz.ntmps59
    go_wp2_with (first | (go_at_call 58; refine (HR.out _).mono ?_; rintro e w1 ⟨rfl, hb⟩; have HB : Hid (Below w.heap.size w w1) := hb; have hl1 : w1.heap[P]? = some (.cells (lnC l) 67 (0, 0)) := H.out.below hb; have f1 := Lib.frozen_of_heap hl1 6; have c1 : w1.cell? ⟨P, 6, none⟩ = some (.int .i64 (l.m : Int)) := (by rw [Lib.cell_of_heap hl1]; rfl); have HL1 : Hid (LnAt w1 P l) := hl1; clear hb hl1) | go_in)
    go_ret
    have ht : takP lines 3 l g.data.toList = none := by unfold takP; simp [HV.out]
    refine ⟨by rw [ht]; rfl, ⟨{ l with m := 0 }, ?_, fun l2 h2 => by rw [ht] at h2; cases h2⟩, (UpB.of_below HB.out).trans (UpB.set P 6 _ _)⟩
    exact Go.Joins.block_setCell HL1.out _
  | some v =>
    rw [show numV g.data.toList = #[.int .i64 (v : Int), .bool true] by unfold numV; rw [hv]] at HR
    have HV : Hid (numF g.data.toList = some v) := hv
    clear hv
    go_enter Tryz.func59, Tryz.ntmps59
    go_wp2_with (first | (go_at_call 58; refine (HR.out _).mono ?_; rintro e w1 ⟨rfl, hb⟩; have HB : Hid (Below w.heap.size w w1) := hb; have hl1 : w1.heap[P]? = some (.cells (lnC l) 67 (0, 0)) := H.out.below hb; have f1 := Lib.frozen_of_heap hl1 6; have c1 : w1.cell? ⟨P, 6, none⟩ = some (.int .i64 (l.m : Int)) := (by rw [Lib.cell_of_heap hl1]; rfl); have HL1 : Hid (LnAt w1 P l) := hl1; clear hb hl1) | go_in)
    go_ret
    have ht : takP lines 3 l g.data.toList = some { l with m := v } := by unfold takP; simp [HV.out]
    refine ⟨by rw [ht]; rfl, ⟨{ l with m := v }, ?_, fun l2 h2 => by rw [ht] at h2; exact Option.some.inj h2⟩, (UpB.of_below HB.out).trans (UpB.set P 6 _ _)⟩
    exact Go.Joins.block_setCell HL1.out _

set_option maxHeartbeats 1000000 in
set_option maxRecDepth 100000 in
theorem part_text (lines P : Nat) (l : Ln) (g : ByteArray) (w : World) (hl : LnAt w P l) :
    Calls Tryz.prog 62 #[.pointer (some ⟨P, 0, none⟩), .string g] w (TkQ lines 6 P l g w) := by
  have f1 := Lib.frozen_of_heap hl 4
  have c1 : w.cell? ⟨P, 4, none⟩ = some (.string l.tx) := by rw [Lib.cell_of_heap hl]; rfl
  have H : Hid (LnAt w P l) := hl
  clear hl
  go_enter Tryz.func62, Tryz.ntmps62
  go_wp2
  go_ret
  have ht : takP lines 6 l g.data.toList = some { l with tx := g } := by unfold takP bA; simp
  refine ⟨by rw [ht]; rfl, ⟨{ l with tx := g }, ?_, fun l2 h2 => by rw [ht] at h2; exact Option.some.inj h2⟩, UpB.set P 4 w _⟩
  exact Go.Joins.block_setCell H.out _

theorem bA_data (g : ByteArray) : bA g.data.toList = g := by unfold bA; simp

set_option maxHeartbeats 1000000 in
set_option maxRecDepth 100000 in
theorem part_path (P : Nat) (l : Ln) (g : ByteArray) (w : World) (hl : LnAt w P l) (hm : MaxIs w) :
    Calls Tryz.prog 63 #[.pointer (some ⟨P, 0, none⟩), .string g] w fun e w' => e = .returned (.bool (pathOk g)) ∧ LnAt w' P { l with pa := g } ∧ UpB P w w' := by
  have f1 := Lib.frozen_of_heap hl 3
  have c1 : w.cell? ⟨P, 3, none⟩ = some (.string l.pa) := by rw [Lib.cell_of_heap hl]; rfl
  have H : Hid (LnAt w P l) := hl
  have hl2 : LnAt (w.setCell ⟨P, 3, none⟩ (.string g)) P { l with pa := g } := Go.Joins.block_setCell hl _
  have HU : Hid (UpB P w (w.setCell ⟨P, 3, none⟩ (.string g))) := UpB.set P 3 w _
  have hm2 : MaxIs (w.setCell ⟨P, 3, none⟩ (.string g)) := by
    obtain ⟨x, hx⟩ := hm
    by_cases hP : P = 2
    · subst hP
      rw [Lib.cell_of_heap hl] at hx
      cases hx
    · refine ⟨x, ?_⟩
      rw [World.cell?_setCell_other _ _ _ _ (fun e => hP (by have := congrArg Addr.block e; exact this))]
      exact hx
  have HP : Hid (Calls Tryz.prog 49 #[.string g] (w.setCell ⟨P, 3, none⟩ (.string g)) fun e w' => e = .returned (.bool (pathOk g)) ∧ Below (w.setCell ⟨P, 3, none⟩ (.string g)).heap.size (w.setCell ⟨P, 3, none⟩ (.string g)) w') := IsPath_any g _ hm2
  have HL : Hid (LnAt (w.setCell ⟨P, 3, none⟩ (.string g)) P { l with pa := g }) := hl2
  clear hl hl2 hm hm2
  go_enter Tryz.func63, Tryz.ntmps63
  go_wp2_with (first | (go_at_call 49; refine HP.out.mono ?_; rintro e w1 ⟨rfl, hb⟩; have HB : Hid (Below (w.setCell ⟨P, 3, none⟩ (.string g)).heap.size (w.setCell ⟨P, 3, none⟩ (.string g)) w1) := hb; clear hb) | go_in)
  go_ret
  exact ⟨rfl, HL.out.below HB.out, HU.out.trans (UpB.of_below HB.out)⟩
theorem part_path7 (lines P : Nat) (l : Ln) (g : ByteArray) (w : World) (hl : LnAt w P l) (hm : MaxIs w) :
    Calls Tryz.prog 63 #[.pointer (some ⟨P, 0, none⟩), .string g] w (TkQ lines 7 P l g w) := by
  refine (part_path P l g w hl hm).mono ?_
  rintro e w' ⟨rfl, h1, h2⟩
  have ht : takP lines 7 l g.data.toList = if pathOk g = true then some { l with pa := g } else none := by
    unfold takP
    rw [bA_data]
    simp
  refine ⟨?_, ⟨_, h1, fun l2 e => ?_⟩, h2⟩
  · rw [ht]
    cases pathOk g <;> rfl
  · rw [ht] at e
    split at e
    · exact Option.some.inj e
    · cases e

/-- What the parts lean on: a number is a part of its own, and so is a path; how many lines there are. -/
def PrtE (w : World) (bn bl bp lines : Nat) : Prop :=
  w.cell? ⟨bn, 0, none⟩ = some (.func (.func 57) #[] #[]) ∧ w.cell? ⟨bl, 0, none⟩ = some (.int .i64 (lines : Int)) ∧ w.cell? ⟨bp, 0, none⟩ = some (.func (.func 63) #[] #[])
theorem ne_of_cell {w : World} {P b : Nat} {v : Value} {l : Ln} (hl : LnAt w P l) (hc : w.cell? ⟨b, 0, none⟩ = some v) (hv : ∀ s, v ≠ .string s) : b ≠ P := by
  rintro rfl
  rw [Lib.cell_of_heap hl] at hc
  exact hv l.wd (Option.some.inj hc).symm
theorem cell_up {w w' : World} {P b : Nat} {v : Value} (hu : UpB P w w') (hn : b ≠ P) (hc : w.cell? ⟨b, 0, none⟩ = some v) : w'.cell? ⟨b, 0, none⟩ = some v := by
  have hlt : b < w.heap.size := World.block_lt_of_cell? w ⟨b, 0, none⟩ hc
  have := hu.block b hlt hn
  unfold World.cell? at hc ⊢
  simp only at hc ⊢
  rw [this]
  exact hc

set_option maxHeartbeats 1000000 in
set_option maxRecDepth 100000 in
theorem part_end (lines P bn : Nat) (l : Ln) (g : ByteArray) (w : World) (hl : LnAt w P l) (hg : g.size ≤ 1000000) (hn : w.cell? ⟨bn, 0, none⟩ = some (.func (.func 57) #[] #[])) :
    Calls Tryz.prog 61 #[.pointer (some ⟨P, 0, none⟩), .string g, .pointer (some ⟨bn, 0, none⟩)] w (TkQ lines 5 P l g w) := by
  have HR : Hid (Calls Tryz.prog 57 #[.pointer (some ⟨P, 0, none⟩), .string g] w (TkQ lines 2 P l g w)) := part_n lines P l g w hl hg
  clear hl hg
  cases hv : numF g.data.toList with
  | none =>
    have h2 : takP lines 2 l g.data.toList = none := by unfold takP; simp [hv]
    have h5 : Hid (takP lines 5 l g.data.toList = none) := by show _ = _; unfold takP; simp [hv]
    unfold TkQ at HR
    rw [h2] at HR
    clear hv h2
    go_enter Tryz.func61, Tryz.ntmps61
    go_wp2_with (first | (go_at_call 57; refine HR.out.mono ?_; rintro e w1 ⟨rfl, hq⟩; have HQ : Hid _ := hq; clear hq) | go_in)
    go_ret
    obtain ⟨⟨l', q1, _⟩, q3⟩ := HQ.out
    exact ⟨by rw [h5.out]; rfl, ⟨l', q1, fun l2 e => by rw [h5.out] at e; cases e⟩, q3⟩
  | some v =>
    have h2 : takP lines 2 l g.data.toList = some { l with n := v } := by unfold takP; simp [hv]
    have h5 : Hid (takP lines 5 l g.data.toList = if v ≤ 99 then some { l with n := v } else none) := by show _ = _; unfold takP; simp [hv]
    unfold TkQ at HR
    rw [h2] at HR
    clear hv h2
    by_cases h9 : v ≤ 99
    · have h9i : (v : Int) ≤ 99 := by omega
      go_enter Tryz.func61, Tryz.ntmps61
      go_wp2_with (first | (go_at_call 57; refine HR.out.mono ?_; rintro e w1 ⟨rfl, hq⟩; have HQ : Hid _ := hq; obtain ⟨⟨l', q1, q2⟩, q3⟩ := hq; obtain rfl := q2 _ rfl; have c5 : w1.cell? ⟨P, 5, none⟩ = some (.int .i64 (v : Int)) := (by rw [Lib.cell_of_heap q1]; rfl); clear q1 q2 q3) | go_in)
      go_ret
      obtain ⟨⟨l', q1, q2⟩, q3⟩ := HQ.out
      obtain rfl := q2 _ rfl
      rw [if_pos h9] at h5
      exact ⟨by rw [h5.out]; rfl, ⟨_, q1, fun l2 e => by rw [h5.out] at e; exact Option.some.inj e⟩, q3⟩
    · have h9i : ¬ (v : Int) ≤ 99 := by omega
      go_enter Tryz.func61, Tryz.ntmps61
      go_wp2_with (first | (go_at_call 57; refine HR.out.mono ?_; rintro e w1 ⟨rfl, hq⟩; have HQ : Hid _ := hq; obtain ⟨⟨l', q1, q2⟩, q3⟩ := hq; obtain rfl := q2 _ rfl; have c5 : w1.cell? ⟨P, 5, none⟩ = some (.int .i64 (v : Int)) := (by rw [Lib.cell_of_heap q1]; rfl); clear q1 q2 q3) | go_in)
      go_ret
      obtain ⟨⟨l', q1, q2⟩, q3⟩ := HQ.out
      obtain rfl := q2 _ rfl
      rw [if_neg h9] at h5
      exact ⟨by rw [h5.out]; show Ending.returned (.bool (decide ((v : Int) ≤ 99))) = _; rw [decide_eq_false (by omega)]; rfl, ⟨_, q1, fun l2 e => by rw [h5.out] at e; cases e⟩, q3⟩

set_option maxHeartbeats 1000000 in
set_option maxRecDepth 100000 in
theorem part_dir (lines P bp : Nat) (l : Ln) (g : ByteArray) (w : World) (hl : LnAt w P l) (hm : MaxIs w) (hn : w.cell? ⟨bp, 0, none⟩ = some (.func (.func 63) #[] #[])) :
    Calls Tryz.prog 64 #[.pointer (some ⟨P, 0, none⟩), .string g, .pointer (some ⟨bp, 0, none⟩)] w (TkQ lines 8 P l g w) := by
  have HR : Hid (Calls Tryz.prog 63 #[.pointer (some ⟨P, 0, none⟩), .string g] w fun e w' => e = .returned (.bool (pathOk g)) ∧ LnAt w' P { l with pa := g } ∧ UpB P w w') := part_path P l g w hl hm
  have ht : Hid (takP lines 8 l g.data.toList = if pathOk g = true ∨ g.data.toList = [46] then some { l with pa := g } else none) := by
    show _ = _
    unfold takP
    rw [bA_data]
    simp
  clear hl hm
  cases hp : pathOk g with
  | true =>
    rw [hp] at HR ht
    go_enter Tryz.func64, Tryz.ntmps64
    go_wp2_with (first | (go_at_call 63; refine HR.out.mono ?_; rintro e w1 ⟨rfl, hq⟩; have HQ : Hid _ := hq; clear hq) | go_in)
    go_ret
    rw [if_pos (.inl (by simp))] at ht
    exact ⟨by rw [ht.out]; rfl, ⟨_, HQ.out.1, fun l2 e => by rw [ht.out] at e; exact Option.some.inj e⟩, HQ.out.2⟩
  | false =>
    rw [hp] at HR ht
    by_cases hd : g.data.toList = [46]
    · have hd' : (g.toList == [46]) = true := by rw [Lib.toList_data, hd]; rfl
      have HD : Hid (g.data.toList = [46]) := hd
      clear hd hp
      go_enter Tryz.func64, Tryz.ntmps64
      go_wp2_with (first | (go_at_call 63; refine HR.out.mono ?_; rintro e w1 ⟨rfl, hq⟩; have HQ : Hid _ := hq; clear hq) | go_in)
      go_ret
      rw [if_pos (.inr HD.out)] at ht
      exact ⟨by rw [ht.out]; rfl, ⟨_, HQ.out.1, fun l2 e => by rw [ht.out] at e; exact Option.some.inj e⟩, HQ.out.2⟩
    · have hd' : (g.toList == [46]) = false := by rw [Lib.toList_data]; exact beq_eq_false_iff_ne.2 hd
      have HD : Hid (g.data.toList ≠ [46]) := hd
      clear hd hp
      go_enter Tryz.func64, Tryz.ntmps64
      go_wp2_with (first | (go_at_call 63; refine HR.out.mono ?_; rintro e w1 ⟨rfl, hq⟩; have HQ : Hid _ := hq; clear hq) | go_in)
      go_ret
      rw [if_neg (fun h => h.elim (fun h => by simp at h) HD.out)] at ht
      exact ⟨by rw [ht.out]; rfl, ⟨_, HQ.out.1, fun l2 e => by rw [ht.out] at e; cases e⟩, HQ.out.2⟩

theorem step_call {P : Program} {ops : Array Oper} {o : Oper} {a : Act} {w : World} {K : Act → World → Prop} {Q : Exit → Act → World → Prop} {E : Prop} (hg : o.guard = none) (h : Oper.wp P o a w K Q) : if Region.wanted o (yielded ops a.tmps) = true then Oper.wp P o a w K Q else E := by
  have hw : Region.wanted o (yielded ops a.tmps) = true := by simp [Region.wanted, hg]
  rw [if_pos hw]
  exact h

theorem wpAny_takeF {P : Program} {ops : Array Oper} {Q : Exit → Act → World → Prop} {md : Region.Mode} {i : Nat} {oi : Oper} {v : Value} {fuel : Nat} {listed : Array Bool} {a a2 : Act} {w : World} (hi : ops[i]? = some oi)
    (hs : Region.noSelect ops = true) (hf : Region.free md ops listed i = true) (hr : (Region.ready md ops listed).contains i = true)
    (hQ : ∀ c a w, Q (.panic c) (a.put oi.dst v) w → Q (.panic c) a w) (hy : Yields P ops oi v a) (he : a.put oi.dst v = a2)
    (h : wpAny P md ops Q fuel (listed.setIfInBounds i true) a2 w) : wpAny P md ops Q (fuel + 1) listed a w := wpAny_take hi hs hf hr hQ hy (he ▸ h)

def AtS (bn P : Nat) (w W : World) : Prop := W.cell? ⟨bn, 0, none⟩ = some (.func (.func 57) #[] #[]) ∧ (∃ l', LnAt W P l') ∧ UpB P w W

set_option maxHeartbeats 8000000 in
set_option maxRecDepth 100000 in
theorem part_at (lines P bn bl : Nat) (l : Ln) (g : ByteArray) (w : World) (hl : LnAt w P l) (hg : g.size ≤ 1000000) (hn : w.cell? ⟨bn, 0, none⟩ = some (.func (.func 57) #[] #[])) (hb : w.cell? ⟨bl, 0, none⟩ = some (.int .i64 (lines : Int))) :
    Calls Tryz.prog 60 #[.pointer (some ⟨P, 0, none⟩), .string g, .pointer (some ⟨bn, 0, none⟩), .pointer (some ⟨bl, 0, none⟩)] w (TkQ lines 4 P l g w) := by
  have HR : Hid (Calls Tryz.prog 57 #[.pointer (some ⟨P, 0, none⟩), .string g] w.drew (TkQ lines 2 P l g w.drew)) := part_n lines P l g w.drew hl hg
  have HC : Hid (∀ w1, UpB P w.drew w1 → w1.cell? ⟨bl, 0, none⟩ = some (.int .i64 (lines : Int))) := fun w1 hu => cell_up (w := w.drew) hu (ne_of_cell hl hb (fun s e => by cases e)) hb
  have HG : Hid (g.size ≤ 1000000) := hg
  have HL : Hid (LnAt w P l) := hl
  have HU0 : Hid (w.drew.cell? ⟨bn, 0, none⟩ = some (.func (.func 57) #[] #[]) ∧ AtS bn P w w.drew) := ⟨hn, hn, ⟨l, hl⟩, ⟨rfl, rfl, rfl, Nat.le_refl _, fun _ _ _ => rfl⟩⟩
  clear hl hg hb
  cases hv : numF g.data.toList with
  | none =>
    have h2 : takP lines 2 l g.data.toList = none := by unfold takP; simp [hv]
    have h5 : Hid (takP lines 4 l g.data.toList = none) := by show _ = _; unfold takP; simp [hv]
    have HR2 : Hid (∀ W, AtS bn P w W → Calls Tryz.prog 57 #[.pointer (some ⟨P, 0, none⟩), .string g] W fun e w' => e = .returned (.bool false) ∧ (w'.cell? ⟨bn, 0, none⟩ = some (.func (.func 57) #[] #[]) ∧ AtS bn P w w')) := by
      rintro W ⟨q1, ⟨l', q2⟩, q3⟩
      refine (part_n lines P l' g W q2 HG.out).mono ?_
      rintro e w1 ⟨rfl, ⟨l2, r1, _⟩, r3⟩
      have h3 : takP lines 2 l' g.data.toList = none := by unfold takP; simp [hv]
      have r4 := cell_up r3 (ne_of_cell q2 q1 (fun s e => by cases e)) q1
      exact ⟨by rw [h3]; rfl, r4, r4, ⟨l2, r1⟩, q3.trans r3⟩
    clear hv h2 HR
    go_enter Tryz.func60, Tryz.ntmps60
    go_wp2
    refine wp_region_any (by kernel_rfl) ?_
    refine wpAny_take (i := 1) (v := .pointer (some ⟨P, 0, none⟩)) (by rfl) (by kernel_rfl) (by kernel_rfl) (by kernel_rfl) (by intro c a w h; exact h) (.inl ⟨by kernel_rfl, fun _ => by kernel_rfl⟩) ?_
    simp only [Act.put, Array.setIfInBounds, Array.set]
    refine wpAny_take (i := 2) (v := .string g) (by rfl) (by kernel_rfl) (by kernel_rfl) (by kernel_rfl) (by intro c a w h; exact h) (.inl ⟨by kernel_rfl, fun _ => by kernel_rfl⟩) ?_
    simp only [Act.put, Array.setIfInBounds, Array.set]
    refine wpAny_ready (rs := [0]) (by kernel_rfl) (by simp) (AllReady.cons (by rfl) (fun K hK => ?_) AllReady.nil)
    rw [if_pos (by rfl)]
    go_simp
    refine hK _ _ ?_
    refine wpAny_ready (rs := [3]) (by kernel_rfl) (by simp) (AllReady.cons (by rfl) (fun K2 hK2 => ?_) AllReady.nil)
    refine step_call (by rfl) ?_
    go_simp
    go_at_call 57
    refine (HR2.out _ HU0.out.2).mono ?_
    rintro e w1 ⟨rfl, q1, q2⟩
    refine hK2 _ _ ?_
    refine wpAny_take (i := 4) (v := .bool false) (by rfl) (by kernel_rfl) (by kernel_rfl) (by kernel_rfl) (by intro c a w h; exact h) (.inl ⟨by kernel_rfl, fun _ => by kernel_rfl⟩) ?_
    simp only [Act.put, Array.setIfInBounds, Array.set]
    refine wpAny_take (i := 5) (v := undef) (by rfl) (by kernel_rfl) (by kernel_rfl) (by kernel_rfl) (by intro c a w h; exact h) (.inr ⟨by kernel_rfl, rfl⟩) ?_
    simp only [Act.put, Array.setIfInBounds, Array.set]
    refine wpAny_take (i := 6) (v := undef) (by rfl) (by kernel_rfl) (by kernel_rfl) (by kernel_rfl) (by intro c a w h; exact h) (.inr ⟨by kernel_rfl, rfl⟩) ?_
    simp only [Act.put, Array.setIfInBounds, Array.set]
    refine wpAny_take (i := 7) (v := undef) (by rfl) (by kernel_rfl) (by kernel_rfl) (by kernel_rfl) (by intro c a w h; exact h) (.inr ⟨by kernel_rfl, rfl⟩) ?_
    simp only [Act.put, Array.setIfInBounds, Array.set]
    refine wpAny_take (i := 8) (v := undef) (by rfl) (by kernel_rfl) (by kernel_rfl) (by kernel_rfl) (by intro c a w h; exact h) (.inr ⟨by kernel_rfl, rfl⟩) ?_
    simp only [Act.put, Array.setIfInBounds, Array.set]
    refine wpAny_take (i := 9) (v := undef) (by rfl) (by kernel_rfl) (by kernel_rfl) (by kernel_rfl) (by intro c a w h; exact h) (.inr ⟨by kernel_rfl, rfl⟩) ?_
    simp only [Act.put, Array.setIfInBounds, Array.set]
    refine wpAny_take (i := 10) (v := undef) (by rfl) (by kernel_rfl) (by kernel_rfl) (by kernel_rfl) (by intro c a w h; exact h) (.inr ⟨by kernel_rfl, rfl⟩) ?_
    simp only [Act.put, Array.setIfInBounds, Array.set]
    refine wpAny_takeF (i := 11) (v := .bool false) (a2 := ⟨#[.pointer (some ⟨P, 0, none⟩), .string g, .pointer (some ⟨bn, 0, none⟩), .pointer (some ⟨bl, 0, none⟩), undef, undef, .bool false, .func (.func 57) #[] #[], .pointer (some ⟨P, 0, none⟩), .string g, .bool false, .bool false, undef, undef, undef, undef, undef, undef, .bool false], []⟩) (by rfl) (by kernel_rfl) (by kernel_rfl) (by kernel_rfl) (by intro c a w h; exact h) (.inl ⟨by kernel_rfl, fun _ => by kernel_rfl⟩) (by kernel_rfl) ?_
    refine wpAny_takeF (i := 12) (v := .bool false) (a2 := ⟨#[.pointer (some ⟨P, 0, none⟩), .string g, .pointer (some ⟨bn, 0, none⟩), .pointer (some ⟨bl, 0, none⟩), undef, undef, .bool false, .func (.func 57) #[] #[], .pointer (some ⟨P, 0, none⟩), .string g, .bool false, .bool false, undef, undef, undef, undef, undef, undef, .bool false], []⟩) (by rfl) (by kernel_rfl) (by kernel_rfl) (by kernel_rfl) (by intro c a w h; exact h) (.inl ⟨by kernel_rfl, fun _ => by kernel_rfl⟩) (by kernel_rfl) ?_
    refine wpAny_done (by kernel_rfl) ?_ _
    go_wp2
    go_ret
    obtain ⟨_, ⟨l', r1⟩, r3⟩ := q2
    exact ⟨by rw [h5.out]; rfl, ⟨l', r1, fun l2 e => by rw [h5.out] at e; cases e⟩, r3⟩
  | some v =>
    have h2 : takP lines 2 l g.data.toList = some { l with n := v } := by unfold takP; simp [hv]
    have h5 : Hid (takP lines 4 l g.data.toList = if v ≤ lines then some { l with n := v } else none) := by show _ = _; unfold takP; simp [hv]
    have HR2 : Hid (Calls Tryz.prog 57 #[.pointer (some ⟨P, 0, none⟩), .string g] w.drew fun e w' => e = .returned (.bool true) ∧ LnAt w' P { l with n := v } ∧ UpB P w.drew w') := HR.out.mono fun e w' hq => ⟨by rw [hq.1, h2]; rfl, by have h3 := hq.2.1.choose_spec; rw [← h3.2 _ h2]; exact h3.1, hq.2.2⟩
    clear hv h2 HR
    by_cases h9 : v ≤ lines
    · have h9i : (v : Int) ≤ (lines : Int) := by omega
      go_enter Tryz.func60, Tryz.ntmps60
      go_wp2
      go_region_with ((go_at_call 57; refine HR2.out.mono ?_; rintro e w1 ⟨rfl, hq⟩; have HQ : Hid _ := hq; obtain ⟨q1, q3⟩ := hq; have c5 : w1.cell? ⟨P, 5, none⟩ = some (.int .i64 (v : Int)) := (by rw [Lib.cell_of_heap q1]; rfl); have cl := HC.out w1 q3; clear q1 q3))
      all_goals
        go_wp2
        go_ret
        obtain ⟨q1, q3⟩ := HQ.out
        rw [if_pos h9] at h5
        exact ⟨by rw [h5.out]; rfl, ⟨_, q1, fun l2 e => by rw [h5.out] at e; exact Option.some.inj e⟩, ⟨q3.os, q3.tape, q3.output, q3.size, q3.block⟩⟩
    · have h9i : ¬ (v : Int) ≤ (lines : Int) := by omega
      go_enter Tryz.func60, Tryz.ntmps60
      go_wp2
      go_region_with ((go_at_call 57; refine HR2.out.mono ?_; rintro e w1 ⟨rfl, hq⟩; have HQ : Hid _ := hq; obtain ⟨q1, q3⟩ := hq; have c5 : w1.cell? ⟨P, 5, none⟩ = some (.int .i64 (v : Int)) := (by rw [Lib.cell_of_heap q1]; rfl); have cl := HC.out w1 q3; clear q1 q3))
      all_goals
        go_wp2
        go_ret
        obtain ⟨q1, q3⟩ := HQ.out
        rw [if_neg h9] at h5
        exact ⟨by rw [h5.out]; first | rfl | (show Ending.returned (.bool (decide ((v : Int) ≤ (lines : Int)))) = _; rw [decide_eq_false (by omega)]; rfl), ⟨_, q1, fun l2 e => by rw [h5.out] at e; cases e⟩, ⟨q3.os, q3.tape, q3.output, q3.size, q3.block⟩⟩
end Go.Proofs.YtapiedeekbfpnaaGreatDoor

/- What stands behind each first word is laid into a map. -/
namespace Go.Proofs.YtapiedeekbfpnaaGreatDoor
open Go.RowKit Go.Shelf Go.Maps Go.WideMaps

theorem lawSb : Keyed Tryz.prog 9 := string_keyed Tryz.underlying9
/-- How a list of parts reads: by its block, and how many there are. -/
def slE (v : Value) : Option (DataW Unit × List MemPlace) := match v with
  | .slice (some ⟨b, 0, none⟩) n c => if n = c ∧ n < 4 then some (.lit (.int .i64 ((4 * b + n : Nat) : Int)), []) else none
  | .slice none 0 0 => some (.lit (.int .i64 (-1)), [])
  | _ => none
theorem slE_mk (b n : Nat) (h : n < 4) : slE (.slice (some ⟨b, 0, none⟩) n n) = some (.lit (.int .i64 ((4 * b + n : Nat) : Int)), []) := by
  show (if n = n ∧ n < 4 then _ else _) = _
  rw [if_pos ⟨rfl, h⟩]
theorem slE_inv {v : Value} {b n : Nat} {ps : List MemPlace} (hn : n < 4) (h : slE v = some (.lit (.int .i64 ((4 * b + n : Nat) : Int)), ps)) : v = .slice (some ⟨b, 0, none⟩) n n := by
  unfold slE at h
  split at h
  · split at h
    · rename_i b2 n2 c2 hc
      injection h with h
      injection h with h _
      injection h with h
      injection h with _ h
      have e : 4 * b2 + n2 = 4 * b + n := by omega
      obtain rfl : b2 = b := by omega
      obtain rfl : n2 = n := by omega
      rw [← hc.1]
    · cases h
  · injection h with h
    injection h with h _
    injection h with h
    injection h with _ h
    omega
  · cases h
theorem zeroL (w : World) : (zeroValue 94).run Tryz.prog w = .ok (.slice none 0 0) w := by kernel_rfl

/-- The parts themselves. -/
def cvP (bn bl bp k : Nat) : Value :=
  if k = 0 then .func (.func 54) #[] #[]
  else if k = 1 then .func (.func 56) #[] #[]
  else if k = 2 then .func (.func 57) #[] #[]
  else if k = 3 then .func (.func 59) #[] #[]
  else if k = 4 then .func (.func 60) #[] #[.pointer (some ⟨bn, 0, none⟩), .pointer (some ⟨bl, 0, none⟩)]
  else if k = 5 then .func (.func 61) #[] #[.pointer (some ⟨bn, 0, none⟩)]
  else if k = 6 then .func (.func 62) #[] #[]
  else if k = 7 then .func (.func 63) #[] #[]
  else .func (.func 64) #[] #[.pointer (some ⟨bp, 0, none⟩)]
/-- The map's datum. -/
def dF : List (List UInt8 × List Nat) → List Nat → DataW Unit → DataW Unit
  | f :: fs, b :: bs, D => dF fs bs (D.put (.string f.1) (.lit (.int .i64 ((4 * b + f.2.length : Nat) : Int))))
  | _, _, D => D
theorem dF_snoc : ∀ (fs : List (List UInt8 × List Nat)) (bs : List Nat) (D : DataW Unit) (b : Nat) (f : List UInt8 × List Nat), fs[bs.length]? = some f → dF fs (bs ++ [b]) D = (dF fs bs D).put (.string f.1) (.lit (.int .i64 ((4 * b + f.2.length : Nat) : Int))) := by
  intro fs
  induction fs with
  | nil => intro bs D b f h; simp at h
  | cons g fs ih =>
    intro bs D b f h
    cases bs with
    | nil =>
      have h' : g = f := by simpa using h
      subst h'
      cases fs <;> rfl
    | cons c bs => exact ih bs _ b f (by simpa using h)
structure FmI (B M bn bl bp lines : Nat) (w0 : World) (bs : List Nat) (w : World) : Prop where
  own : w.ownsMap Tryz.prog 9 slE M bs.length (dF frmL bs (.map []))
  rows : ∀ (j b : Nat), bs[j]? = some b → ∃ f : List UInt8 × List Nat, frmL[j]? = some f ∧ w.heap[b]? = some (.cells (f.2.map (cvP bn bl bp)).toArray 99 (0, 0)) ∧ M < b ∧ b < w.heap.size
  env : PrtE w bn bl bp lines
  lo : B ≤ bn ∧ B ≤ bl ∧ B ≤ bp ∧ bn < M ∧ bl < M ∧ bp < M
  lt : M < w.heap.size
  bel : Below B w0 w
theorem frm_len : ∀ f ∈ frmL, f.2.length < 4 ∧ f.1.length ≤ 4 := by decide

theorem FmI.step {B M bn bl bp lines : Nat} {w0 w w1 : World} {bs : List Nat} {f : List UInt8 × List Nat} (h : FmI B M bn bl bp lines w0 bs w) (hf : frmL[bs.length]? = some f)
    (hown : w1.ownsMap Tryz.prog 9 slE M (bs.length + 1) ((dF frmL bs (.map [])).put (.string f.1) (.lit (.int .i64 ((4 * w.heap.size + f.2.length : Nat) : Int)))))
    (hg : (w.alloc (.cells (f.2.map (cvP bn bl bp)).toArray 99)).grownBy w1 (some M)) : FmI B M bn bl bp lines w0 (bs ++ [w.heap.size]) w1 := by
  have hsz : (w.alloc (.cells (f.2.map (cvP bn bl bp)).toArray 99)).heap.size = w.heap.size + 1 := World.size_alloc _ _
  have hBM : B ≤ M := by have := h.lo; omega
  have hk : ∀ g, g < w.heap.size → g ≠ M → w1.heap[g]? = w.heap[g]? := fun g hlt hne => (hg.block g (by omega) (fun e => hne (Option.some.inj e))).trans (((Below.refl _ w).alloc (Nat.le_refl _) _).block g hlt)
  have hkc : ∀ g v, w.cell? ⟨g, 0, none⟩ = some v → g ≠ M → w1.cell? ⟨g, 0, none⟩ = some v := by
    intro g v hc hne
    have hlt : g < w.heap.size := World.block_lt_of_cell? w ⟨g, 0, none⟩ hc
    have := hk g hlt hne
    unfold World.cell? at hc ⊢
    simp only at hc ⊢
    rw [this]
    exact hc
  have hlt1 : w.heap.size + 1 ≤ w1.heap.size := by rw [← hsz]; exact hg.size
  have hM := h.lt
  refine ⟨?_, ?_, ?_, h.lo, by omega, ?_⟩
  · rw [dF_snoc _ _ _ _ _ hf, List.length_append]
    exact hown
  · intro j b hj
    by_cases hjl : j < bs.length
    · rw [List.getElem?_append_left hjl] at hj
      obtain ⟨f', h1, h2, h3, h4⟩ := h.rows j b hj
      exact ⟨f', h1, (hk b h4 (by omega)).trans h2, h3, by omega⟩
    · rw [List.getElem?_append_right (by omega)] at hj
      have hj0 : j = bs.length := by
        by_cases e : j - bs.length = 0
        · omega
        · rw [List.getElem?_eq_none (by simp; omega)] at hj
          cases hj
      subst hj0
      simp at hj
      subst hj
      refine ⟨f, hf, (hg.block _ (by omega) (fun e => by have := Option.some.inj e; omega)).trans (heap_alloc_new w _), hM, by omega⟩
  · obtain ⟨e1, e2, e3⟩ := h.env
    have := h.lo
    exact ⟨hkc _ _ e1 (by omega), hkc _ _ e2 (by omega), hkc _ _ e3 (by omega)⟩
  · exact (h.bel.alloc (by omega) _).grown hg (by rw [hsz]; omega) (fun j hj => by cases hj; exact hBM)

theorem upon_form {B M bn bl bp lines : Nat} {w0 w : World} {bs : List Nat} {f : List UInt8 × List Nat} {row : Array Value} {nb n : Nat} {ky : ByteArray} {β : Type} {R : Result β → Prop} {c : Unit → World → Result β}
    (h : FmI B M bn bl bp lines w0 bs w) (hf : frmL[bs.length]? = some f) (hrow : row = (f.2.map (cvP bn bl bp)).toArray) (hnb : w.heap.size = nb) (hk : ky = bA f.1) (hn2 : n = f.2.length)
    (hK : ∀ w', FmI B M bn bl bp lines w0 (bs ++ [nb]) w' → R (c () w')) :
    R (((Instr.mapUpdate 64 (.map (some M)) (.string ky) (.slice (some ⟨nb, 0, none⟩) n n)).run Tryz.prog (w.alloc (.cells row 99))).andThen c) := by
  subst hrow hnb hk hn2
  have hlt : bs.length < frmL.length := by
    by_cases hh : bs.length < frmL.length
    · exact hh
    · rw [List.getElem?_eq_none (by omega)] at hf; cases hf
  have hfm : f ∈ frmL := List.mem_of_getElem? hf
  obtain ⟨l1, l2⟩ := frm_len f hfm
  have hn : bs.length < maxLen := by
    have : frmL.length = 13 := rfl
    unfold maxLen
    omega
  have hkey : keyOf Tryz.prog 9 (.string (bA f.1)) = some (.string f.1) := by
    have := keyOf_string_mk (s := bA f.1) Tryz.underlying9 (by unfold maxLen; rw [show (bA f.1).size = f.1.length from size_of rfl]; omega)
    rw [this]
    unfold bA
    simp
  obtain ⟨w', hrun, r1, r2⟩ := (h.own.alloc (.cells (f.2.map (cvP bn bl bp)).toArray 99)).update lawSb Tryz.underlying64 hn hkey (slE_mk w.heap.size f.2.length l1)
  rw [hrun]
  exact hK w' (h.step hf r1 r2)

theorem FmI.first (lines : Nat) (w : World) : FmI w.heap.size (w.heap.size + 1 + 1 + 1) (w.heap.size + 1) w.heap.size (w.heap.size + 1 + 1) lines w [] ((((w.alloc (.cells #[.int .i64 (lines : Int)] 3)).alloc (.cells #[.func (.func 57) #[] #[]] 93)).alloc (.cells #[.func (.func 63) #[] #[]] 93)).alloc (.map #[] 0)) := by
  generalize hA : w.alloc (.cells #[.int .i64 (lines : Int)] 3) = wa
  have sa : wa.heap.size = w.heap.size + 1 := by rw [← hA, World.size_alloc]
  have ca : wa.cell? ⟨w.heap.size, 0, none⟩ = some (.int .i64 (lines : Int)) := by rw [← hA]; simp [go_sem]
  have ba : Below w.heap.size w wa := by rw [← hA]; exact (Below.refl _ w).alloc (Nat.le_refl _) _
  clear hA
  generalize hB : wa.alloc (.cells #[.func (.func 57) #[] #[]] 93) = wb
  have sb : wb.heap.size = w.heap.size + 1 + 1 := by rw [← hB, World.size_alloc, sa]
  have cb : wb.cell? ⟨w.heap.size + 1, 0, none⟩ = some (.func (.func 57) #[] #[]) := by rw [← hB, ← sa]; simp [go_sem]
  have cb2 : wb.cell? ⟨w.heap.size, 0, none⟩ = some (.int .i64 (lines : Int)) := by rw [← hB, World.cell?_alloc_old _ _ _ (by simp only; omega)]; exact ca
  have bb : Below w.heap.size w wb := by rw [← hB]; exact ba.alloc (by omega) _
  clear hB
  generalize hC : wb.alloc (.cells #[.func (.func 63) #[] #[]] 93) = wc
  have sc : wc.heap.size = w.heap.size + 1 + 1 + 1 := by rw [← hC, World.size_alloc, sb]
  have cc : wc.cell? ⟨w.heap.size + 1 + 1, 0, none⟩ = some (.func (.func 63) #[] #[]) := by rw [← hC, ← sb]; simp [go_sem]
  have cc2 : wc.cell? ⟨w.heap.size, 0, none⟩ = some (.int .i64 (lines : Int)) := by rw [← hC, World.cell?_alloc_old _ _ _ (by simp only; omega)]; exact cb2
  have cc3 : wc.cell? ⟨w.heap.size + 1, 0, none⟩ = some (.func (.func 57) #[] #[]) := by rw [← hC, World.cell?_alloc_old _ _ _ (by simp only; omega)]; exact cb
  have bc : Below w.heap.size w wc := by rw [← hC]; exact bb.alloc (by omega) _
  clear hC
  refine ⟨?_, fun j b h => by simp at h, ⟨?_, ?_, ?_⟩, ⟨by omega, by omega, by omega, by omega, by omega, by omega⟩, by rw [World.size_alloc]; omega, bc.alloc (by omega) _⟩
  · have := World.ownsMap_made (H := Unit) wc Tryz.prog 9 slE
    rw [sc] at this
    exact this
  · rw [World.cell?_alloc_old _ _ _ (by simp only; omega)]; exact cc3
  · rw [World.cell?_alloc_old _ _ _ (by simp only; omega)]; exact cc2
  · rw [World.cell?_alloc_old _ _ _ (by simp only; omega)]; exact cc

set_option maxHeartbeats 4000000 in
set_option maxRecDepth 100000 in
theorem newForms_any (lines : Nat) (w : World) :
    Calls Tryz.prog 34 #[.int .i64 (lines : Int)] w fun e w' => ∃ M bn bl bp bs, e = .returned (.map (some M)) ∧ bs.length = 13 ∧ FmI w.heap.size M bn bl bp lines w bs w' := by
  have hmm := @run_makeMap Tryz.prog
  have HF : Hid (FmI w.heap.size (w.heap.size + 1 + 1 + 1) (w.heap.size + 1) w.heap.size (w.heap.size + 1 + 1) lines w [] ((((w.alloc (.cells #[.int .i64 (lines : Int)] 3)).alloc (.cells #[.func (.func 57) #[] #[]] 93)).alloc (.cells #[.func (.func 63) #[] #[]] 93)).alloc (.map #[] 0))) := FmI.first lines w
  go_enter Tryz.func34, Tryz.ntmps34
  go_wp2
  iterate 13
    refine upon_form (R := Oper.upon _ _ _ _ _) HF.out (by rfl) (by rfl) (by first | rfl | simp only [World.size_alloc]) (by rfl) (by rfl) ?_
    intro w1 hf1
    clear HF
    have HF : Hid _ := hf1
    obtain ⟨cn, _, cp⟩ := hf1.env
    clear hf1
    go_wp2
    clear cn cp
  go_ret
  exact ⟨_, _, _, _, _, rfl, rfl, HF.out⟩
end Go.Proofs.YtapiedeekbfpnaaGreatDoor

/- A line is taken apart. -/
namespace Go.Proofs.YtapiedeekbfpnaaGreatDoor
open Go.RowKit Go.Shelf Go.Maps Go.WideMaps

def laysCt_ren : Go.Shelf.Ren := ⟨fun | 145 => 65 | 220 => 109 | 219 => 131 | 217 => 151 | 225 => 152 | 224 => 153 | 267 => 154 | 266 => 170 | 314 => 171 | n => n, fun | 9 => 9 | 4 => 4 | 59 => 95 | 3 => 3 | 5 => 5 | 46 => 134 | 146 => 168 | 51 => 126 | n => n, fun | 1 => 2 | n => n⟩
theorem laysCt : Go.Proofs.Lays.n145 Tryz.prog laysCt_ren := {
  mixed := by kernel_rfl
  f145 := Tryz.func65.trans (congrArg some (by kernel_rfl))
  f217 := Tryz.func151.trans (congrArg some (by kernel_rfl))
  f219 := Tryz.func131.trans (congrArg some (by kernel_rfl))
  f220 := Tryz.func109.trans (congrArg some (by kernel_rfl))
  f224 := Tryz.func153.trans (congrArg some (by kernel_rfl))
  f225 := Tryz.func152.trans (congrArg some (by kernel_rfl))
  f266 := Tryz.func170.trans (congrArg some (by kernel_rfl))
  f267 := Tryz.func154.trans (congrArg some (by kernel_rfl))
  f314 := Tryz.func171.trans (congrArg some (by kernel_rfl))
  t3 := Tryz.underlying3
  a3 := Tryz.isAgg3
  z3 := Tryz.sizeOf3
  v3 := Tryz.zeroValue3
  t4 := Tryz.underlying4
  a4 := Tryz.isAgg4
  z4 := Tryz.sizeOf4
  v4 := Tryz.zeroValue4
  t5 := Tryz.underlying5
  a5 := Tryz.isAgg5
  z5 := Tryz.sizeOf5
  v5 := Tryz.zeroValue5
  t9 := Tryz.underlying9
  a9 := Tryz.isAgg9
  z9 := Tryz.sizeOf9
  v9 := Tryz.zeroValue9
  t46 := Tryz.underlying134
  a46 := Tryz.isAgg134
  z46 := Tryz.sizeOf134
  v46 := Tryz.zeroValue134
  t51 := Tryz.underlying126
  a51 := Tryz.isAgg126
  z51 := Tryz.sizeOf126
  v51 := Tryz.zeroValue126
  t59 := Tryz.underlying95
  a59 := Tryz.isAgg95
  z59 := Tryz.sizeOf95
  v59 := Tryz.zeroValue95
  t146 := Tryz.underlying168
  a146 := Tryz.isAgg168
  z146 := Tryz.sizeOf168
  v146 := Tryz.zeroValue168
  g1 := by kernel_rfl }

def laysSN_ren : Ren := ⟨fun | 138 => 133 | 143 => 134 | 147 => 66 | 195 => 155 | 197 => 156 | 217 => 151 | 218 => 157 | 219 => 131 | 221 => 110 | 224 => 153 | 225 => 152 | 260 => 172 | 266 => 170 | 267 => 154 | 268 => 132 | 314 => 171 | n => n, fun | 0 => 0 | 3 => 3 | 4 => 4 | 5 => 5 | 9 => 9 | 21 => 21 | 31 => 23 | 46 => 134 | 51 => 126 | 105 => 154 | 119 => 176 | 138 => 178 | 139 => 179 | 146 => 168 | n => n, fun | 1 => 2 | 3 => 4 | 4 => 5 | n => n⟩
theorem laysSN : Go.Proofs.Lays.n147 Tryz.prog laysSN_ren := {
  mixed := by kernel_rfl
  f138 := Tryz.func133.trans (congrArg some (by kernel_rfl))
  f143 := Tryz.func134.trans (congrArg some (by kernel_rfl))
  f147 := Tryz.func66.trans (congrArg some (by kernel_rfl))
  f195 := Tryz.func155.trans (congrArg some (by kernel_rfl))
  f197 := Tryz.func156.trans (congrArg some (by kernel_rfl))
  f217 := Tryz.func151.trans (congrArg some (by kernel_rfl))
  f218 := Tryz.func157.trans (congrArg some (by kernel_rfl))
  f219 := Tryz.func131.trans (congrArg some (by kernel_rfl))
  f221 := Tryz.func110.trans (congrArg some (by kernel_rfl))
  f224 := Tryz.func153.trans (congrArg some (by kernel_rfl))
  f225 := Tryz.func152.trans (congrArg some (by kernel_rfl))
  f260 := Tryz.func172.trans (congrArg some (by kernel_rfl))
  f266 := Tryz.func170.trans (congrArg some (by kernel_rfl))
  f267 := Tryz.func154.trans (congrArg some (by kernel_rfl))
  f268 := Tryz.func132.trans (congrArg some (by kernel_rfl))
  f314 := Tryz.func171.trans (congrArg some (by kernel_rfl))
  t0 := Tryz.underlying0
  a0 := Tryz.isAgg0
  z0 := Tryz.sizeOf0
  v0 := Tryz.zeroValue0
  t3 := Tryz.underlying3
  a3 := Tryz.isAgg3
  z3 := Tryz.sizeOf3
  v3 := Tryz.zeroValue3
  t4 := Tryz.underlying4
  a4 := Tryz.isAgg4
  z4 := Tryz.sizeOf4
  v4 := Tryz.zeroValue4
  t5 := Tryz.underlying5
  a5 := Tryz.isAgg5
  z5 := Tryz.sizeOf5
  v5 := Tryz.zeroValue5
  t9 := Tryz.underlying9
  a9 := Tryz.isAgg9
  z9 := Tryz.sizeOf9
  v9 := Tryz.zeroValue9
  t21 := Tryz.underlying21
  a21 := Tryz.isAgg21
  z21 := Tryz.sizeOf21
  v21 := Tryz.zeroValue21
  t31 := Tryz.underlying23
  a31 := Tryz.isAgg23
  z31 := Tryz.sizeOf23
  v31 := Tryz.zeroValue23
  t46 := Tryz.underlying134
  a46 := Tryz.isAgg134
  z46 := Tryz.sizeOf134
  v46 := Tryz.zeroValue134
  t51 := Tryz.underlying126
  a51 := Tryz.isAgg126
  z51 := Tryz.sizeOf126
  v51 := Tryz.zeroValue126
  t105 := Tryz.underlying154
  a105 := Tryz.isAgg154
  z105 := Tryz.sizeOf154
  v105 := Tryz.zeroValue154
  t119 := Tryz.underlying176
  a119 := Tryz.isAgg176
  z119 := Tryz.sizeOf176
  t138 := Tryz.underlying178
  a138 := Tryz.isAgg178
  z138 := Tryz.sizeOf178
  v138 := Tryz.zeroValue178
  t139 := Tryz.underlying179
  a139 := Tryz.isAgg179
  z139 := Tryz.sizeOf179
  v139 := Tryz.zeroValue179
  t146 := Tryz.underlying168
  a146 := Tryz.isAgg168
  z146 := Tryz.sizeOf168
  v146 := Tryz.zeroValue168
  g1 := by kernel_rfl
  g3 := by kernel_rfl
  g4 := by kernel_rfl }

theorem omapS {H : Type} {w w' : World} {P : Program} {k : TypeId} {R : Value → Option (DataW H × List MemPlace)} {b n : Nat} {D : DataW H} (h : w.ownsMap P k R b n D) (hh : w'.heap[b]? = w.heap[b]?) : w'.ownsMap P k R b n D := by
  obtain ⟨es, clock, hb, rest⟩ := h
  exact ⟨es, clock, hh.trans hb, rest⟩
theorem dF_at (x : List UInt8) (z : DataW Unit) : ∀ (fs : List (List UInt8 × List Nat)) (bs : List Nat) (D : DataW Unit), Tidy D → fs.length = bs.length → (fs.map (·.1)).Nodup →
    (fs.lookup x = none → (dF fs bs D).atKey (.string x) z = D.atKey (.string x) z ∧ Maps.has (dF fs bs D) (.string x) = Maps.has D (.string x)) ∧
    (∀ f, fs.lookup x = some f → ∃ (j b : Nat), fs[j]? = some (x, f) ∧ bs[j]? = some b ∧ (dF fs bs D).atKey (.string x) z = .lit (.int .i64 ((4 * b + f.length : Nat) : Int)) ∧ Maps.has (dF fs bs D) (.string x) = true) := by
  intro fs
  induction fs with
  | nil =>
    intro bs D _ _ _
    refine ⟨fun _ => ?_, fun f h => by cases h⟩
    cases bs <;> exact ⟨rfl, rfl⟩
  | cons g fs ih =>
    intro bs D hD hl hn
    cases bs with
    | nil => cases hl
    | cons b bs =>
      have hD2 : Tidy (D.put (.string g.1) (.lit (.int .i64 ((4 * b + g.2.length : Nat) : Int)))) := hD.put (by exact trivial) _
      rw [List.map_cons, List.nodup_cons] at hn
      obtain ⟨i1, i2⟩ := ih bs (D.put (.string g.1) (.lit (.int .i64 ((4 * b + g.2.length : Nat) : Int)))) hD2 (by simpa using hl) hn.2
      have hlk : (g :: fs).lookup x = if x = g.1 then some g.2 else fs.lookup x := by
        obtain ⟨g1, g2⟩ := g
        rw [List.lookup_cons]
        by_cases e : x = g1
        · subst e; simp
        · rw [if_neg e, beq_eq_false_iff_ne.2 e]
      rw [hlk]
      by_cases e : x = g.1
      · rw [if_pos e]
        refine ⟨fun h => absurd h (by simp), fun f h => ?_⟩
        obtain rfl := Option.some.inj h
        have hno : fs.lookup x = none := by
          cases hq : fs.lookup x with
          | none => rfl
          | some f2 =>
            exfalso
            exact hn.1 (by rw [← e]; exact List.mem_map.2 ⟨(x, f2), lookup_mem x fs hq, rfl⟩)
        obtain ⟨k1, k2⟩ := i1 hno
        refine ⟨0, b, by rw [e]; rfl, rfl, ?_, ?_⟩
        · show (dF fs bs _).atKey _ _ = _
          rw [k1, e, atKey_put_same hD.isMap (by exact trivial)]
        · show Maps.has (dF fs bs _) _ = _
          rw [k2, e, has_put_same hD.isMap (by exact trivial)]
      · rw [if_neg e]
        refine ⟨fun h => ?_, fun f h => ?_⟩
        · obtain ⟨k1, k2⟩ := i1 h
          refine ⟨?_, ?_⟩
          · show (dF fs bs _).atKey _ _ = _
            rw [k1, atKey_put_other (fun h => e (by injection h))]
          · show Maps.has (dF fs bs _) _ = _
            rw [k2, has_put_other (fun h => e (by injection h))]
        · obtain ⟨j, b2, k1, k2, k3, k4⟩ := i2 f h
          exact ⟨j + 1, b2, k1, k2, k3, k4⟩
theorem frm_nodup : (frmL.map (·.1)).Nodup := by decide

theorem look_no {B M bn bl bp lines : Nat} {w0 w : World} {bs : List Nat} (h : FmI B M bn bl bp lines w0 bs w) (hl : bs.length = 13) (s : ByteArray) (hs : s.size ≤ maxLen) (hf : frmF s.data.toList = none) :
    ∀ W : World, W.heap[M]? = w.heap[M]? → ∃ v, (Instr.lookup 64 (.map (some M)) (.string s) true).run Tryz.prog W = .ok (.tuple #[v, .bool false]) W := by
  intro W hW
  obtain ⟨v, ps, hr, hv⟩ := (omapS h.own hW).look_ok lawSb Tryz.underlying64 (zeroL W) (zd := .lit (.int .i64 (-1))) (zp := []) rfl (keyOf_string_mk Tryz.underlying9 hs)
  have := ((dF_at s.data.toList (.lit (.int .i64 (-1))) frmL bs (.map []) tidy_empty (by rw [hl]; rfl) frm_nodup).1 hf).2
  rw [this] at hr
  exact ⟨v, hr⟩
theorem look_yes {B M bn bl bp lines : Nat} {w0 w : World} {bs : List Nat} (h : FmI B M bn bl bp lines w0 bs w) (hl : bs.length = 13) (s : ByteArray) (hs : s.size ≤ maxLen) {f : List Nat} (hf : frmF s.data.toList = some f) :
    ∃ b, w.heap[b]? = some (.cells (f.map (cvP bn bl bp)).toArray 99 (0, 0)) ∧ ∀ W : World, W.heap[M]? = w.heap[M]? → (Instr.lookup 64 (.map (some M)) (.string s) true).run Tryz.prog W = .ok (.tuple #[.slice (some ⟨b, 0, none⟩) f.length f.length, .bool true]) W := by
  obtain ⟨j, b, k1, k2, k3, k4⟩ := (dF_at s.data.toList (.lit (.int .i64 (-1))) frmL bs (.map []) tidy_empty (by rw [hl]; rfl) frm_nodup).2 f hf
  obtain ⟨f', h1, h2, h3, h4⟩ := h.rows j b k2
  obtain rfl := Option.some.inj (k1.symm.trans h1)
  refine ⟨b, h2, fun W hW => ?_⟩
  obtain ⟨v, ps, hr, hv⟩ := (omapS h.own hW).look_ok lawSb Tryz.underlying64 (zeroL W) (zd := .lit (.int .i64 (-1))) (zp := []) rfl (keyOf_string_mk Tryz.underlying9 hs)
  rw [k3] at hv
  rw [k4, slE_inv (frm_len _ (List.mem_of_getElem? k1)).1 hv] at hr
  exact hr

/-- What SplitN answers, in memory. -/
theorem splitN_any (s : ByteArray) (k : Nat) (w : World) (hs : s.size ≤ 1000000) (hk : k ≤ 3) (h3 : k ≤ s.size) (hm : MaxIs w) :
    Calls Tryz.prog 66 #[.string s, .string blank, .int .i64 ((1 + k : Nat) : Int)] w fun e w' => e = .returned (.slice (some ⟨w.heap.size, 0, none⟩) (wdN k s.data.toList).length (1 + k)) ∧ (∀ j, j < (wdN k s.data.toList).length → w'.cell? ⟨w.heap.size, j, none⟩ = some (.string (bA ((wdN k s.data.toList).getD j [])))) ∧ w.heap.size < w'.heap.size ∧ Below w.heap.size w w' := by
  obtain ⟨m, hm⟩ := hm
  have h := Any.strings_SplitN laysSN (by kernel_rfl) s blank (1 + k) m w (by omega) hm (by decide) (by omega) (by omega)
  rw [show min (1 + k) (s.size + 1) = 1 + k by omega, show 1 + k - 1 = k by omega] at h
  have hd := Lib.splitB_data blank 0 k s
  have hlen : (Lib.splitB blank 0 k s).length = (wdN k s.data.toList).length := by
    show _ = (Lib.splitK [32] 0 k s.data.toList).length
    rw [← show (Lib.splitB blank 0 k s).map (·.data.toList) = Lib.splitK [32] 0 k s.data.toList from hd, List.length_map]
  rw [hlen] at h
  refine h.mono ?_
  rintro e w' ⟨rfl, rfl⟩
  refine ⟨rfl, fun j hj => ?_, by rw [World.size_alloc]; omega, (Below.refl _ w).alloc (Nat.le_refl _) _⟩
  rw [Lib.cell_of_heap (heap_alloc_new w _)]
  unfold Lib.cellsOf
  rw [List.getElem?_toArray, List.getElem?_append_left (by rw [List.length_map]; omega), List.getElem?_map, List.getElem?_eq_getElem (by omega)]
  have e2 : (wdN k s.data.toList).getD j [] = ((Lib.splitB blank 0 k s)[j]'(by omega)).data.toList := by
    have : wdN k s.data.toList = (Lib.splitB blank 0 k s).map (·.data.toList) := hd.symm
    rw [this, List.getD_eq_getElem?_getD, List.getElem?_map, List.getElem?_eq_getElem (by omega)]
    rfl
  rw [e2, bA_data]
  rfl
theorem Cut_blank (s : ByteArray) (w : World) (hs : s.size ≤ 1000000) (hm : MaxIs w) :
    Calls Tryz.prog 65 #[.string s, .string blank] w fun e w' => ∃ r b, e = .returned (.tuple #[.string (bA (Lib.cut s.data.toList [32]).1), r, b]) ∧ ∃ n, w' = w.drewN n := by
  obtain ⟨m, hm⟩ := hm
  refine (Any.strings_Cut laysCt s blank m w (by omega) hm).mono ?_
  rintro e w' ⟨rfl, n, rfl⟩
  exact ⟨_, _, rfl, n, rfl⟩

theorem FmI.keep {B M bn bl bp lines : Nat} {w0 w w' : World} {bs : List Nat} (h : FmI B M bn bl bp lines w0 bs w) (hb : Below w.heap.size w w') (hB : B ≤ w.heap.size) : FmI B M bn bl bp lines w0 bs w' := by
  have hc : ∀ g v, w.cell? ⟨g, 0, none⟩ = some v → w'.cell? ⟨g, 0, none⟩ = some v := fun g v hc => (hb.cell (p := ⟨g, 0, none⟩) (World.block_lt_of_cell? w ⟨g, 0, none⟩ hc)).trans hc
  obtain ⟨e1, e2, e3⟩ := h.env
  refine ⟨omapS h.own (hb.block M h.lt), fun j b hj => ?_, ⟨hc _ _ e1, hc _ _ e2, hc _ _ e3⟩, h.lo, Nat.lt_of_lt_of_le h.lt hb.size, ?_⟩
  · obtain ⟨f, q1, q2, q3, q4⟩ := h.rows j b hj
    exact ⟨f, q1, (hb.block b q4).trans q2, q3, Nat.lt_of_lt_of_le q4 hb.size⟩
  · exact ⟨hb.os.trans h.bel.os, hb.tape.trans h.bel.tape, hb.output.trans h.bel.output, Nat.le_trans h.bel.size hb.size, fun g hg => (hb.block g (by omega)).trans (h.bel.block g hg)⟩

/-- What a line comes to. -/
def linV (lines : Nat) (s : List UInt8) : Array Value := match linF lines s with
  | some l => #[.agg (lnC l), .bool true]
  | none => #[.agg (lnC Ln.none), .bool false]

set_option maxHeartbeats 2000000 in
set_option maxRecDepth 100000 in
theorem lineOf_no {B M bn bl bp lines : Nat} {w0 w : World} {bs : List Nat} (h : FmI B M bn bl bp lines w0 bs w) (hl : bs.length = 13) (s : ByteArray) (hs : s.size ≤ 100000) (hm : MaxIs w) (hf : frmF (Lib.cut s.data.toList [32]).1 = none) :
    Calls Tryz.prog 35 #[.string s, .map (some M)] w fun e w' => e = .returned (.tuple (linV lines s.data.toList)) ∧ Below w.heap.size w w' := by
  have hv : linV lines s.data.toList = #[.agg (lnC Ln.none), .bool false] := by
    unfold linV linF
    rw [hf]
  rw [hv]
  have HC : Hid (Calls Tryz.prog 65 #[.string s, .string blank] (w.alloc (.cells #[.string ⟨#[]⟩, .int .i64 0, .int .i64 0, .string ⟨#[]⟩, .string ⟨#[]⟩, .int .i64 0, .int .i64 0] 67)) fun e w' => ∃ (r b : Value) (W2 : World), e = .returned (.tuple #[.string (bA (Lib.cut s.data.toList [32]).1), r, b]) ∧ w' = W2.alloc (.cells #[.string ⟨#[]⟩, .int .i64 0, .int .i64 0, .string ⟨#[]⟩, .string ⟨#[]⟩, .int .i64 0, .int .i64 0] 67) ∧ w.heap.size = W2.heap.size ∧ Hid (∀ o, Below w.heap.size w (W2.alloc o) ∧ (W2.alloc o).heap[M]? = w.heap[M]?)) := by
    refine (Cut_blank s _ (by omega) (hm.up ((Below.refl _ w).alloc (Nat.le_refl _) _))).mono ?_
    rintro e w' ⟨r, b, rfl, n, rfl⟩
    have hb : ∀ o, Below w.heap.size w ((w.drewN n).alloc o) := fun o => (below_drewN (Below.refl _ w) n).alloc (Nat.le_refl _) o
    exact ⟨r, b, w.drewN n, rfl, rfl, rfl, fun o => ⟨hb o, (hb o).block M h.lt⟩⟩
  have hcl : (bA (Lib.cut s.data.toList [32]).1).size ≤ maxLen := by
    have h1 : (Lib.cut s.data.toList [32]).1.length ≤ s.data.toList.length := by
      unfold Lib.cut
      split
      · simp only [List.length_take]; omega
      · exact Nat.le_refl _
    rw [show (bA (Lib.cut s.data.toList [32]).1).size = (Lib.cut s.data.toList [32]).1.length from size_of rfl]
    rw [show s.size = s.data.toList.length from size_of rfl] at hs
    unfold maxLen
    omega
  have HK := look_no h hl _ hcl (by show frmF _ = none; unfold bA; simpa using hf)
  generalize bA (Lib.cut s.data.toList [32]).1 = wd at *
  clear hv hf hcl hs h hm
  go_enter Tryz.func35, Tryz.ntmps35
  go_wp2_with (first
    | (go_at_call 65; refine HC.out.mono ?_; rintro e w1 ⟨r1, r2, W2, rfl, rfl, hz, HW⟩; obtain ⟨vv, hlk⟩ := HK (W2.alloc (.cells #[.string ⟨#[]⟩, .int .i64 0, .int .i64 0, .string ⟨#[]⟩, .string ⟨#[]⟩, .int .i64 0, .int .i64 0] 67)) (HW.out _).2)
    | go_in)
  refine bodyPost_ret (v := .tuple #[.agg (lnC Ln.none), .bool false]) (by simp [results, Tryz.results35, go_sem, lnC, Ln.none]) rfl ?_
  exact ⟨rfl, (HW.out _).1⟩

/-- Each part, by its kind. -/
theorem part_any (bn bl bp lines k P : Nat) : ∃ N caps, cvP bn bl bp k = .func (.func N) #[] caps ∧ (∀ args w, (callFunc N args).run Tryz.prog w = .ok (.enter N args) w) ∧
    ∀ (l : Ln) (g : ByteArray) (w : World), LnAt w P l → g.size ≤ 1000000 → MaxIs w → PrtE w bn bl bp lines → Calls Tryz.prog N (#[.pointer (some ⟨P, 0, none⟩), .string g] ++ caps) w (TkQ lines k P l g w) := by
  unfold cvP
  by_cases h0 : k = 0
  · subst h0
    exact ⟨_, _, rfl, fun args w => by kernel_rfl, fun l g w hl hg _ _ => part_r lines P l g w hl hg⟩
  by_cases h1 : k = 1
  · subst h1
    exact ⟨_, _, rfl, fun args w => by kernel_rfl, fun l g w hl hg _ _ => part_s lines P l g w hl hg⟩
  by_cases h2 : k = 2
  · subst h2
    exact ⟨_, _, rfl, fun args w => by kernel_rfl, fun l g w hl hg _ _ => part_n lines P l g w hl hg⟩
  by_cases h3 : k = 3
  · subst h3
    exact ⟨_, _, rfl, fun args w => by kernel_rfl, fun l g w hl hg _ _ => part_m lines P l g w hl hg⟩
  by_cases h4 : k = 4
  · subst h4
    exact ⟨_, _, rfl, fun args w => by kernel_rfl, fun l g w hl hg _ he => part_at lines P bn bl l g w hl hg he.1 he.2.1⟩
  by_cases h5 : k = 5
  · subst h5
    exact ⟨_, _, rfl, fun args w => by kernel_rfl, fun l g w hl hg _ he => part_end lines P bn l g w hl hg he.1⟩
  by_cases h6 : k = 6
  · subst h6
    exact ⟨_, _, rfl, fun args w => by kernel_rfl, fun l g w hl _ _ _ => part_text lines P l g w hl⟩
  by_cases h7 : k = 7
  · subst h7
    exact ⟨_, _, rfl, fun args w => by kernel_rfl, fun l g w hl _ hm _ => part_path7 lines P l g w hl hm⟩
  · rw [if_neg h0, if_neg h1, if_neg h2, if_neg h3, if_neg h4, if_neg h5, if_neg h6, if_neg h7]
    refine ⟨_, _, rfl, fun args w => by kernel_rfl, fun l g w hl _ hm he => ?_⟩
    have := part_dir lines P bp l g w hl hm he.2.2
    unfold TkQ at this ⊢
    have e : takP lines k l g.data.toList = takP lines 8 l g.data.toList := by
      unfold takP
      simp [h0, h1, h2, h3, h4, h5, h6, h7]
    rw [e]
    exact this
end Go.Proofs.YtapiedeekbfpnaaGreatDoor

/- A line is taken apart, part by part. -/
namespace Go.Proofs.YtapiedeekbfpnaaGreatDoor
open Go.RowKit Go.Shelf Go.Maps Go.WideMaps

theorem frm_small : ∀ f ∈ frmL, 3 ≤ f.1.length ∧ 1 ≤ f.2.length ∧ f.2.length ≤ 3 := by decide
theorem frmF_small {x : List UInt8} {f : List Nat} (h : frmF x = some f) : 3 ≤ x.length ∧ 1 ≤ f.length ∧ f.length ≤ 3 := frm_small _ (lookup_mem x frmL h)
theorem cut_len (s : List UInt8) : (Lib.cut s [32]).1.length ≤ s.length := by
  unfold Lib.cut
  split
  · simp only [List.length_take]; omega
  · exact Nat.le_refl _
theorem wdN_size : ∀ (k : Nat) (s : List UInt8) (p : List UInt8), p ∈ wdN k s → p.length ≤ s.length := by
  intro k
  induction k with
  | zero => intro s p hp; obtain rfl := List.mem_singleton.1 hp; exact Nat.le_refl _
  | succ k ih =>
    intro s p hp
    unfold wdN Lib.splitK at hp
    split at hp
    · obtain rfl := List.mem_singleton.1 hp; exact Nat.le_refl _
    · rcases List.mem_cons.1 hp with rfl | hp
      · rw [List.length_take]; omega
      · have := ih _ p hp
        rw [List.length_drop] at this
        omega
theorem wdN_len (k : Nat) (s : List UInt8) : (wdN k s).length ≤ k + 1 := by
  have h1 : ∀ (k : Nat) (s : List UInt8), (Lib.splitK [32] 0 k s).length ≤ k + 1 := by
    intro k
    induction k with
    | zero => intro s; exact Nat.le_refl _
    | succ k ih =>
      intro s
      unfold Lib.splitK
      split
      · simp
      · have := ih (s.drop ((Lib.index s [32]).toNat + ([32] : List UInt8).length))
        simp only [List.length_cons] at *
        omega
  exact h1 k s

/-- How it stands when a line's words are parted. -/
structure Spl (w : World) (b bn bl bp lines : Nat) (f : List Nat) (ps : List (List UInt8)) (X : Nat) (w3 : World) : Prop where
  cells : ∀ j, j < ps.length → w3.cell? ⟨X, j, none⟩ = some (.string (bA (ps.getD j [])))
  r0 : w3.heap[w.heap.size]? = some (.cells #[.string ⟨#[]⟩, .int .i64 0, .int .i64 0, .string ⟨#[]⟩, .string ⟨#[]⟩, .int .i64 0, .int .i64 0] 67 (0, 0))
  row : w3.heap[b]? = some (.cells (f.map (cvP bn bl bp)).toArray 99 (0, 0))
  env : PrtE w3 bn bl bp lines
  mx : MaxIs w3
  bel : Below w.heap.size w w3
  sz : ∀ p ∈ ps, p.length ≤ 1000000
  lt : X < w3.heap.size ∧ w.heap.size < w3.heap.size

theorem front {B M bn bl bp lines : Nat} {w0 w : World} {bs : List Nat} (h : FmI B M bn bl bp lines w0 bs w) (hB : B ≤ w.heap.size) (hl : bs.length = 13) (s : ByteArray) (hs : s.size ≤ 100000) (hm : MaxIs w) {f : List Nat} (hf : frmF (Lib.cut s.data.toList [32]).1 = some f) (k1 : Nat) (hk1 : k1 = 1 + f.length) :
    ∃ b, Hid (Calls Tryz.prog 65 #[.string s, .string blank] (w.alloc (.cells #[.string ⟨#[]⟩, .int .i64 0, .int .i64 0, .string ⟨#[]⟩, .string ⟨#[]⟩, .int .i64 0, .int .i64 0] 67)) fun e w' => ∃ (r c : Value) (W2 : World), e = .returned (.tuple #[.string (bA (Lib.cut s.data.toList [32]).1), r, c]) ∧ w' = W2.alloc (.cells #[.string ⟨#[]⟩, .int .i64 0, .int .i64 0, .string ⟨#[]⟩, .string ⟨#[]⟩, .int .i64 0, .int .i64 0] 67) ∧ w.heap.size = W2.heap.size ∧
      (Instr.lookup 64 (.map (some M)) (.string (bA (Lib.cut s.data.toList [32]).1)) true).run Tryz.prog (W2.alloc (.cells #[.string ⟨#[]⟩, .int .i64 0, .int .i64 0, .string ⟨#[]⟩, .string ⟨#[]⟩, .int .i64 0, .int .i64 0] 67)) = .ok (.tuple #[.slice (some ⟨b, 0, none⟩) f.length f.length, .bool true]) (W2.alloc (.cells #[.string ⟨#[]⟩, .int .i64 0, .int .i64 0, .string ⟨#[]⟩, .string ⟨#[]⟩, .int .i64 0, .int .i64 0] 67)) ∧
      Hid (Calls Tryz.prog 66 #[.string s, .string blank, .int .i64 (k1 : Int)] (W2.alloc (.cells #[.string ⟨#[]⟩, .int .i64 0, .int .i64 0, .string ⟨#[]⟩, .string ⟨#[]⟩, .int .i64 0, .int .i64 0] 67)) fun e w3 => ∃ X, e = .returned (.slice (some ⟨X, 0, none⟩) (wdN f.length s.data.toList).length k1) ∧ Hid (Spl w b bn bl bp lines f (wdN f.length s.data.toList) X w3))) := by
  obtain ⟨q1, q2, q3⟩ := frmF_small hf
  have hsl : s.size = s.data.toList.length := size_of rfl
  have hcl := cut_len s.data.toList
  have hcs : (bA (Lib.cut s.data.toList [32]).1).size = (Lib.cut s.data.toList [32]).1.length := size_of rfl
  obtain ⟨b, hb, hlk⟩ := look_yes h hl (bA (Lib.cut s.data.toList [32]).1) (by unfold maxLen; omega) (f := f) (by unfold bA; simpa using hf)
  refine ⟨b, ?_⟩
  refine (Cut_blank s _ (by omega) (hm.up ((Below.refl _ w).alloc (Nat.le_refl _) _))).mono ?_
  rintro e w' ⟨r, c, rfl, n, rfl⟩
  have hbe : ∀ o, Below w.heap.size w ((w.drewN n).alloc o) := fun o => (below_drewN (Below.refl _ w) n).alloc (Nat.le_refl _) o
  refine ⟨r, c, w.drewN n, rfl, rfl, rfl, hlk _ ((hbe _).block M h.lt), ?_⟩
  rw [hk1]
  refine (splitN_any s f.length _ (by omega) q3 (by omega) (hm.up (hbe _))).mono ?_
  rintro e w3 ⟨rfl, hc, hlt, hb3⟩
  have hsz : ((w.drewN n).alloc (.cells #[.string ⟨#[]⟩, .int .i64 0, .int .i64 0, .string ⟨#[]⟩, .string ⟨#[]⟩, .int .i64 0, .int .i64 0] 67)).heap.size = w.heap.size + 1 := World.size_alloc _ _
  have hbw : Below w.heap.size w w3 := ⟨hb3.os.trans (hbe _).os, hb3.tape.trans (hbe _).tape, hb3.output.trans (hbe _).output, Nat.le_trans (hbe _).size hb3.size, fun g hg => (hb3.block g (by omega)).trans ((hbe _).block g hg)⟩
  have hF := h.keep hbw hB
  have hbl : b < w.heap.size := (Array.getElem?_eq_some_iff.1 hb).1
  refine ⟨_, rfl, ⟨hc, ?_, (hbw.block b hbl).trans hb, hF.env, hm.up hbw, hbw, fun p hp => ?_, hlt, by omega⟩⟩
  · exact (hb3.block w.heap.size (by omega)).trans (heap_alloc_new (w.drewN n) _)
  · have := wdN_size _ _ p hp
    omega

theorem ln_cells {w : World} {R : Nat} {a0 a1 a2 a3 a4 a5 a6 : Value} (h : w.heap[R]? = some (.cells #[a0, a1, a2, a3, a4, a5, a6] 67 (0, 0))) :
    (w.cell? ⟨R, 0, none⟩ = some a0 ∧ w.frozen? ⟨R, 0, none⟩ = false) ∧ (w.cell? ⟨R, 1, none⟩ = some a1 ∧ w.frozen? ⟨R, 1, none⟩ = false) ∧ (w.cell? ⟨R, 2, none⟩ = some a2 ∧ w.frozen? ⟨R, 2, none⟩ = false) ∧ (w.cell? ⟨R, 3, none⟩ = some a3 ∧ w.frozen? ⟨R, 3, none⟩ = false) ∧ (w.cell? ⟨R, 4, none⟩ = some a4 ∧ w.frozen? ⟨R, 4, none⟩ = false) ∧ (w.cell? ⟨R, 5, none⟩ = some a5 ∧ w.frozen? ⟨R, 5, none⟩ = false) ∧ (w.cell? ⟨R, 6, none⟩ = some a6 ∧ w.frozen? ⟨R, 6, none⟩ = false) :=
  ⟨⟨by rw [Lib.cell_of_heap h]; rfl, Lib.frozen_of_heap h 0⟩, ⟨by rw [Lib.cell_of_heap h]; rfl, Lib.frozen_of_heap h 1⟩, ⟨by rw [Lib.cell_of_heap h]; rfl, Lib.frozen_of_heap h 2⟩, ⟨by rw [Lib.cell_of_heap h]; rfl, Lib.frozen_of_heap h 3⟩, ⟨by rw [Lib.cell_of_heap h]; rfl, Lib.frozen_of_heap h 4⟩, ⟨by rw [Lib.cell_of_heap h]; rfl, Lib.frozen_of_heap h 5⟩, ⟨by rw [Lib.cell_of_heap h]; rfl, Lib.frozen_of_heap h 6⟩⟩

/-- A line is stored. -/
def st7 (w : World) (R : Nat) (l : Ln) : World := ((((((w.setCell ⟨R, 0, none⟩ (.string l.wd)).setCell ⟨R, 1, none⟩ (.int .i64 (l.r : Int))).setCell ⟨R, 2, none⟩ (.int .i64 (l.s : Int))).setCell ⟨R, 3, none⟩ (.string l.pa)).setCell ⟨R, 4, none⟩ (.string l.tx)).setCell ⟨R, 5, none⟩ (.int .i64 (l.n : Int))).setCell ⟨R, 6, none⟩ (.int .i64 (l.m : Int))
theorem st7_at {w : World} {R : Nat} {l0 : Ln} (h : LnAt w R l0) (l : Ln) : LnAt (st7 w R l) R l := by
  unfold st7
  have h0 : (w.setCell ⟨R, 0, none⟩ (.string l.wd)).heap[R]? = some (.cells #[.string l.wd, .int .i64 (l0.r : Int), .int .i64 (l0.s : Int), .string l0.pa, .string l0.tx, .int .i64 (l0.n : Int), .int .i64 (l0.m : Int)] 67 (0, 0)) := Go.Joins.block_setCell (i := 0) h _
  generalize (w.setCell ⟨R, 0, none⟩ (.string l.wd)) = w0 at *
  have h1 : (w0.setCell ⟨R, 1, none⟩ (.int .i64 (l.r : Int))).heap[R]? = some (.cells #[.string l.wd, .int .i64 (l.r : Int), .int .i64 (l0.s : Int), .string l0.pa, .string l0.tx, .int .i64 (l0.n : Int), .int .i64 (l0.m : Int)] 67 (0, 0)) := Go.Joins.block_setCell (i := 1) h0 _
  generalize (w0.setCell ⟨R, 1, none⟩ (.int .i64 (l.r : Int))) = w1 at *
  have h2 : (w1.setCell ⟨R, 2, none⟩ (.int .i64 (l.s : Int))).heap[R]? = some (.cells #[.string l.wd, .int .i64 (l.r : Int), .int .i64 (l.s : Int), .string l0.pa, .string l0.tx, .int .i64 (l0.n : Int), .int .i64 (l0.m : Int)] 67 (0, 0)) := Go.Joins.block_setCell (i := 2) h1 _
  generalize (w1.setCell ⟨R, 2, none⟩ (.int .i64 (l.s : Int))) = w2 at *
  have h3 : (w2.setCell ⟨R, 3, none⟩ (.string l.pa)).heap[R]? = some (.cells #[.string l.wd, .int .i64 (l.r : Int), .int .i64 (l.s : Int), .string l.pa, .string l0.tx, .int .i64 (l0.n : Int), .int .i64 (l0.m : Int)] 67 (0, 0)) := Go.Joins.block_setCell (i := 3) h2 _
  generalize (w2.setCell ⟨R, 3, none⟩ (.string l.pa)) = w3 at *
  have h4 : (w3.setCell ⟨R, 4, none⟩ (.string l.tx)).heap[R]? = some (.cells #[.string l.wd, .int .i64 (l.r : Int), .int .i64 (l.s : Int), .string l.pa, .string l.tx, .int .i64 (l0.n : Int), .int .i64 (l0.m : Int)] 67 (0, 0)) := Go.Joins.block_setCell (i := 4) h3 _
  generalize (w3.setCell ⟨R, 4, none⟩ (.string l.tx)) = w4 at *
  have h5 : (w4.setCell ⟨R, 5, none⟩ (.int .i64 (l.n : Int))).heap[R]? = some (.cells #[.string l.wd, .int .i64 (l.r : Int), .int .i64 (l.s : Int), .string l.pa, .string l.tx, .int .i64 (l.n : Int), .int .i64 (l0.m : Int)] 67 (0, 0)) := Go.Joins.block_setCell (i := 5) h4 _
  generalize (w4.setCell ⟨R, 5, none⟩ (.int .i64 (l.n : Int))) = w5 at *
  have h6 : (w5.setCell ⟨R, 6, none⟩ (.int .i64 (l.m : Int))).heap[R]? = some (.cells #[.string l.wd, .int .i64 (l.r : Int), .int .i64 (l.s : Int), .string l.pa, .string l.tx, .int .i64 (l.n : Int), .int .i64 (l.m : Int)] 67 (0, 0)) := Go.Joins.block_setCell (i := 6) h5 _
  exact h6
theorem st7_up (w : World) (R : Nat) (l : Ln) : UpB R w (st7 w R l) := (((((((UpB.set R 0 w _).trans (UpB.set R 1 _ _)).trans (UpB.set R 2 _ _)).trans (UpB.set R 3 _ _)).trans (UpB.set R 4 _ _)).trans (UpB.set R 5 _ _)).trans (UpB.set R 6 _ _))

set_option maxHeartbeats 2000000 in
set_option maxRecDepth 100000 in
theorem lineOf_few {B M bn bl bp lines : Nat} {w0 w : World} {bs : List Nat} (h : FmI B M bn bl bp lines w0 bs w) (hB : B ≤ w.heap.size) (hl : bs.length = 13) (s : ByteArray) (hs : s.size ≤ 100000) (hm : MaxIs w) {f : List Nat} (hf : frmF (Lib.cut s.data.toList [32]).1 = some f) (hw : (wdN f.length s.data.toList).length ≤ f.length) :
    Calls Tryz.prog 35 #[.string s, .map (some M)] w fun e w' => e = .returned (.tuple (linV lines s.data.toList)) ∧ Below w.heap.size w w' := by
  have hv : linV lines s.data.toList = #[.agg (lnC Ln.none), .bool false] := by
    unfold linV linF
    rw [hf]
    simp only
    rw [if_pos hw]
  rw [hv]
  obtain ⟨k1, hk1⟩ : ∃ k1, k1 = 1 + f.length := ⟨_, rfl⟩
  obtain ⟨b, HC⟩ := front h hB hl s hs hm hf k1 hk1
  have hq := frmF_small hf
  have hne := List.length_pos_iff.2 (wdN_ne f.length s.data.toList)
  generalize (wdN f.length s.data.toList) = ps at *
  generalize bA (Lib.cut s.data.toList [32]).1 = wd at *
  obtain ⟨n, hn⟩ : ∃ n, ps.length = n + 1 := ⟨ps.length - 1, by omega⟩
  rw [hn] at HC
  obtain ⟨k, hk⟩ : ∃ k, f.length = k := ⟨_, rfl⟩
  rw [hk] at HC
  have e1 : (1 : Int) + (k : Int) = (k1 : Int) := by omega
  have e2 : IntKind.i64.wrap (k1 : Int) = (k1 : Int) := by rw [IntKind.wrap_i64]; omega
  have e3 : (n : Int) < (k : Int) := by omega
  have e4 : (k : Int) ≤ 9223372036854775807 := by omega
  have e5 : n + 1 ≤ k1 := by omega
  have e6 : 1 ≤ k1 := by omega
  clear hv hf hs h hm hk1 hq hne hw hn hk
  go_enter Tryz.func35, Tryz.ntmps35
  go_wp2_with (first
    | (go_at_call 65; refine HC.out.mono ?_; rintro e w1 ⟨r1, r2, W2, rfl, rfl, hz, hlk, HS⟩)
    | (go_at_call 66; refine HS.out.mono ?_; rintro e w3 ⟨X, rfl, HX⟩; obtain ⟨R, hR⟩ : ∃ R, R = W2.heap.size := ⟨_, rfl⟩; rw [← hR] at hz ⊢; clear hR; have hr0 := HX.out.r0; rw [hz] at hr0; have HR0 : Hid (w.heap.size = R) := hz; have HR1 : Hid (LnAt w3 R Ln.none) := hr0; obtain ⟨⟨c0, f0⟩, ⟨c1, f1⟩, ⟨c2, f2⟩, ⟨c3, f3⟩, ⟨c4, f4⟩, ⟨c5, f5⟩, ⟨c6, f6⟩⟩ := ln_cells hr0; clear hr0 hz)
    | go_in)
  change bodyPost _ _ _ _ _ (st7 w3 R Ln.none)
  have hL : LnAt (st7 w3 R Ln.none) R Ln.none := st7_at HR1.out Ln.none
  obtain ⟨⟨d0, _⟩, ⟨d1, _⟩, ⟨d2, _⟩, ⟨d3, _⟩, ⟨d4, _⟩, ⟨d5, _⟩, ⟨d6, _⟩⟩ := ln_cells hL
  have HU := st7_up w3 R Ln.none
  generalize st7 w3 R Ln.none = wf at *
  refine bodyPost_ret (v := .tuple #[.agg (lnC Ln.none), .bool false]) (by simp [results, Tryz.results35, go_sem, d0, d1, d2, d3, d4, d5, d6, lnC, Ln.none]) rfl ?_
  exact ⟨rfl, ⟨HU.os.trans HX.out.bel.os, HU.tape.trans HX.out.bel.tape, HU.output.trans HX.out.bel.output, Nat.le_trans HX.out.bel.size HU.size, fun g hg => (HU.block g (Nat.lt_trans hg HX.out.lt.2) (by have := HR0.out; omega)).trans (HX.out.bel.block g hg)⟩⟩
end Go.Proofs.YtapiedeekbfpnaaGreatDoor

/- A line is taken apart: its parts, one behind the other. -/
namespace Go.Proofs.YtapiedeekbfpnaaGreatDoor
open Go.RowKit Go.Shelf Go.Maps Go.WideMaps

theorem foldP_app (lines : Nat) : ∀ (ks : List Nat) (gs : List (List UInt8)) (ks' : List Nat) (gs' : List (List UInt8)) (l : Ln), ks.length = gs.length → foldP lines (ks ++ ks') (gs ++ gs') l = (foldP lines ks gs l).bind fun l' => foldP lines ks' gs' l' := by
  intro ks
  induction ks with
  | nil =>
    intro gs ks' gs' l h
    obtain rfl := List.length_eq_zero_iff.1 h.symm
    rfl
  | cons k ks ih =>
    intro gs ks' gs' l h
    cases gs with
    | nil => cases h
    | cons g gs =>
      show ((takP lines k l g).bind fun l' => foldP lines (ks ++ ks') (gs ++ gs') l') = (((takP lines k l g).bind fun l' => foldP lines ks gs l').bind fun l' => foldP lines ks' gs' l')
      cases takP lines k l g with
      | none => rfl
      | some l2 => exact ih gs ks' gs' l2 (by simpa using h)
theorem take_one {α : Type} {l : List α} {i : Nat} {x : α} (h : l[i]? = some x) : l.take (i + 1) = l.take i ++ [x] := by
  rw [List.take_add_one, h]
  rfl
theorem foldP_step {lines i k : Nat} {f : List Nat} {gs : List (List UInt8)} {g : List UInt8} {l l' : Ln} (hf : f[i]? = some k) (hg : gs[i]? = some g) (h : foldP lines (f.take i) (gs.take i) l = some l') : foldP lines (f.take (i + 1)) (gs.take (i + 1)) l = takP lines k l' g := by
  have h1 : i < f.length := (List.getElem?_eq_some_iff.1 hf).1
  have h2 : i < gs.length := (List.getElem?_eq_some_iff.1 hg).1
  rw [take_one hf, take_one hg, foldP_app lines _ _ _ _ _ (by rw [List.length_take, List.length_take]; omega), h]
  show ((takP lines k l' g).bind fun l'' => some l'') = _
  cases takP lines k l' g <;> rfl
theorem foldP_stop {lines i k : Nat} {f : List Nat} {gs : List (List UInt8)} {g : List UInt8} {l l' : Ln} (hf : f[i]? = some k) (hg : gs[i]? = some g) (h : foldP lines (f.take i) (gs.take i) l = some l') (ht : takP lines k l' g = none) : foldP lines f gs l = none := by
  have h1 : i < f.length := (List.getElem?_eq_some_iff.1 hf).1
  have h2 : i < gs.length := (List.getElem?_eq_some_iff.1 hg).1
  have e1 : f = f.take (i + 1) ++ f.drop (i + 1) := (List.take_append_drop _ _).symm
  have e2 : gs = gs.take (i + 1) ++ gs.drop (i + 1) := (List.take_append_drop _ _).symm
  rw [e1, e2, foldP_app lines _ _ _ _ _ (by rw [List.length_take, List.length_take]; omega), foldP_step hf hg h, ht]
  rfl
theorem cell_same {w w' : World} {b : Nat} (h : w'.heap[b]? = w.heap[b]?) (j : Nat) : w'.cell? ⟨b, j, none⟩ = w.cell? ⟨b, j, none⟩ := by
  unfold World.cell?
  simp only
  rw [h]

set_option maxHeartbeats 4000000 in
set_option maxRecDepth 100000 in
theorem lineOf_go {B M bn bl bp lines : Nat} {w0 w : World} {bs : List Nat} (h : FmI B M bn bl bp lines w0 bs w) (hB : B ≤ w.heap.size) (hl : bs.length = 13) (s : ByteArray) (hs : s.size ≤ 100000) (hm : MaxIs w) {f : List Nat} (hf : frmF (Lib.cut s.data.toList [32]).1 = some f) (hw : f.length < (wdN f.length s.data.toList).length) :
    Calls Tryz.prog 35 #[.string s, .map (some M)] w fun e w' => e = .returned (.tuple (linV lines s.data.toList)) ∧ Below w.heap.size w w' := by
  have hv : linV lines s.data.toList = match foldP lines f (wdN f.length s.data.toList).tail { Ln.none with wd := bA (Lib.cut s.data.toList [32]).1 } with
      | some l => #[.agg (lnC l), .bool true]
      | none => #[.agg (lnC Ln.none), .bool false] := by
    unfold linV linF
    rw [hf]
    simp only
    rw [if_neg (by omega)]
    all_goals rfl
  obtain ⟨LV, hLV⟩ : ∃ LV, linV lines s.data.toList = LV := ⟨_, rfl⟩
  rw [hLV] at hv ⊢
  clear hLV
  obtain ⟨k1, hk1⟩ : ∃ k1, k1 = 1 + f.length := ⟨_, rfl⟩
  obtain ⟨b, HC⟩ := front h hB hl s hs hm hf k1 hk1
  have hq := frmF_small hf
  have hwl := wdN_len f.length s.data.toList
  generalize (wdN f.length s.data.toList) = ps at *
  generalize bA (Lib.cut s.data.toList [32]).1 = wd at *
  obtain ⟨k, hk⟩ : ∃ k, f.length = k := ⟨_, rfl⟩
  have hn : ps.length = k + 1 := by omega
  have HLP : Hid (f.length = k ∧ ps.tail.length = k ∧ ∀ i, i < k → ps.tail[i]? = some (ps.getD (1 + i) [])) := by
    refine ⟨hk, by rw [List.length_tail]; omega, fun i hi => ?_⟩
    rw [List.getElem?_tail, List.getD_eq_getElem?_getD, List.getElem?_eq_getElem (show i + 1 < ps.length by omega), List.getElem?_eq_getElem (show 1 + i < ps.length by omega)]
    simp only [Option.getD_some, Nat.add_comm]
  rw [hn, hk] at HC
  have e1 : (1 : Int) + (k : Int) = (k1 : Int) := by omega
  have e2 : IntKind.i64.wrap (k1 : Int) = (k1 : Int) := by rw [IntKind.wrap_i64]; omega
  have e3 : ¬ (k : Int) < (k : Int) := by omega
  have e4 : (k : Int) ≤ 9223372036854775807 := by omega
  have e5 : k + 1 ≤ k1 := by omega
  have e6 : 1 ≤ k1 := by omega
  have e7 : k ≤ 3 := by omega
  have e8 : ¬ k1 = 1 := by omega
  have HK1 : Hid (k1 = 1 + k ∧ ps.length = k + 1) := by refine ⟨by omega, hn⟩
  obtain ⟨l0, hl0⟩ : ∃ l0 : Ln, l0 = { Ln.none with wd := wd } := ⟨_, rfl⟩
  rw [← hl0] at hv
  have HL0 : Hid (l0 = { Ln.none with wd := wd }) := hl0
  have HVN : Hid (foldP lines f ps.tail l0 = none → LV = #[.agg (lnC Ln.none), .bool false]) := by
    intro e
    rw [e] at hv
    exact hv
  have HVS : Hid (∀ l, foldP lines f ps.tail l0 = some l → LV = #[.agg (lnC l), .bool true]) := by
    intro l e
    rw [e] at hv
    exact hv
  clear hv hf hs h hm hk1 hq hw hn hk hwl hl0
  go_enter Tryz.func35, Tryz.ntmps35
  go_wp2_with (first
    | (go_at_call 65; refine HC.out.mono ?_; rintro e w1 ⟨r1, r2, W2, rfl, rfl, hz, hlk, HS⟩)
    | (go_at_call 66; refine HS.out.mono ?_; rintro e w3 ⟨X, rfl, HX⟩; obtain ⟨R, hR⟩ : ∃ R, R = W2.heap.size := ⟨_, rfl⟩; rw [← hR] at hz ⊢; clear hR; have HR0 : Hid (w.heap.size = R) := hz; clear hz)
    | go_in)
  have hP4 : LnAt (w3.alloc (.cells #[.string wd, .int .i64 0, .int .i64 0, .string ⟨#[]⟩, .string ⟨#[]⟩, .int .i64 0, .int .i64 0] 67)) w3.heap.size l0 := by
    rw [HL0.out]
    exact heap_alloc_new w3 _
  have hb4 : Below w3.heap.size w3 (w3.alloc (.cells #[.string wd, .int .i64 0, .int .i64 0, .string ⟨#[]⟩, .string ⟨#[]⟩, .int .i64 0, .int .i64 0] 67)) := (Below.refl _ _).alloc (Nat.le_refl _) _
  have HP4 : Hid (LnAt (w3.alloc (.cells #[.string wd, .int .i64 0, .int .i64 0, .string ⟨#[]⟩, .string ⟨#[]⟩, .int .i64 0, .int .i64 0] 67)) w3.heap.size l0 ∧ Below w3.heap.size w3 (w3.alloc (.cells #[.string wd, .int .i64 0, .int .i64 0, .string ⟨#[]⟩, .string ⟨#[]⟩, .int .i64 0, .int .i64 0] 67))) := ⟨hP4, hb4⟩
  clear hP4 hb4
  generalize (w3.alloc (.cells #[.string wd, .int .i64 0, .int .i64 0, .string ⟨#[]⟩, .string ⟨#[]⟩, .int .i64 0, .int .i64 0] 67)) = w4 at *
  obtain ⟨P, hP⟩ : ∃ P, P = w3.heap.size := ⟨_, rfl⟩
  rw [← hP] at HP4 ⊢
  have HPe : Hid (P = w3.heap.size) := hP
  clear hP
  go_loopw [46] (fun v wr => ∃ (i : Nat) (l' : Ln), i ≤ k ∧ v = .int .i64 (i : Int) ∧ Hid (foldP lines (f.take i) (ps.tail.take i) l0 = some l' ∧ LnAt wr P l' ∧ UpB P w4 wr)) (fun v _ => k - (intOf v).toNat)
  case atStart => exact ⟨0, l0, by omega, rfl, by rw [List.take_zero, List.take_zero]; rfl, HP4.out.1, UpB.refl _ _⟩
  case round =>
    obtain ⟨i, l', hi, rfl, HI⟩ := hrel
    have hup : ∀ g, g < w3.heap.size → wr.heap[g]? = w3.heap[g]? := fun g hg => (HI.out.2.2.block g (by have := HP4.out.2.size; omega) (by have := HPe.out; omega)).trans (HP4.out.2.block g (by have := HPe.out; omega))
    have HUP : Hid (∀ g, g < w3.heap.size → wr.heap[g]? = w3.heap[g]?) := hup
    have BEL : Hid (∀ w5, UpB P wr w5 → Below w.heap.size w w5) := by
      intro w5 hu
      have h1 := HX.out.lt.2
      have h2 := HPe.out
      have h4 : w3.heap.size ≤ wr.heap.size := Nat.le_trans HP4.out.2.size HI.out.2.2.size
      have hq := HX.out.bel
      have u4 := HP4.out.2
      have u5 := HI.out.2.2
      exact ⟨hu.os.trans (u5.os.trans (u4.os.trans hq.os)), hu.tape.trans (u5.tape.trans (u4.tape.trans hq.tape)), hu.output.trans (u5.output.trans (u4.output.trans hq.output)), Nat.le_trans hq.size (Nat.le_trans h4 hu.size), fun g hg => (hu.block g (by omega) (by omega)).trans ((hup g (by omega)).trans (hq.block g hg))⟩
    clear hup
    by_cases hik : i < k
    · obtain ⟨kk, hkk⟩ : ∃ kk, f[i]? = some kk := ⟨f[i]'(by rw [HLP.out.1]; exact hik), List.getElem?_eq_getElem _⟩
      obtain ⟨g0, hg0⟩ : ∃ g0, ps.getD (1 + i) [] = g0 := ⟨_, rfl⟩
      have hgt : ps.tail[i]? = some g0 := by rw [HLP.out.2.2 i hik, hg0]
      have hgm : g0 ∈ ps := by
        rw [← hg0, List.getD_eq_getElem?_getD, List.getElem?_eq_getElem (show 1 + i < ps.length by have := HK1.out.2; omega)]
        exact List.getElem_mem _
      have hgs : (bA g0).size ≤ 1000000 := by rw [show (bA g0).size = g0.length from size_of rfl]; exact HX.out.sz g0 hgm
      obtain ⟨N, caps, hcv, eg, hpart⟩ := part_any bn bl bp lines kk P
      have hbX := HX.out.lt.1
      have hbb : b < w3.heap.size := (Array.getElem?_eq_some_iff.1 HX.out.row).1
      have cf : wr.cell? ⟨b, i, none⟩ = some (.func (.func N) #[] caps) := by
        rw [cell_same (HUP.out b hbb), Lib.cell_of_heap HX.out.row, List.getElem?_toArray, List.getElem?_map, hkk, ← hcv]
        rfl
      have cp : wr.cell? ⟨X, 1 + i, none⟩ = some (.string (bA g0)) := by
        rw [cell_same (HUP.out X hbX), HX.out.cells (1 + i) (by have := HK1.out.2; omega), hg0]
      have hPE : PrtE wr bn bl bp lines := by
        obtain ⟨p1, p2, p3⟩ := HX.out.env
        exact ⟨(cell_same (HUP.out _ (World.block_lt_of_cell? w3 ⟨bn, 0, none⟩ p1)) 0).trans p1, (cell_same (HUP.out _ (World.block_lt_of_cell? w3 ⟨bl, 0, none⟩ p2)) 0).trans p2, (cell_same (HUP.out _ (World.block_lt_of_cell? w3 ⟨bp, 0, none⟩ p3)) 0).trans p3⟩
      have hMX : MaxIs wr := by
        obtain ⟨m, p1⟩ := HX.out.mx
        exact ⟨m, (cell_same (HUP.out _ (World.block_lt_of_cell? w3 ⟨2, 0, none⟩ p1)) 0).trans p1⟩
      have hQ := hpart l' (bA g0) wr HI.out.2.1 hgs hMX hPE
      have HR5 : Hid (∀ w5, UpB P wr w5 → w5.heap[R]? = some (.cells (lnC Ln.none) 67 (0, 0)) ∧ R ≠ P ∧ R < w5.heap.size) := by
        intro w5 hu
        have h1 := HX.out.lt.2
        have h2 := HPe.out
        have h3 := HR0.out
        have h4 : R < wr.heap.size := by
          have := HI.out.2.2.size
          have := HP4.out.2.size
          omega
        refine ⟨(hu.block R h4 (by omega)).trans ((HUP.out R (by omega)).trans ?_), by omega, Nat.lt_of_lt_of_le h4 hu.size⟩
        rw [← h3]
        exact HX.out.r0
      have hki : (i : Int) < (k : Int) := by omega
      have HG : Hid (f[i]? = some kk ∧ ps.tail[i]? = some g0) := ⟨hkk, hgt⟩
      have hba : (bA g0).data.toList = g0 := by unfold bA; simp
      unfold TkQ at hQ
      rw [hba] at hQ
      cases ht : takP lines kk l' g0 with
      | none =>
        have HQ : Hid (Calls Tryz.prog N (#[.pointer (some ⟨P, 0, none⟩), .string (bA g0)] ++ caps) wr fun e w' => e = .returned (.bool false) ∧ Hid (UpB P wr w')) := by
          refine hQ.mono ?_
          rintro e w5 ⟨rfl, _, r3⟩
          exact ⟨by rw [ht]; rfl, r3⟩
        have HV : Hid (foldP lines f ps.tail l0 = none) := foldP_stop hkk hgt HI.out.1 ht
        clear hQ ht hba hPE hMX hkk hgt hgm hgs hpart hbX hbb hg0 hcv
        generalize bA g0 = gg at *
        go_wp2_with (first
          | (go_at_fn N; refine HQ.out.mono ?_; rintro e w5 ⟨rfl, HU5⟩; obtain ⟨⟨c0, f0⟩, ⟨c1, f1⟩, ⟨c2, f2⟩, ⟨c3, f3⟩, ⟨c4, f4⟩, ⟨c5, f5⟩, ⟨c6, f6⟩⟩ := ln_cells (HR5.out w5 HU5.out).1)
          | go_in)
        obtain ⟨q1, q2, q3⟩ := HR5.out w5 HU5.out
        change bodyPost _ _ _ _ _ (st7 w5 R Ln.none)
        have hL : LnAt (st7 w5 R Ln.none) R Ln.none := st7_at (l0 := Ln.none) q1 Ln.none
        obtain ⟨⟨d0, _⟩, ⟨d1, _⟩, ⟨d2, _⟩, ⟨d3, _⟩, ⟨d4, _⟩, ⟨d5, _⟩, ⟨d6, _⟩⟩ := ln_cells hL
        have HU := st7_up w5 R Ln.none
        generalize st7 w5 R Ln.none = wf at *
        refine bodyPost_ret (v := .tuple #[.agg (lnC Ln.none), .bool false]) (by simp [results, Tryz.results35, go_sem, d0, d1, d2, d3, d4, d5, d6, lnC, Ln.none]) rfl ?_
        refine ⟨by rw [HVN.out HV.out], ?_⟩
        have hbb : Below w.heap.size w w5 := BEL.out w5 HU5.out
        exact ⟨HU.os.trans hbb.os, HU.tape.trans hbb.tape, HU.output.trans hbb.output, Nat.le_trans hbb.size HU.size, fun g hg => (HU.block g (Nat.lt_of_lt_of_le hg hbb.size) (by have := HR0.out; omega)).trans (hbb.block g hg)⟩
      | some l2 =>
        have HQ : Hid (Calls Tryz.prog N (#[.pointer (some ⟨P, 0, none⟩), .string (bA g0)] ++ caps) wr fun e w' => e = .returned (.bool true) ∧ Hid (LnAt w' P l2 ∧ UpB P wr w')) := by
          refine hQ.mono ?_
          rintro e w5 ⟨rfl, ⟨l3, r1, r2⟩, r3⟩
          refine ⟨by rw [ht]; rfl, ?_, r3⟩
          rw [← r2 l2 ht]
          exact r1
        have HV : Hid (foldP lines (f.take (i + 1)) (ps.tail.take (i + 1)) l0 = some l2) := (foldP_step hkk hgt HI.out.1).trans ht
        clear hQ ht hba hPE hMX hkk hgt hgm hgs hpart hbX hbb hg0 hcv
        generalize bA g0 = gg at *
        go_wp2_with (first
          | (go_at_fn N; refine HQ.out.mono ?_; rintro e w5 ⟨rfl, HU5⟩)
          | go_in)
        refine ⟨⟨i + 1, l2, by omega, by go_num, HV.out, HU5.out.1, HI.out.2.2.trans HU5.out.2⟩, by simp [intOf]; omega⟩
    · obtain rfl : i = k := by omega
      have hki : ¬ (i : Int) < (i : Int) := by omega
      have HFs : Hid (foldP lines f ps.tail l0 = some l') := by
        have h1 := HI.out.1
        rw [List.take_of_length_le (by rw [HLP.out.1]; exact Nat.le_refl _), List.take_of_length_le (by rw [HLP.out.2.1]; exact Nat.le_refl _)] at h1
        exact h1
      have HR5 : Hid (∀ w5, UpB P wr w5 → w5.heap[R]? = some (.cells (lnC Ln.none) 67 (0, 0)) ∧ R ≠ P ∧ R < w5.heap.size) := by
        intro w5 hu
        have h1 := HX.out.lt.2
        have h2 := HPe.out
        have h3 := HR0.out
        have h4 : R < wr.heap.size := by
          have := HI.out.2.2.size
          have := HP4.out.2.size
          omega
        refine ⟨(hu.block R h4 (by omega)).trans ((HUP.out R (by omega)).trans ?_), by omega, Nat.lt_of_lt_of_le h4 hu.size⟩
        rw [← h3]
        exact HX.out.r0
      obtain ⟨⟨c0, f0⟩, ⟨c1, f1⟩, ⟨c2, f2⟩, ⟨c3, f3⟩, ⟨c4, f4⟩, ⟨c5, f5⟩, ⟨c6, f6⟩⟩ := ln_cells (HR5.out wr (UpB.refl _ _)).1
      obtain ⟨⟨p0, _⟩, ⟨p1, _⟩, ⟨p2, _⟩, ⟨p3, _⟩, ⟨p4, _⟩, ⟨p5, _⟩, ⟨p6, _⟩⟩ := ln_cells HI.out.2.1
      have HU5 : Hid (UpB P wr wr) := UpB.refl _ _
      obtain ⟨w5, hw5⟩ : ∃ w5, w5 = wr := ⟨_, rfl⟩
      go_wp2
      subst hw5
      obtain ⟨q1, q2, q3⟩ := HR5.out w5 HU5.out
      change bodyPost _ _ _ _ _ (st7 w5 R l')
      have hL : LnAt (st7 w5 R l') R l' := st7_at (l0 := Ln.none) q1 l'
      obtain ⟨⟨d0, _⟩, ⟨d1, _⟩, ⟨d2, _⟩, ⟨d3, _⟩, ⟨d4, _⟩, ⟨d5, _⟩, ⟨d6, _⟩⟩ := ln_cells hL
      have HU := st7_up w5 R l'
      generalize st7 w5 R l' = wf at *
      refine bodyPost_ret (v := .tuple #[.agg (lnC l'), .bool true]) (by simp [results, Tryz.results35, go_sem, d0, d1, d2, d3, d4, d5, d6, lnC]) rfl ?_
      refine ⟨by rw [HVS.out _ HFs.out], ?_⟩
      have hbb : Below w.heap.size w w5 := BEL.out w5 HU5.out
      exact ⟨HU.os.trans hbb.os, HU.tape.trans hbb.tape, HU.output.trans hbb.output, Nat.le_trans hbb.size HU.size, fun g hg => (HU.block g (Nat.lt_of_lt_of_le hg hbb.size) (by have := HR0.out; omega)).trans (hbb.block g hg)⟩

theorem lineOf_any {B M bn bl bp lines : Nat} {w0 w : World} {bs : List Nat} (h : FmI B M bn bl bp lines w0 bs w) (hB : B ≤ w.heap.size) (hl : bs.length = 13) (s : ByteArray) (hs : s.size ≤ 100000) (hm : MaxIs w) :
    Calls Tryz.prog 35 #[.string s, .map (some M)] w fun e w' => e = .returned (.tuple (linV lines s.data.toList)) ∧ Below w.heap.size w w' := by
  cases hf : frmF (Lib.cut s.data.toList [32]).1 with
  | none => exact lineOf_no h hl s hs hm hf
  | some f =>
    by_cases hw : (wdN f.length s.data.toList).length ≤ f.length
    · exact lineOf_few h hB hl s hs hm hf hw
    · exact lineOf_go h hB hl s hs hm hf (by omega)
end Go.Proofs.YtapiedeekbfpnaaGreatDoor

/- Whether one of some texts is too long. -/
namespace Go.Proofs.YtapiedeekbfpnaaGreatDoor
open Go.RowKit Go.Shelf

theorem isTooLong_any (s : ByteArray) (w : World) : Calls Tryz.prog 33 #[.string s] w fun e w' => e = .returned (.bool (decide (100000 < s.size))) ∧ w' = w := by
  go_enter Tryz.func33, Tryz.ntmps33
  go_wp2
  go_ret
  exact ⟨by simp; omega, rfl⟩

set_option maxHeartbeats 1000000 in
set_option maxRecDepth 100000 in
theorem idx_none (g o cap : Nat) (ss : List ByteArray) (w : World) (hn : ss.length ≤ 4611686018427387904) (hcell : ∀ j (hj : j < ss.length), w.cell? ⟨g, o + j, none⟩ = some (.string ss[j])) (hs : ∀ s ∈ ss, s.size ≤ 100000) :
    Calls Tryz.prog 53 #[.slice (some ⟨g, o, none⟩) ss.length cap, .func (.func 33) #[] #[]] w fun e w' => e = .returned (.int .i64 (-1)) ∧ w' = w := by
  have HC : Hid _ := hcell
  have HS : Hid _ := hs
  have hn1 : (ss.length : Int) ≤ 4611686018427387904 := by omega
  clear hcell hs
  go_enter Tryz.func53, Tryz.ntmps53
  go_wp2
  go_loop [8] (fun i => ∃ k : Nat, k ≤ ss.length ∧ i = .int .i64 k) (fun i => ss.length - (intOf i).toNat)
  case atStart => exact ⟨0, Nat.zero_le _, rfl⟩
  case round =>
    obtain ⟨k, hk, rfl⟩ := hrel
    by_cases hlt : k < ss.length
    · have hc := HC.out k hlt
      have hb : decide (100000 < (ss[k]).size) = false := by have := HS.out _ (List.getElem_mem hlt); simp; omega
      go_wp2_with (go_at_call 33; refine (isTooLong_any _ _).mono ?_; rintro e w' ⟨rfl, rfl⟩; rw [hb])
      exact ⟨⟨k + 1, by omega, by go_num⟩, by simp [intOf]; omega⟩
    · go_wp2
      go_ret
      exact ⟨rfl, rfl⟩

set_option maxHeartbeats 1000000 in
set_option maxRecDepth 100000 in
theorem idx_some (g o cap : Nat) (ss : List ByteArray) (w : World) (hn : ss.length ≤ 4611686018427387904) (hcell : ∀ j (hj : j < ss.length), w.cell? ⟨g, o + j, none⟩ = some (.string ss[j])) (hs : ∃ s ∈ ss, 100000 < s.size) :
    Calls Tryz.prog 53 #[.slice (some ⟨g, o, none⟩) ss.length cap, .func (.func 33) #[] #[]] w fun e w' => (∃ k : Nat, e = .returned (.int .i64 k)) ∧ w' = w := by
  have HC : Hid _ := hcell
  have HS : Hid _ := hs
  have hn1 : (ss.length : Int) ≤ 4611686018427387904 := by omega
  clear hcell hs
  go_enter Tryz.func53, Tryz.ntmps53
  go_wp2
  go_loop [8] (fun i => ∃ k : Nat, k ≤ ss.length ∧ i = .int .i64 k ∧ ∀ j (hj : j < ss.length), j < k → ss[j].size ≤ 100000) (fun i => ss.length - (intOf i).toNat)
  case atStart => exact ⟨0, Nat.zero_le _, rfl, by omega⟩
  case round =>
    obtain ⟨k, hk, rfl, hlo⟩ := hrel
    have HL : Hid _ := hlo
    clear hlo
    by_cases hlt : k < ss.length
    · have hc := HC.out k hlt
      by_cases hb : 100000 < (ss[k]).size
      · have hb' : decide (100000 < (ss[k]).size) = true := by simpa using hb
        clear hb
        go_wp2_with (go_at_call 33; refine (isTooLong_any _ _).mono ?_; rintro e w' ⟨rfl, rfl⟩; rw [hb'])
        go_ret
        exact ⟨⟨k, rfl⟩, rfl⟩
      · have hb' : decide (100000 < (ss[k]).size) = false := by simpa using hb
        have HB : Hid _ := hb
        clear hb
        go_wp2_with (go_at_call 33; refine (isTooLong_any _ _).mono ?_; rintro e w' ⟨rfl, rfl⟩; rw [hb'])
        refine ⟨⟨k + 1, by omega, by go_num, fun j hj hjk => ?_⟩, by simp [intOf]; omega⟩
        by_cases h : j < k
        · exact HL.out j hj h
        · obtain rfl : j = k := by omega
          exact Nat.le_of_not_lt HB.out
    · exfalso
      obtain ⟨s, hs, hlong⟩ := HS.out
      obtain ⟨j, hj, rfl⟩ := List.getElem_of_mem hs
      have := HL.out j hj (by omega)
      omega

set_option maxHeartbeats 1000000 in
theorem cf_none (g o cap : Nat) (ss : List ByteArray) (w : World) (hn : ss.length ≤ 4611686018427387904) (hcell : ∀ j (hj : j < ss.length), w.cell? ⟨g, o + j, none⟩ = some (.string ss[j])) (hs : ∀ s ∈ ss, s.size ≤ 100000) :
    Calls Tryz.prog 32 #[.slice (some ⟨g, o, none⟩) ss.length cap, .func (.func 33) #[] #[]] w fun e w' => e = .returned (.bool false) ∧ w' = w := by
  have HC : Hid _ := hcell
  have HS : Hid _ := hs
  clear hcell hs
  go_enter Tryz.func32, Tryz.ntmps32
  go_wp2_with (go_at_call 53; refine (idx_none g o cap ss _ hn HC.out HS.out).mono ?_; rintro e w' ⟨rfl, rfl⟩)
  go_ret
  exact ⟨rfl, rfl⟩

set_option maxHeartbeats 1000000 in
theorem cf_some (g o cap : Nat) (ss : List ByteArray) (w : World) (hn : ss.length ≤ 4611686018427387904) (hcell : ∀ j (hj : j < ss.length), w.cell? ⟨g, o + j, none⟩ = some (.string ss[j])) (hs : ∃ s ∈ ss, 100000 < s.size) :
    Calls Tryz.prog 32 #[.slice (some ⟨g, o, none⟩) ss.length cap, .func (.func 33) #[] #[]] w fun e w' => e = .returned (.bool true) ∧ w' = w := by
  have HC : Hid _ := hcell
  have HS : Hid _ := hs
  clear hcell hs
  go_enter Tryz.func32, Tryz.ntmps32
  go_wp2_with (go_at_call 53; refine (idx_some g o cap ss _ hn HC.out HS.out).mono ?_; rintro e w' ⟨⟨k, rfl⟩, rfl⟩)
  go_ret
  exact ⟨rfl, rfl⟩

set_option maxHeartbeats 1000000 in
set_option maxRecDepth 100000 in
theorem cf_zero (a : Option Addr) (cap : Nat) (w : World) :
    Calls Tryz.prog 32 #[.slice a 0 cap, .func (.func 33) #[] #[]] w fun e w' => e = .returned (.bool false) ∧ w' = w := by
  go_enter Tryz.func32, Tryz.ntmps32
  go_wp2
  refine wp_loop_rounds 1 ?_
  rw [rounds_succ]
  go_wp2
  go_ret
  exact ⟨rfl, rfl⟩
end Go.Proofs.YtapiedeekbfpnaaGreatDoor
