/- What each part of a line takes. -/
import Derived.Test.YtcpomkgfcpfedaaGreatDoorSbA
import Derived.Test.YtcpomkgfcpfedaaGreatDoorPath
namespace Go.Proofs.YtcpomkgfcpfedaaGreatDoor
open Go.RowKit Go.Shelf

/-- Nothing turns but one block, and what is new. -/
structure UpB (P : Nat) (w w' : World) : Prop where
  os : w'.os = w.os
  tape : w'.tape = w.tape
  output : w'.output = w.output
  size : w.heap.size ≤ w'.heap.size
  block : ∀ g : Nat, g < w.heap.size → g ≠ P → w'.heap[g]? = w.heap[g]?
theorem UpB.refl (P : Nat) (w : World) : UpB P w w := ⟨rfl, rfl, rfl, Nat.le_refl _, fun _ _ _ => rfl⟩
theorem UpB.trans {P : Nat} {a b c : World} (h : UpB P a b) (k : UpB P b c) : UpB P a c :=
  ⟨k.os.trans h.os, k.tape.trans h.tape, k.output.trans h.output, Nat.le_trans h.size k.size, fun g hg hn => (k.block g (Nat.lt_of_lt_of_le hg h.size) hn).trans (h.block g hg hn)⟩
theorem UpB.of_below {P : Nat} {w w' : World} (h : Below w.heap.size w w') : UpB P w w' := ⟨h.os, h.tape, h.output, h.size, fun g hg _ => h.block g hg⟩
theorem UpB.below {P : Nat} {w w' : World} {B : Nat} (h : UpB P w w') (hB : B ≤ P) (hw : B ≤ w.heap.size) : Below B w w' :=
  ⟨h.os, h.tape, h.output, h.size, fun g hg => h.block g (by omega) (by omega)⟩
theorem UpB.set (P i : Nat) (w : World) (v : Value) : UpB P w (w.setCell ⟨P, i, none⟩ v) :=
  ⟨rfl, rfl, rfl, by simp [World.setCell], fun g _ hg => Below.heap_setCell w ⟨P, i, none⟩ v g hg⟩
theorem UpB.drewN {P : Nat} {w w' : World} (h : UpB P w w') (n : Nat) : UpB P w (w'.drewN n) := ⟨h.os, h.tape, h.output, h.size, h.block⟩

def lnC (l : Ln) : Array Value := #[.string l.wd, .int .i64 (l.r : Int), .int .i64 (l.s : Int), .string l.pa, .string l.tx, .int .i64 (l.n : Int), .int .i64 (l.m : Int)]
/-- A line lies in a block. -/
def LnAt (w : World) (P : Nat) (l : Ln) : Prop := w.heap[P]? = some (.cells (lnC l) 43 (0, 0))
theorem LnAt.lt {w : World} {P : Nat} {l : Ln} (h : LnAt w P l) : P < w.heap.size := (Array.getElem?_eq_some_iff.1 h).1
theorem LnAt.below {w w' : World} {P : Nat} {l : Ln} (h : LnAt w P l) (hb : Below w.heap.size w w') : LnAt w' P l := (hb.block P h.lt).trans h
/-- What a part comes to. -/
def TkQ (lines k P : Nat) (l : Ln) (g : ByteArray) (w : World) (e : Ending) (w' : World) : Prop :=
  e = .returned (.bool (takP lines k l g.data.toList).isSome) ∧ (∃ l', LnAt w' P l' ∧ ∀ l2, takP lines k l g.data.toList = some l2 → l' = l2) ∧ UpB P w w'

set_option maxHeartbeats 1000000 in
set_option maxRecDepth 100000 in
theorem part_r (lines P : Nat) (l : Ln) (g : ByteArray) (w : World) (hl : LnAt w P l) (hg : g.size ≤ 1000000) :
    Calls Tryz.prog 25 #[.pointer (some ⟨P, 0, none⟩), .string g] w (TkQ lines 0 P l g w) := by
  have HR : Hid (∀ W, Calls Tryz.prog 26 #[.string g] W fun e w' => e = .returned (.tuple (regV g.data.toList)) ∧ w' = W) := fun W => register_any g W hg
  have f1 := Lib.frozen_of_heap hl 1
  have c1 : w.cell? ⟨P, 1, none⟩ = some (.int .i64 (l.r : Int)) := by rw [Lib.cell_of_heap hl]; rfl
  have H : Hid (LnAt w P l) := hl
  clear hl hg
  cases hv : regF g.data.toList with
  | none =>
    rw [show regV g.data.toList = #[.int .i64 0, .bool false] by unfold regV; rw [hv]] at HR
    have HV : Hid (regF g.data.toList = none) := hv
    clear hv
    go_enter Tryz.func25, Tryz.ntmps25
    go_wp2_with (first | (go_at_call 26; refine (HR.out _).mono ?_; rintro e w1 ⟨rfl, hw⟩; subst w1) | go_in)
    go_ret
    have ht : takP lines 0 l g.data.toList = none := by unfold takP; simp [HV.out]
    refine ⟨by rw [ht]; rfl, ⟨{ l with r := 0 }, ?_, fun l2 h2 => by rw [ht] at h2; cases h2⟩, UpB.set P 1 w _⟩
    exact Go.Joins.block_setCell H.out _
  | some v =>
    rw [show regV g.data.toList = #[.int .i64 (v : Int), .bool true] by unfold regV; rw [hv]] at HR
    have HV : Hid (regF g.data.toList = some v) := hv
    clear hv
    go_enter Tryz.func25, Tryz.ntmps25
    go_wp2_with (first | (go_at_call 26; refine (HR.out _).mono ?_; rintro e w1 ⟨rfl, hw⟩; subst w1) | go_in)
    go_ret
    have ht : takP lines 0 l g.data.toList = some { l with r := v } := by unfold takP; simp [HV.out]
    refine ⟨by rw [ht]; rfl, ⟨{ l with r := v }, ?_, fun l2 h2 => by rw [ht] at h2; exact Option.some.inj h2⟩, UpB.set P 1 w _⟩
    exact Go.Joins.block_setCell H.out _

set_option maxHeartbeats 1000000 in
set_option maxRecDepth 100000 in
theorem part_s (lines P : Nat) (l : Ln) (g : ByteArray) (w : World) (hl : LnAt w P l) (hg : g.size ≤ 1000000) :
    Calls Tryz.prog 27 #[.pointer (some ⟨P, 0, none⟩), .string g] w (TkQ lines 1 P l g w) := by
  have HR : Hid (∀ W, Calls Tryz.prog 26 #[.string g] W fun e w' => e = .returned (.tuple (regV g.data.toList)) ∧ w' = W) := fun W => register_any g W hg
  have f1 := Lib.frozen_of_heap hl 2
  have c1 : w.cell? ⟨P, 2, none⟩ = some (.int .i64 (l.s : Int)) := by rw [Lib.cell_of_heap hl]; rfl
  have H : Hid (LnAt w P l) := hl
  clear hl hg
  cases hv : regF g.data.toList with
  | none =>
    rw [show regV g.data.toList = #[.int .i64 0, .bool false] by unfold regV; rw [hv]] at HR
    have HV : Hid (regF g.data.toList = none) := hv
    clear hv
    go_enter Tryz.func27, Tryz.ntmps27
    go_wp2_with (first | (go_at_call 26; refine (HR.out _).mono ?_; rintro e w1 ⟨rfl, hw⟩; subst w1) | go_in)
    go_ret
    have ht : takP lines 1 l g.data.toList = none := by unfold takP; simp [HV.out]
    refine ⟨by rw [ht]; rfl, ⟨{ l with s := 0 }, ?_, fun l2 h2 => by rw [ht] at h2; cases h2⟩, UpB.set P 2 w _⟩
    exact Go.Joins.block_setCell H.out _
  | some v =>
    rw [show regV g.data.toList = #[.int .i64 (v : Int), .bool true] by unfold regV; rw [hv]] at HR
    have HV : Hid (regF g.data.toList = some v) := hv
    clear hv
    go_enter Tryz.func27, Tryz.ntmps27
    go_wp2_with (first | (go_at_call 26; refine (HR.out _).mono ?_; rintro e w1 ⟨rfl, hw⟩; subst w1) | go_in)
    go_ret
    have ht : takP lines 1 l g.data.toList = some { l with s := v } := by unfold takP; simp [HV.out]
    refine ⟨by rw [ht]; rfl, ⟨{ l with s := v }, ?_, fun l2 h2 => by rw [ht] at h2; exact Option.some.inj h2⟩, UpB.set P 2 w _⟩
    exact Go.Joins.block_setCell H.out _

set_option maxHeartbeats 1000000 in
set_option maxRecDepth 100000 in
theorem part_n (lines P : Nat) (l : Ln) (g : ByteArray) (w : World) (hl : LnAt w P l) (hg : g.size ≤ 1000000) :
    Calls Tryz.prog 28 #[.pointer (some ⟨P, 0, none⟩), .string g] w (TkQ lines 2 P l g w) := by
  have HR : Hid (∀ W, Calls Tryz.prog 29 #[.string g] W fun e w' => e = .returned (.tuple (numV g.data.toList)) ∧ Below W.heap.size W w') := fun W => numb_any g W hg
  have H : Hid (LnAt w P l) := hl
  clear hl hg
  cases hv : numF g.data.toList with
  | none =>
    rw [show numV g.data.toList = #[.int .i64 0, .bool false] by unfold numV; rw [hv]] at HR
    have HV : Hid (numF g.data.toList = none) := hv
    clear hv
    go_enter Tryz.func28, Tryz.ntmps28
    go_wp2_with (first | (go_at_call 29; refine (HR.out _).mono ?_; rintro e w1 ⟨rfl, hb⟩; have HB : Hid (Below w.heap.size w w1) := hb; have hl1 : w1.heap[P]? = some (.cells (lnC l) 43 (0, 0)) := H.out.below hb; have f1 := Lib.frozen_of_heap hl1 5; have c1 : w1.cell? ⟨P, 5, none⟩ = some (.int .i64 (l.n : Int)) := (by rw [Lib.cell_of_heap hl1]; rfl); have HL1 : Hid (LnAt w1 P l) := hl1; clear hb hl1) | go_in)
    go_ret
    have ht : takP lines 2 l g.data.toList = none := by unfold takP; simp [HV.out]
    refine ⟨by rw [ht]; rfl, ⟨{ l with n := 0 }, ?_, fun l2 h2 => by rw [ht] at h2; cases h2⟩, (UpB.of_below HB.out).trans (UpB.set P 5 _ _)⟩
    exact Go.Joins.block_setCell HL1.out _
  | some v =>
    rw [show numV g.data.toList = #[.int .i64 (v : Int), .bool true] by unfold numV; rw [hv]] at HR
    have HV : Hid (numF g.data.toList = some v) := hv
    clear hv
    go_enter Tryz.func28, Tryz.ntmps28
    go_wp2_with (first | (go_at_call 29; refine (HR.out _).mono ?_; rintro e w1 ⟨rfl, hb⟩; have HB : Hid (Below w.heap.size w w1) := hb; have hl1 : w1.heap[P]? = some (.cells (lnC l) 43 (0, 0)) := H.out.below hb; have f1 := Lib.frozen_of_heap hl1 5; have c1 : w1.cell? ⟨P, 5, none⟩ = some (.int .i64 (l.n : Int)) := (by rw [Lib.cell_of_heap hl1]; rfl); have HL1 : Hid (LnAt w1 P l) := hl1; clear hb hl1) | go_in)
    go_ret
    have ht : takP lines 2 l g.data.toList = some { l with n := v } := by unfold takP; simp [HV.out]
    refine ⟨by rw [ht]; rfl, ⟨{ l with n := v }, ?_, fun l2 h2 => by rw [ht] at h2; exact Option.some.inj h2⟩, (UpB.of_below HB.out).trans (UpB.set P 5 _ _)⟩
    exact Go.Joins.block_setCell HL1.out _

set_option maxHeartbeats 1000000 in
set_option maxRecDepth 100000 in
theorem part_m (lines P : Nat) (l : Ln) (g : ByteArray) (w : World) (hl : LnAt w P l) (hg : g.size ≤ 1000000) :
    Calls Tryz.prog 30 #[.pointer (some ⟨P, 0, none⟩), .string g] w (TkQ lines 3 P l g w) := by
  have HR : Hid (∀ W, Calls Tryz.prog 29 #[.string g] W fun e w' => e = .returned (.tuple (numV g.data.toList)) ∧ Below W.heap.size W w') := fun W => numb_any g W hg
  have H : Hid (LnAt w P l) := hl
  clear hl hg
  cases hv : numF g.data.toList with
  | none =>
    rw [show numV g.data.toList = #[.int .i64 0, .bool false] by unfold numV; rw [hv]] at HR
    have HV : Hid (numF g.data.toList = none) := hv
    clear hv
    go_enter Tryz.func30, Tryz.ntmps30
    go_wp2_with (first | (go_at_call 29; refine (HR.out _).mono ?_; rintro e w1 ⟨rfl, hb⟩; have HB : Hid (Below w.heap.size w w1) := hb; have hl1 : w1.heap[P]? = some (.cells (lnC l) 43 (0, 0)) := H.out.below hb; have f1 := Lib.frozen_of_heap hl1 6; have c1 : w1.cell? ⟨P, 6, none⟩ = some (.int .i64 (l.m : Int)) := (by rw [Lib.cell_of_heap hl1]; rfl); have HL1 : Hid (LnAt w1 P l) := hl1; clear hb hl1) | go_in)
    go_ret
    have ht : takP lines 3 l g.data.toList = none := by unfold takP; simp [HV.out]
    refine ⟨by rw [ht]; rfl, ⟨{ l with m := 0 }, ?_, fun l2 h2 => by rw [ht] at h2; cases h2⟩, (UpB.of_below HB.out).trans (UpB.set P 6 _ _)⟩
    exact Go.Joins.block_setCell HL1.out _
  | some v =>
    rw [show numV g.data.toList = #[.int .i64 (v : Int), .bool true] by unfold numV; rw [hv]] at HR
    have HV : Hid (numF g.data.toList = some v) := hv
    clear hv
    go_enter Tryz.func30, Tryz.ntmps30
    go_wp2_with (first | (go_at_call 29; refine (HR.out _).mono ?_; rintro e w1 ⟨rfl, hb⟩; have HB : Hid (Below w.heap.size w w1) := hb; have hl1 : w1.heap[P]? = some (.cells (lnC l) 43 (0, 0)) := H.out.below hb; have f1 := Lib.frozen_of_heap hl1 6; have c1 : w1.cell? ⟨P, 6, none⟩ = some (.int .i64 (l.m : Int)) := (by rw [Lib.cell_of_heap hl1]; rfl); have HL1 : Hid (LnAt w1 P l) := hl1; clear hb hl1) | go_in)
    go_ret
    have ht : takP lines 3 l g.data.toList = some { l with m := v } := by unfold takP; simp [HV.out]
    refine ⟨by rw [ht]; rfl, ⟨{ l with m := v }, ?_, fun l2 h2 => by rw [ht] at h2; exact Option.some.inj h2⟩, (UpB.of_below HB.out).trans (UpB.set P 6 _ _)⟩
    exact Go.Joins.block_setCell HL1.out _

set_option maxHeartbeats 1000000 in
set_option maxRecDepth 100000 in
theorem part_text (lines P : Nat) (l : Ln) (g : ByteArray) (w : World) (hl : LnAt w P l) :
    Calls Tryz.prog 33 #[.pointer (some ⟨P, 0, none⟩), .string g] w (TkQ lines 6 P l g w) := by
  have f1 := Lib.frozen_of_heap hl 4
  have c1 : w.cell? ⟨P, 4, none⟩ = some (.string l.tx) := by rw [Lib.cell_of_heap hl]; rfl
  have H : Hid (LnAt w P l) := hl
  clear hl
  go_enter Tryz.func33, Tryz.ntmps33
  go_wp2
  go_ret
  have ht : takP lines 6 l g.data.toList = some { l with tx := g } := by unfold takP bA; simp
  refine ⟨by rw [ht]; rfl, ⟨{ l with tx := g }, ?_, fun l2 h2 => by rw [ht] at h2; exact Option.some.inj h2⟩, UpB.set P 4 w _⟩
  exact Go.Joins.block_setCell H.out _

theorem bA_data (g : ByteArray) : bA g.data.toList = g := by unfold bA; simp

set_option maxHeartbeats 1000000 in
set_option maxRecDepth 100000 in
theorem part_path (P : Nat) (l : Ln) (g : ByteArray) (w : World) (hl : LnAt w P l) (hm : MaxIs w) :
    Calls Tryz.prog 34 #[.pointer (some ⟨P, 0, none⟩), .string g] w fun e w' => e = .returned (.bool (pathOk g)) ∧ LnAt w' P { l with pa := g } ∧ UpB P w w' := by
  have f1 := Lib.frozen_of_heap hl 3
  have c1 : w.cell? ⟨P, 3, none⟩ = some (.string l.pa) := by rw [Lib.cell_of_heap hl]; rfl
  have H : Hid (LnAt w P l) := hl
  have hl2 : LnAt (w.setCell ⟨P, 3, none⟩ (.string g)) P { l with pa := g } := Go.Joins.block_setCell hl _
  have HU : Hid (UpB P w (w.setCell ⟨P, 3, none⟩ (.string g))) := UpB.set P 3 w _
  have hm2 : MaxIs (w.setCell ⟨P, 3, none⟩ (.string g)) := by
    obtain ⟨x, hx⟩ := hm
    by_cases hP : P = 0
    · subst hP
      rw [Lib.cell_of_heap hl] at hx
      cases hx
    · refine ⟨x, ?_⟩
      rw [World.cell?_setCell_other _ _ _ _ (fun e => hP (by have := congrArg Addr.block e; exact this))]
      exact hx
  have HP : Hid (Calls Tryz.prog 35 #[.string g] (w.setCell ⟨P, 3, none⟩ (.string g)) fun e w' => e = .returned (.bool (pathOk g)) ∧ Below (w.setCell ⟨P, 3, none⟩ (.string g)).heap.size (w.setCell ⟨P, 3, none⟩ (.string g)) w') := IsPath_any g _ hm2
  have HL : Hid (LnAt (w.setCell ⟨P, 3, none⟩ (.string g)) P { l with pa := g }) := hl2
  clear hl hl2 hm hm2
  go_enter Tryz.func34, Tryz.ntmps34
  go_wp2_with (first | (go_at_call 35; refine HP.out.mono ?_; rintro e w1 ⟨rfl, hb⟩; have HB : Hid (Below (w.setCell ⟨P, 3, none⟩ (.string g)).heap.size (w.setCell ⟨P, 3, none⟩ (.string g)) w1) := hb; clear hb) | go_in)
  go_ret
  exact ⟨rfl, HL.out.below HB.out, HU.out.trans (UpB.of_below HB.out)⟩
theorem part_path7 (lines P : Nat) (l : Ln) (g : ByteArray) (w : World) (hl : LnAt w P l) (hm : MaxIs w) :
    Calls Tryz.prog 34 #[.pointer (some ⟨P, 0, none⟩), .string g] w (TkQ lines 7 P l g w) := by
  refine (part_path P l g w hl hm).mono ?_
  rintro e w' ⟨rfl, h1, h2⟩
  have ht : takP lines 7 l g.data.toList = if pathOk g = true then some { l with pa := g } else none := by
    unfold takP
    rw [bA_data]
    simp
  refine ⟨?_, ⟨_, h1, fun l2 e => ?_⟩, h2⟩
  · rw [ht]
    cases pathOk g <;> rfl
  · rw [ht] at e
    split at e
    · exact Option.some.inj e
    · cases e

/-- What the parts lean on: a number is a part of its own, and so is a path; how many lines there are. -/
def PrtE (w : World) (bn bl bp lines : Nat) : Prop :=
  w.cell? ⟨bn, 0, none⟩ = some (.func (.func 28) #[] #[]) ∧ w.cell? ⟨bl, 0, none⟩ = some (.int .i64 (lines : Int)) ∧ w.cell? ⟨bp, 0, none⟩ = some (.func (.func 34) #[] #[])
theorem ne_of_cell {w : World} {P b : Nat} {v : Value} {l : Ln} (hl : LnAt w P l) (hc : w.cell? ⟨b, 0, none⟩ = some v) (hv : ∀ s, v ≠ .string s) : b ≠ P := by
  rintro rfl
  rw [Lib.cell_of_heap hl] at hc
  exact hv l.wd (Option.some.inj hc).symm
theorem cell_up {w w' : World} {P b : Nat} {v : Value} (hu : UpB P w w') (hn : b ≠ P) (hc : w.cell? ⟨b, 0, none⟩ = some v) : w'.cell? ⟨b, 0, none⟩ = some v := by
  have hlt : b < w.heap.size := World.block_lt_of_cell? w ⟨b, 0, none⟩ hc
  have := hu.block b hlt hn
  unfold World.cell? at hc ⊢
  simp only at hc ⊢
  rw [this]
  exact hc

set_option maxHeartbeats 1000000 in
set_option maxRecDepth 100000 in
theorem part_end (lines P bn : Nat) (l : Ln) (g : ByteArray) (w : World) (hl : LnAt w P l) (hg : g.size ≤ 1000000) (hn : w.cell? ⟨bn, 0, none⟩ = some (.func (.func 28) #[] #[])) :
    Calls Tryz.prog 32 #[.pointer (some ⟨P, 0, none⟩), .string g, .pointer (some ⟨bn, 0, none⟩)] w (TkQ lines 5 P l g w) := by
  have HR : Hid (Calls Tryz.prog 28 #[.pointer (some ⟨P, 0, none⟩), .string g] w (TkQ lines 2 P l g w)) := part_n lines P l g w hl hg
  clear hl hg
  cases hv : numF g.data.toList with
  | none =>
    have h2 : takP lines 2 l g.data.toList = none := by unfold takP; simp [hv]
    have h5 : Hid (takP lines 5 l g.data.toList = none) := by show _ = _; unfold takP; simp [hv]
    unfold TkQ at HR
    rw [h2] at HR
    clear hv h2
    go_enter Tryz.func32, Tryz.ntmps32
    go_wp2_with (first | (go_at_call 28; refine HR.out.mono ?_; rintro e w1 ⟨rfl, hq⟩; have HQ : Hid _ := hq; clear hq) | go_in)
    go_ret
    obtain ⟨⟨l', q1, _⟩, q3⟩ := HQ.out
    exact ⟨by rw [h5.out]; rfl, ⟨l', q1, fun l2 e => by rw [h5.out] at e; cases e⟩, q3⟩
  | some v =>
    have h2 : takP lines 2 l g.data.toList = some { l with n := v } := by unfold takP; simp [hv]
    have h5 : Hid (takP lines 5 l g.data.toList = if v ≤ 99 then some { l with n := v } else none) := by show _ = _; unfold takP; simp [hv]
    unfold TkQ at HR
    rw [h2] at HR
    clear hv h2
    by_cases h9 : v ≤ 99
    · have h9i : (v : Int) ≤ 99 := by omega
      go_enter Tryz.func32, Tryz.ntmps32
      go_wp2_with (first | (go_at_call 28; refine HR.out.mono ?_; rintro e w1 ⟨rfl, hq⟩; have HQ : Hid _ := hq; obtain ⟨⟨l', q1, q2⟩, q3⟩ := hq; obtain rfl := q2 _ rfl; have c5 : w1.cell? ⟨P, 5, none⟩ = some (.int .i64 (v : Int)) := (by rw [Lib.cell_of_heap q1]; rfl); clear q1 q2 q3) | go_in)
      go_ret
      obtain ⟨⟨l', q1, q2⟩, q3⟩ := HQ.out
      obtain rfl := q2 _ rfl
      rw [if_pos h9] at h5
      exact ⟨by rw [h5.out]; rfl, ⟨_, q1, fun l2 e => by rw [h5.out] at e; exact Option.some.inj e⟩, q3⟩
    · have h9i : ¬ (v : Int) ≤ 99 := by omega
      go_enter Tryz.func32, Tryz.ntmps32
      go_wp2_with (first | (go_at_call 28; refine HR.out.mono ?_; rintro e w1 ⟨rfl, hq⟩; have HQ : Hid _ := hq; obtain ⟨⟨l', q1, q2⟩, q3⟩ := hq; obtain rfl := q2 _ rfl; have c5 : w1.cell? ⟨P, 5, none⟩ = some (.int .i64 (v : Int)) := (by rw [Lib.cell_of_heap q1]; rfl); clear q1 q2 q3) | go_in)
      go_ret
      obtain ⟨⟨l', q1, q2⟩, q3⟩ := HQ.out
      obtain rfl := q2 _ rfl
      rw [if_neg h9] at h5
      exact ⟨by rw [h5.out]; show Ending.returned (.bool (decide ((v : Int) ≤ 99))) = _; rw [decide_eq_false (by omega)]; rfl, ⟨_, q1, fun l2 e => by rw [h5.out] at e; cases e⟩, q3⟩

set_option maxHeartbeats 1000000 in
set_option maxRecDepth 100000 in
theorem part_dir (lines P bp : Nat) (l : Ln) (g : ByteArray) (w : World) (hl : LnAt w P l) (hm : MaxIs w) (hn : w.cell? ⟨bp, 0, none⟩ = some (.func (.func 34) #[] #[])) :
    Calls Tryz.prog 36 #[.pointer (some ⟨P, 0, none⟩), .string g, .pointer (some ⟨bp, 0, none⟩)] w (TkQ lines 8 P l g w) := by
  have HR : Hid (Calls Tryz.prog 34 #[.pointer (some ⟨P, 0, none⟩), .string g] w fun e w' => e = .returned (.bool (pathOk g)) ∧ LnAt w' P { l with pa := g } ∧ UpB P w w') := part_path P l g w hl hm
  have ht : Hid (takP lines 8 l g.data.toList = if pathOk g = true ∨ g.data.toList = [46] then some { l with pa := g } else none) := by
    show _ = _
    unfold takP
    rw [bA_data]
    simp
  clear hl hm
  cases hp : pathOk g with
  | true =>
    rw [hp] at HR ht
    go_enter Tryz.func36, Tryz.ntmps36
    go_wp2_with (first | (go_at_call 34; refine HR.out.mono ?_; rintro e w1 ⟨rfl, hq⟩; have HQ : Hid _ := hq; clear hq) | go_in)
    go_ret
    rw [if_pos (.inl (by simp))] at ht
    exact ⟨by rw [ht.out]; rfl, ⟨_, HQ.out.1, fun l2 e => by rw [ht.out] at e; exact Option.some.inj e⟩, HQ.out.2⟩
  | false =>
    rw [hp] at HR ht
    by_cases hd : g.data.toList = [46]
    · have hd' : (g.toList == [46]) = true := by rw [Lib.toList_data, hd]; rfl
      have HD : Hid (g.data.toList = [46]) := hd
      clear hd hp
      go_enter Tryz.func36, Tryz.ntmps36
      go_wp2_with (first | (go_at_call 34; refine HR.out.mono ?_; rintro e w1 ⟨rfl, hq⟩; have HQ : Hid _ := hq; clear hq) | go_in)
      go_ret
      rw [if_pos (.inr HD.out)] at ht
      exact ⟨by rw [ht.out]; rfl, ⟨_, HQ.out.1, fun l2 e => by rw [ht.out] at e; exact Option.some.inj e⟩, HQ.out.2⟩
    · have hd' : (g.toList == [46]) = false := by rw [Lib.toList_data]; exact beq_eq_false_iff_ne.2 hd
      have HD : Hid (g.data.toList ≠ [46]) := hd
      clear hd hp
      go_enter Tryz.func36, Tryz.ntmps36
      go_wp2_with (first | (go_at_call 34; refine HR.out.mono ?_; rintro e w1 ⟨rfl, hq⟩; have HQ : Hid _ := hq; clear hq) | go_in)
      go_ret
      rw [if_neg (fun h => h.elim (fun h => by simp at h) HD.out)] at ht
      exact ⟨by rw [ht.out]; rfl, ⟨_, HQ.out.1, fun l2 e => by rw [ht.out] at e; cases e⟩, HQ.out.2⟩

theorem step_call {P : Program} {ops : Array Oper} {o : Oper} {a : Act} {w : World} {K : Act → World → Prop} {Q : Exit → Act → World → Prop} {E : Prop} (hg : o.guard = none) (h : Oper.wp P o a w K Q) : if Region.wanted o (yielded ops a.tmps) = true then Oper.wp P o a w K Q else E := by
  have hw : Region.wanted o (yielded ops a.tmps) = true := by simp [Region.wanted, hg]
  rw [if_pos hw]
  exact h

theorem wpAny_takeF {P : Program} {ops : Array Oper} {Q : Exit → Act → World → Prop} {md : Region.Mode} {i : Nat} {oi : Oper} {v : Value} {fuel : Nat} {listed : Array Bool} {a a2 : Act} {w : World} (hi : ops[i]? = some oi)
    (hs : Region.noSelect ops = true) (hf : Region.free md ops listed i = true) (hr : (Region.ready md ops listed).contains i = true)
    (hQ : ∀ c a w, Q (.panic c) (a.put oi.dst v) w → Q (.panic c) a w) (hy : Yields P ops oi v a) (he : a.put oi.dst v = a2)
    (h : wpAny P md ops Q fuel (listed.setIfInBounds i true) a2 w) : wpAny P md ops Q (fuel + 1) listed a w := wpAny_take hi hs hf hr hQ hy (he ▸ h)

def AtS (bn P : Nat) (w W : World) : Prop := W.cell? ⟨bn, 0, none⟩ = some (.func (.func 28) #[] #[]) ∧ (∃ l', LnAt W P l') ∧ UpB P w W

set_option maxHeartbeats 8000000 in
set_option maxRecDepth 100000 in
theorem part_at (lines P bn bl : Nat) (l : Ln) (g : ByteArray) (w : World) (hl : LnAt w P l) (hg : g.size ≤ 1000000) (hn : w.cell? ⟨bn, 0, none⟩ = some (.func (.func 28) #[] #[])) (hb : w.cell? ⟨bl, 0, none⟩ = some (.int .i64 (lines : Int))) :
    Calls Tryz.prog 31 #[.pointer (some ⟨P, 0, none⟩), .string g, .pointer (some ⟨bn, 0, none⟩), .pointer (some ⟨bl, 0, none⟩)] w (TkQ lines 4 P l g w) := by
  have HR : Hid (Calls Tryz.prog 28 #[.pointer (some ⟨P, 0, none⟩), .string g] w.drew (TkQ lines 2 P l g w.drew)) := part_n lines P l g w.drew hl hg
  have HC : Hid (∀ w1, UpB P w.drew w1 → w1.cell? ⟨bl, 0, none⟩ = some (.int .i64 (lines : Int))) := fun w1 hu => cell_up (w := w.drew) hu (ne_of_cell hl hb (fun s e => by cases e)) hb
  have HG : Hid (g.size ≤ 1000000) := hg
  have HL : Hid (LnAt w P l) := hl
  have HU0 : Hid (w.drew.cell? ⟨bn, 0, none⟩ = some (.func (.func 28) #[] #[]) ∧ AtS bn P w w.drew) := ⟨hn, hn, ⟨l, hl⟩, ⟨rfl, rfl, rfl, Nat.le_refl _, fun _ _ _ => rfl⟩⟩
  clear hl hg hb
  cases hv : numF g.data.toList with
  | none =>
    have h2 : takP lines 2 l g.data.toList = none := by unfold takP; simp [hv]
    have h5 : Hid (takP lines 4 l g.data.toList = none) := by show _ = _; unfold takP; simp [hv]
    have HR2 : Hid (∀ W, AtS bn P w W → Calls Tryz.prog 28 #[.pointer (some ⟨P, 0, none⟩), .string g] W fun e w' => e = .returned (.bool false) ∧ (w'.cell? ⟨bn, 0, none⟩ = some (.func (.func 28) #[] #[]) ∧ AtS bn P w w')) := by
      rintro W ⟨q1, ⟨l', q2⟩, q3⟩
      refine (part_n lines P l' g W q2 HG.out).mono ?_
      rintro e w1 ⟨rfl, ⟨l2, r1, _⟩, r3⟩
      have h3 : takP lines 2 l' g.data.toList = none := by unfold takP; simp [hv]
      have r4 := cell_up r3 (ne_of_cell q2 q1 (fun s e => by cases e)) q1
      exact ⟨by rw [h3]; rfl, r4, r4, ⟨l2, r1⟩, q3.trans r3⟩
    clear hv h2 HR
    go_enter Tryz.func31, Tryz.ntmps31
    go_wp2
    refine wp_region_any (by kernel_rfl) ?_
    refine wpAny_take (i := 1) (v := .pointer (some ⟨P, 0, none⟩)) (by rfl) (by kernel_rfl) (by kernel_rfl) (by kernel_rfl) (by intro c a w h; exact h) (.inl ⟨by kernel_rfl, fun _ => by kernel_rfl⟩) ?_
    simp only [Act.put, Array.setIfInBounds, Array.set]
    refine wpAny_take (i := 2) (v := .string g) (by rfl) (by kernel_rfl) (by kernel_rfl) (by kernel_rfl) (by intro c a w h; exact h) (.inl ⟨by kernel_rfl, fun _ => by kernel_rfl⟩) ?_
    simp only [Act.put, Array.setIfInBounds, Array.set]
    refine wpAny_ready (rs := [0]) (by kernel_rfl) (by simp) (AllReady.cons (by rfl) (fun K hK => ?_) AllReady.nil)
    rw [if_pos (by rfl)]
    go_simp
    refine hK _ _ ?_
    refine wpAny_ready (rs := [3]) (by kernel_rfl) (by simp) (AllReady.cons (by rfl) (fun K2 hK2 => ?_) AllReady.nil)
    refine step_call (by rfl) ?_
    go_simp
    go_at_call 28
    refine (HR2.out _ HU0.out.2).mono ?_
    rintro e w1 ⟨rfl, q1, q2⟩
    refine hK2 _ _ ?_
    refine wpAny_take (i := 4) (v := .bool false) (by rfl) (by kernel_rfl) (by kernel_rfl) (by kernel_rfl) (by intro c a w h; exact h) (.inl ⟨by kernel_rfl, fun _ => by kernel_rfl⟩) ?_
    simp only [Act.put, Array.setIfInBounds, Array.set]
    refine wpAny_take (i := 5) (v := undef) (by rfl) (by kernel_rfl) (by kernel_rfl) (by kernel_rfl) (by intro c a w h; exact h) (.inr ⟨by kernel_rfl, rfl⟩) ?_
    simp only [Act.put, Array.setIfInBounds, Array.set]
    refine wpAny_take (i := 6) (v := undef) (by rfl) (by kernel_rfl) (by kernel_rfl) (by kernel_rfl) (by intro c a w h; exact h) (.inr ⟨by kernel_rfl, rfl⟩) ?_
    simp only [Act.put, Array.setIfInBounds, Array.set]
    refine wpAny_take (i := 7) (v := undef) (by rfl) (by kernel_rfl) (by kernel_rfl) (by kernel_rfl) (by intro c a w h; exact h) (.inr ⟨by kernel_rfl, rfl⟩) ?_
    simp only [Act.put, Array.setIfInBounds, Array.set]
    refine wpAny_take (i := 8) (v := undef) (by rfl) (by kernel_rfl) (by kernel_rfl) (by kernel_rfl) (by intro c a w h; exact h) (.inr ⟨by kernel_rfl, rfl⟩) ?_
    simp only [Act.put, Array.setIfInBounds, Array.set]
    refine wpAny_take (i := 9) (v := undef) (by rfl) (by kernel_rfl) (by kernel_rfl) (by kernel_rfl) (by intro c a w h; exact h) (.inr ⟨by kernel_rfl, rfl⟩) ?_
    simp only [Act.put, Array.setIfInBounds, Array.set]
    refine wpAny_take (i := 10) (v := undef) (by rfl) (by kernel_rfl) (by kernel_rfl) (by kernel_rfl) (by intro c a w h; exact h) (.inr ⟨by kernel_rfl, rfl⟩) ?_
    simp only [Act.put, Array.setIfInBounds, Array.set]
    refine wpAny_takeF (i := 11) (v := .bool false) (a2 := ⟨#[.pointer (some ⟨P, 0, none⟩), .string g, .pointer (some ⟨bn, 0, none⟩), .pointer (some ⟨bl, 0, none⟩), undef, undef, .bool false, .func (.func 28) #[] #[], .pointer (some ⟨P, 0, none⟩), .string g, .bool false, .bool false, undef, undef, undef, undef, undef, undef, .bool false], []⟩) (by rfl) (by kernel_rfl) (by kernel_rfl) (by kernel_rfl) (by intro c a w h; exact h) (.inl ⟨by kernel_rfl, fun _ => by kernel_rfl⟩) (by kernel_rfl) ?_
    refine wpAny_takeF (i := 12) (v := .bool false) (a2 := ⟨#[.pointer (some ⟨P, 0, none⟩), .string g, .pointer (some ⟨bn, 0, none⟩), .pointer (some ⟨bl, 0, none⟩), undef, undef, .bool false, .func (.func 28) #[] #[], .pointer (some ⟨P, 0, none⟩), .string g, .bool false, .bool false, undef, undef, undef, undef, undef, undef, .bool false], []⟩) (by rfl) (by kernel_rfl) (by kernel_rfl) (by kernel_rfl) (by intro c a w h; exact h) (.inl ⟨by kernel_rfl, fun _ => by kernel_rfl⟩) (by kernel_rfl) ?_
    refine wpAny_done (by kernel_rfl) ?_ _
    go_wp2
    go_ret
    obtain ⟨_, ⟨l', r1⟩, r3⟩ := q2
    exact ⟨by rw [h5.out]; rfl, ⟨l', r1, fun l2 e => by rw [h5.out] at e; cases e⟩, r3⟩
  | some v =>
    have h2 : takP lines 2 l g.data.toList = some { l with n := v } := by unfold takP; simp [hv]
    have h5 : Hid (takP lines 4 l g.data.toList = if v ≤ lines then some { l with n := v } else none) := by show _ = _; unfold takP; simp [hv]
    have HR2 : Hid (Calls Tryz.prog 28 #[.pointer (some ⟨P, 0, none⟩), .string g] w.drew fun e w' => e = .returned (.bool true) ∧ LnAt w' P { l with n := v } ∧ UpB P w.drew w') := HR.out.mono fun e w' hq => ⟨by rw [hq.1, h2]; rfl, by have h3 := hq.2.1.choose_spec; rw [← h3.2 _ h2]; exact h3.1, hq.2.2⟩
    clear hv h2 HR
    by_cases h9 : v ≤ lines
    · have h9i : (v : Int) ≤ (lines : Int) := by omega
      go_enter Tryz.func31, Tryz.ntmps31
      go_wp2
      go_region_with ((go_at_call 28; refine HR2.out.mono ?_; rintro e w1 ⟨rfl, hq⟩; have HQ : Hid _ := hq; obtain ⟨q1, q3⟩ := hq; have c5 : w1.cell? ⟨P, 5, none⟩ = some (.int .i64 (v : Int)) := (by rw [Lib.cell_of_heap q1]; rfl); have cl := HC.out w1 q3; clear q1 q3))
      all_goals
        go_wp2
        go_ret
        obtain ⟨q1, q3⟩ := HQ.out
        rw [if_pos h9] at h5
        exact ⟨by rw [h5.out]; rfl, ⟨_, q1, fun l2 e => by rw [h5.out] at e; exact Option.some.inj e⟩, ⟨q3.os, q3.tape, q3.output, q3.size, q3.block⟩⟩
    · have h9i : ¬ (v : Int) ≤ (lines : Int) := by omega
      go_enter Tryz.func31, Tryz.ntmps31
      go_wp2
      go_region_with ((go_at_call 28; refine HR2.out.mono ?_; rintro e w1 ⟨rfl, hq⟩; have HQ : Hid _ := hq; obtain ⟨q1, q3⟩ := hq; have c5 : w1.cell? ⟨P, 5, none⟩ = some (.int .i64 (v : Int)) := (by rw [Lib.cell_of_heap q1]; rfl); have cl := HC.out w1 q3; clear q1 q3))
      all_goals
        go_wp2
        go_ret
        obtain ⟨q1, q3⟩ := HQ.out
        rw [if_neg h9] at h5
        exact ⟨by rw [h5.out]; first | rfl | (show Ending.returned (.bool (decide ((v : Int) ≤ (lines : Int)))) = _; rw [decide_eq_false (by omega)]; rfl), ⟨_, q1, fun l2 e => by rw [h5.out] at e; cases e⟩, ⟨q3.os, q3.tape, q3.output, q3.size, q3.block⟩⟩
end Go.Proofs.YtcpomkgfcpfedaaGreatDoor
