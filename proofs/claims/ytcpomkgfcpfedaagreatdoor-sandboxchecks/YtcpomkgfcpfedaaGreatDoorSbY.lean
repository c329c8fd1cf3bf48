/- A machine makes a file. -/
import Derived.Test.YtcpomkgfcpfedaaGreatDoorSbX
namespace Go.Proofs.YtcpomkgfcpfedaaGreatDoor
open Go.RowKit Go.Shelf Go.Maps Go.WideMaps Go.Sort

theorem UpB.keep {P g : Nat} {w w' : World} (h : UpB P w w') (hg : g < w.heap.size) (hn : g ≠ P) : w'.heap[g]? = w.heap[g]? := h.block g hg hn
theorem burnM_mp (m : Mc) (b : Nat) : (burnM m b).1.mp = m.mp := by unfold burnM; split <;> rfl
theorem endM_mp (m : Mc) (c : Nat) : (endM m c).mp = m.mp := by
  unfold endM
  split
  · exact burnM_mp m 0
  · exact burnM_mp m 0
/-- Two blocks may turn, and what is new. -/
structure UpC (P M : Nat) (w w' : World) : Prop where
  os : w'.os = w.os
  tape : w'.tape = w.tape
  output : w'.output = w.output
  size : w.heap.size ≤ w'.heap.size
  block : ∀ g : Nat, g < w.heap.size → g ≠ P → g ≠ M → w'.heap[g]? = w.heap[g]?
theorem UpC.of {P M : Nat} {w w' : World} (h : UpB P w w') : UpC P M w w' := ⟨h.os, h.tape, h.output, h.size, fun g hg hn _ => h.block g hg hn⟩
theorem UpC.trans {P M : Nat} {a b c : World} (h : UpC P M a b) (k : UpC P M b c) : UpC P M a c :=
  ⟨k.os.trans h.os, k.tape.trans h.tape, k.output.trans h.output, Nat.le_trans h.size k.size, fun g hg hn hm => (k.block g (Nat.lt_of_lt_of_le hg h.size) hn hm).trans (h.block g hg hn hm)⟩
/-- A file is made. -/
def mkM (m : Mc) (L : List Fl) (f : Fl) : Mc := if mayF L f.pa = true then (burnM m f.tx.size).1 else endM m 103
def mkD (m : Mc) (L : List Fl) (f : Fl) (D : DataW Unit) : DataW Unit := if mayF L f.pa = true ∧ (burnM m f.tx.size).2 = true then D.put (.string (pth f)) (fD f) else D
theorem mkM_mp (m : Mc) (L : List Fl) (f : Fl) : (mkM m L f).mp = m.mp := by
  unfold mkM
  split
  · exact burnM_mp m _
  · exact endM_mp m _

set_option maxHeartbeats 4000000 in
set_option maxRecDepth 100000 in
theorem makeFile_any (m : Mc) (P n : Nat) (L : List Fl) (f : Fl) (w : World) (h : McAt w P m) (ho : w.ownsMap Tryz.prog 9 fileE m.mp n (byD L)) (hn : (L.map pth).Nodup) (hnn : n ≤ 1000000) (hne : m.mp ≠ P) (hs : f.pa.size ≤ 1000000) (ht : f.tx.size ≤ 1000000) (hf : m.fuel ≤ 1000000) :
    Calls Tryz.prog 73 #[.pointer (some ⟨P, 0, none⟩), encF f] w fun e w' => e = .returned (.tuple #[]) ∧ McAt w' P (mkM m L f) ∧ (∃ n', n' ≤ n + 1 ∧ w'.ownsMap Tryz.prog 9 fileE m.mp n' (mkD m L f (byD L))) ∧ UpC P m.mp w w' := by
  obtain ⟨W, hW⟩ : ∃ W, W = w.alloc (.cells #[.string f.pa, .string f.tx, .bool f.rn] 37) := ⟨_, rfl⟩
  have hbW : Below w.heap.size w W := by rw [hW]; exact (Below.refl _ w).alloc (Nat.le_refl _) _
  have hF : W.heap[w.heap.size]? = some (.cells #[.string f.pa, .string f.tx, .bool f.rn] 37 (0, 0)) := by rw [hW]; exact heap_alloc_new w _
  have hsz : W.heap.size = w.heap.size + 1 := by rw [hW]; exact World.size_alloc _ _
  have hmc := h.below hbW
  have hoW : W.ownsMap Tryz.prog 9 fileE m.mp n (byD L) := ownsMap_heap ho (hbW.block _ ho.lt)
  have hMay := mayMake_any m P n L f.pa W hmc hoW hn (by unfold maxLen; omega)
  have hPl := h.lt
  have hMl := ho.lt
  unfold mkM mkD
  cases hm : mayF L f.pa with
  | false =>
    rw [hm] at hMay
    have HM : Hid (Calls Tryz.prog 103 #[.pointer (some ⟨P, 0, none⟩), .string f.pa] W fun e w' => e = .returned (.bool false) ∧ Hid (Below W.heap.size W w')) := hMay
    rw [if_neg (by simp), if_neg (by simp)]
    have HE : Hid (∀ V, Hid (Below W.heap.size W V) → Calls Tryz.prog 80 #[.pointer (some ⟨P, 0, none⟩), .int .i64 (103 : Int)] V fun e w' => e = .returned (.tuple #[]) ∧ Hid (McAt w' P (endM m 103) ∧ w'.ownsMap Tryz.prog 9 fileE m.mp n (byD L) ∧ UpC P m.mp w w')) := by
      intro V hV
      have h1 := hmc.below hV.out
      refine (end_any m P 103 V h1 hf).mono ?_
      rintro e w' ⟨rfl, q1, q2⟩
      have hVw : Below w.heap.size w V := below_low hbW hV.out hbW.size
      refine ⟨rfl, q1, ownsMap_heap hoW ((q2.block m.mp (by have := hV.out.size; omega) hne).trans (hV.out.block _ (by omega))), ?_⟩
      exact ⟨q2.os.trans hVw.os, q2.tape.trans hVw.tape, q2.output.trans hVw.output, Nat.le_trans hVw.size q2.size, fun g hg hgn _ => (q2.block g (by have := hVw.size; omega) hgn).trans (hVw.block g hg)⟩
    rw [hW] at HM HE
    clear hMay hm hmc hoW hF hsz hbW hW h ho hn hf
    unfold encF
    go_enter Tryz.func73, Tryz.ntmps73
    go_wp2_with (first
      | (go_at_call 103; refine HM.out.mono ?_; rintro e w1 ⟨rfl, HB1⟩)
      | (go_at_call 80; refine (HE.out _ HB1).mono ?_; rintro e w2 ⟨rfl, H2⟩)
      | go_in)
    refine bodyPost_ret (v := .tuple #[]) (by simp [results, Tryz.results73]) rfl ?_
    exact ⟨rfl, H2.out.1, ⟨n, by omega, H2.out.2.1⟩, H2.out.2.2⟩
  | true =>
    rw [hm] at hMay
    have HM : Hid (Calls Tryz.prog 103 #[.pointer (some ⟨P, 0, none⟩), .string f.pa] W fun e w' => e = .returned (.bool true) ∧ Hid (Below W.heap.size W w')) := hMay
    rw [if_pos rfl]
    obtain ⟨bm, hbm⟩ : ∃ bm, burnM m f.tx.size = bm := ⟨_, rfl⟩
    rw [hbm]
    obtain ⟨m1, b⟩ := bm
    have hmp : m1.mp = m.mp := by have := burnM_mp m f.tx.size; rw [hbm] at this; exact this
    have HBn : Hid (∀ V, Hid (Below W.heap.size W V) → Calls Tryz.prog 91 #[.pointer (some ⟨P, 0, none⟩), .int .i64 (f.tx.size : Int)] V fun e w' => e = .returned (.bool b) ∧ Hid (McAt w' P m1 ∧ w'.ownsMap Tryz.prog 9 fileE m.mp n (byD L) ∧ UpC P m.mp w w' ∧ w'.heap[w.heap.size]? = some (.cells #[.string f.pa, .string f.tx, .bool f.rn] 37 (0, 0)))) := by
      intro V hV
      have h1 := hmc.below hV.out
      have h2 := burn_any m P f.tx.size V h1 ht hf
      rw [hbm] at h2
      refine h2.mono ?_
      rintro e w' ⟨rfl, q1, q2⟩
      have hVw : Below w.heap.size w V := below_low hbW hV.out hbW.size
      refine ⟨rfl, q1, ownsMap_heap hoW ((q2.block m.mp (by have := hV.out.size; omega) hne).trans (hV.out.block _ (by omega))), ?_, ?_⟩
      · exact ⟨q2.os.trans hVw.os, q2.tape.trans hVw.tape, q2.output.trans hVw.output, Nat.le_trans hVw.size q2.size, fun g hg hgn _ => (q2.block g (by have := hVw.size; omega) hgn).trans (hVw.block g hg)⟩
      · exact (q2.block w.heap.size (by have := hV.out.size; omega) (by omega)).trans ((hV.out.block _ (by omega)).trans hF)
    have cfw : ∀ V : World, Hid (Below W.heap.size W V) → V.cell? ⟨w.heap.size, 1, none⟩ = some (.string f.tx) := fun V hV => by
      rw [Lib.cell_of_heap ((hV.out.block w.heap.size (by omega)).trans hF)]
      rfl
    have HCF : Hid (∀ V : World, Hid (Below W.heap.size W V) → V.cell? ⟨w.heap.size, 1, none⟩ = some (.string f.tx)) := cfw
    have hts : (f.tx.size : Int) ≤ 9223372036854775807 := by omega
    have hps : f.pa.size ≤ maxLen := by unfold maxLen; omega
    rw [hW] at HM HBn HCF
    have HX : Hid (m1.mp = m.mp ∧ n < maxLen ∧ f.pa.size ≤ maxLen) := ⟨hmp, by unfold maxLen; omega, hps⟩
    clear hMay hm hmc hoW hF hsz hbW hW h ho hn hf hbm cfw hmp
    unfold encF
    cases b with
    | false =>
      rw [if_neg (by simp)]
      go_enter Tryz.func73, Tryz.ntmps73
      go_wp2_with (first
        | (go_at_call 103; refine HM.out.mono ?_; rintro e w1 ⟨rfl, HB1⟩; have cf := HCF.out w1 HB1)
        | (go_at_call 91; refine (HBn.out _ HB1).mono ?_; rintro e w2 ⟨rfl, H2⟩)
        | go_in)
      go_end0
      exact ⟨rfl, H2.out.1, ⟨n, by omega, H2.out.2.1⟩, H2.out.2.2.1⟩
    | true =>
      rw [if_pos ⟨rfl, rfl⟩]
      go_enter Tryz.func73, Tryz.ntmps73
      go_wp2_with (first
        | (go_at_call 103; refine HM.out.mono ?_; rintro e w1 ⟨rfl, HB1⟩; have cf := HCF.out w1 HB1)
        | (go_at_call 91; refine (HBn.out _ HB1).mono ?_; rintro e w2 ⟨rfl, H2⟩)
        | go_in)
      have hmc2 := H2.out.1
      have g1 := hmc2.c1
      rw [HX.out.1] at g1
      have g2 : w2.cell? ⟨w.heap.size, 0, none⟩ = some (.string f.pa) := by rw [Lib.cell_of_heap H2.out.2.2.2]; rfl
      have g3 : w2.cell? ⟨w.heap.size, 1, none⟩ = some (.string f.tx) := by rw [Lib.cell_of_heap H2.out.2.2.2]; rfl
      have g4 : w2.cell? ⟨w.heap.size, 2, none⟩ = some (.bool f.rn) := by rw [Lib.cell_of_heap H2.out.2.2.2]; rfl
      have hod : w2.drew.ownsMap Tryz.prog 9 fileE m.mp n (byD L) := ownsMap_heap H2.out.2.1 rfl
      obtain ⟨w3, hrun, r1, r2⟩ := hod.update lawS Tryz.underlying54 HX.out.2.1 (keyOf_string_mk Tryz.underlying9 HX.out.2.2) (fileE_mk f)
      unfold encF at hrun
      have HR : Hid (w3.ownsMap Tryz.prog 9 fileE m.mp (n + 1) ((byD L).put (.string (pth f)) (fD f)) ∧ w2.drew.grownBy w3 (some m.mp)) := ⟨r1, r2⟩
      clear r1 r2 hod hmc2
      go_region
      go_wp2
      go_end0
      have hu := H2.out.2.2.1
      refine ⟨rfl, ⟨(HR.out.2.block P (by have := hu.size; show P < w2.heap.size; omega) (fun e => hne (Option.some.inj e).symm)).trans H2.out.1.at_, H2.out.1.len⟩, ⟨n + 1, by omega, HR.out.1⟩, ?_⟩
      exact ⟨HR.out.2.os.trans hu.os, HR.out.2.tape.trans hu.tape, HR.out.2.output.trans hu.output, Nat.le_trans hu.size HR.out.2.size, fun g hg hgn hgm => (HR.out.2.block g (by have := hu.size; show g < w2.heap.size; omega) (fun e => hgm (Option.some.inj e))).trans (hu.block g hg hgn hgm)⟩
end Go.Proofs.YtcpomkgfcpfedaaGreatDoor
