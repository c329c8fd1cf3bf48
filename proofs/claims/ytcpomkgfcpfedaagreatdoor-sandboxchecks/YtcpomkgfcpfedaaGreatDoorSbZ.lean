/- A machine does a line; two lines are run. -/
import Derived.Test.YtcpomkgfcpfedaaGreatDoorSbY
namespace Go.Proofs.YtcpomkgfcpfedaaGreatDoor
open Go.RowKit Go.Shelf Go.Maps Go.WideMaps Go.Sort

set_option maxHeartbeats 1000000 in
set_option maxRecDepth 100000 in
theorem deed_set (m : Mc) (P bx : Nat) (l : Ln) (w : World) (h : McAt w P m) (hx : w.cell? ⟨bx, 0, none⟩ = some (.pointer (some ⟨P, 0, none⟩))) (hf : m.fuel ≤ 1000000) (hr : l.r < 8) (ht : l.tx.size ≤ 1000000) :
    Calls Tryz.prog 59 #[.agg (lnC l), .pointer (some ⟨bx, 0, none⟩)] w fun e w' => e = .returned (.tuple #[]) ∧ McAt w' P (putM m l.r l.tx) ∧ UpB P w w' := by
  have hbl : bx < w.heap.size := World.block_lt_of_cell? w ⟨bx, 0, none⟩ hx
  obtain ⟨W, hW⟩ : ∃ W, W = w.alloc (.cells (lnC l) 43) := ⟨_, rfl⟩
  have hb : Below w.heap.size w W := by rw [hW]; exact (Below.refl _ w).alloc (Nat.le_refl _) _
  have hP := put_any m P l.r l.tx W (h.below hb) hf hr ht
  have HP : Hid (Calls Tryz.prog 60 #[.pointer (some ⟨P, 0, none⟩), .int .i64 (l.r : Int), .string l.tx] W fun e w' => e = .returned (.tuple #[]) ∧ Hid (McAt w' P (putM m l.r l.tx) ∧ UpB P w w')) := hP.mono fun e w' q => ⟨q.1, q.2.1, (UpB.of_below hb).trans q.2.2⟩
  have hx2 : W.cell? ⟨bx, 0, none⟩ = some (.pointer (some ⟨P, 0, none⟩)) := (hb.cell (p := ⟨bx, 0, none⟩) hbl).trans hx
  rw [hW] at HP hx2
  clear h hf hr ht hP hb hW hx
  unfold lnC at *
  go_enter Tryz.func59, Tryz.ntmps59
  go_wp2_with (first
    | (go_at_call 60; refine HP.out.mono ?_; rintro e w1 ⟨rfl, H1⟩)
    | go_in)
  go_end0
  exact ⟨rfl, H1.out⟩

theorem burnM_tx (m : Mc) (b : Nat) : (burnM m b).1.tx = m.tx := by unfold burnM; split <;> rfl
theorem endM_tx (m : Mc) (c : Nat) : (endM m c).tx = m.tx := by
  unfold endM
  split
  · exact burnM_tx m 0
  · exact burnM_tx m 0
theorem mkM_tx (m : Mc) (L : List Fl) (f : Fl) : (mkM m L f).tx = m.tx := by
  unfold mkM
  split
  · exact burnM_tx m _
  · exact endM_tx m _
theorem map_no_cell {w : World} {M n b : Nat} {D : DataW Unit} (h : w.ownsMap Tryz.prog 9 fileE M n D) {v : Value} (hc : w.cell? ⟨b, 0, none⟩ = some v) : b ≠ M := by
  rintro rfl
  obtain ⟨es, clock, hb, _⟩ := h
  unfold World.cell? at hc
  simp [hb] at hc

set_option maxHeartbeats 2000000 in
set_option maxRecDepth 100000 in
theorem deed_make (m : Mc) (P bx n : Nat) (L : List Fl) (l : Ln) (t : ByteArray) (w : World) (h : McAt w P m) (hx : w.cell? ⟨bx, 0, none⟩ = some (.pointer (some ⟨P, 0, none⟩))) (hf : m.fuel ≤ 1000000) (hr : l.r < 8) (ht : m.tx[l.r]? = some t) (hts : t.size ≤ 1000000) (hps : l.pa.size ≤ 1000000)
    (ho : w.ownsMap Tryz.prog 9 fileE m.mp n (byD L)) (hn : (L.map pth).Nodup) (hnn : n ≤ 1000000) (hne : m.mp ≠ P) (hbp : bx ≠ P) :
    Calls Tryz.prog 72 #[.agg (lnC l), .pointer (some ⟨bx, 0, none⟩)] w fun e w' => e = .returned (.tuple #[]) ∧ McAt w' P (mkM m L ⟨l.pa, t, false⟩) ∧ (∃ n', n' ≤ n + 1 ∧ w'.ownsMap Tryz.prog 9 fileE m.mp n' (mkD m L ⟨l.pa, t, false⟩ (byD L))) ∧ UpC P m.mp w w' := by
  have hbl : bx < w.heap.size := World.block_lt_of_cell? w ⟨bx, 0, none⟩ hx
  obtain ⟨W, hW⟩ : ∃ W, W = w.alloc (.cells (lnC l) 43) := ⟨_, rfl⟩
  have hb : Below w.heap.size w W := by rw [hW]; exact (Below.refl _ w).alloc (Nat.le_refl _) _
  have hMl := ho.lt
  have hM := makeFile_any m P n L ⟨l.pa, t, false⟩ W.drew ⟨(h.below hb).at_, h.len⟩ (ownsMap_heap ho (hb.block _ hMl)) hn hnn hne hps hts hf
  have hx2 : W.cell? ⟨bx, 0, none⟩ = some (.pointer (some ⟨P, 0, none⟩)) := (hb.cell (p := ⟨bx, 0, none⟩) hbl).trans hx
  have ct : W.cell? ⟨P, 2 + l.r, none⟩ = some (.string t) := ((h.below hb).cell _).trans (mcL_lo l.r t ht)
  have hL : W.heap[w.heap.size]? = some (.cells (lnC l) 43 (0, 0)) := by rw [hW]; exact heap_alloc_new w _
  have q3 : W.cell? ⟨w.heap.size, 3, none⟩ = some (.string l.pa) := by rw [Lib.cell_of_heap hL]; rfl
  have q1 : W.cell? ⟨w.heap.size, 1, none⟩ = some (.int .i64 (l.r : Int)) := by rw [Lib.cell_of_heap hL]; rfl
  have hsz : W.heap.size = w.heap.size + 1 := by rw [hW]; exact World.size_alloc _ _
  have hPl := h.lt
  have hbm : bx ≠ m.mp := map_no_cell ho hx
  have HM : Hid (Calls Tryz.prog 73 #[.pointer (some ⟨P, 0, none⟩), .agg #[.string l.pa, .string t, .bool false]] W.drew fun e w' => e = .returned (.tuple #[]) ∧ (w'.cell? ⟨bx, 0, none⟩ = some (.pointer (some ⟨P, 0, none⟩)) ∧ w'.cell? ⟨P, 2 + l.r, none⟩ = some (.string t) ∧ w'.cell? ⟨w.heap.size, 3, none⟩ = some (.string l.pa) ∧ w'.cell? ⟨w.heap.size, 1, none⟩ = some (.int .i64 (l.r : Int))) ∧ Hid (McAt w' P (mkM m L ⟨l.pa, t, false⟩) ∧ (∃ n', n' ≤ n + 1 ∧ w'.ownsMap Tryz.prog 9 fileE m.mp n' (mkD m L ⟨l.pa, t, false⟩ (byD L))) ∧ UpC P m.mp w w')) := hM.mono fun e w' q => by
    obtain ⟨q0, k1, k2, k3⟩ := q
    have hLn : w'.heap[w.heap.size]? = some (.cells (lnC l) 43 (0, 0)) := (k3.block w.heap.size (by show w.heap.size < W.heap.size; omega) (by omega) (by omega)).trans hL
    refine ⟨q0, ⟨?_, ?_, ?_, ?_⟩, k1, k2, ⟨k3.os.trans hb.os, k3.tape.trans hb.tape, k3.output.trans hb.output, Nat.le_trans hb.size k3.size, fun g hg h1 h2 => (k3.block g (Nat.lt_of_lt_of_le hg hb.size) h1 h2).trans (hb.block g hg)⟩⟩
    · exact (cell_same (w := W) (k3.block bx (by show bx < W.heap.size; omega) hbp hbm) 0).trans hx2
    · exact (k1.cell _).trans (mcL_lo l.r t (by rw [mkM_tx]; exact ht))
    · rw [Lib.cell_of_heap hLn]; rfl
    · rw [Lib.cell_of_heap hLn]; rfl
  have hri : (l.r : Int) < 8 := by omega
  rw [hW] at HM hx2 ct q3 q1
  have HS : Hid ((w.alloc (.cells (lnC l) 43)).drew.cell? ⟨bx, 0, none⟩ = some (.pointer (some ⟨P, 0, none⟩)) ∧ (w.alloc (.cells (lnC l) 43)).drew.cell? ⟨P, 2 + l.r, none⟩ = some (.string t) ∧ (w.alloc (.cells (lnC l) 43)).drew.cell? ⟨w.heap.size, 3, none⟩ = some (.string l.pa) ∧ (w.alloc (.cells (lnC l) 43)).drew.cell? ⟨w.heap.size, 1, none⟩ = some (.int .i64 (l.r : Int))) := ⟨hx2, ct, q3, q1⟩
  clear h hf ht hM hb hW hx hL ho hn hnn hne hbl hMl hsz hPl hbm hbp hr hts hps
  unfold lnC at *
  go_enter Tryz.func72, Tryz.ntmps72
  go_wp2
  go_region_held3 (fun V => V.cell? ⟨bx, 0, none⟩ = some (.pointer (some ⟨P, 0, none⟩)) ∧ V.cell? ⟨P, 2 + l.r, none⟩ = some (.string t) ∧ V.cell? ⟨w.heap.size, 3, none⟩ = some (.string l.pa) ∧ V.cell? ⟨w.heap.size, 1, none⟩ = some (.int .i64 (l.r : Int))) (first | assumption | exact HS.out | go_keep) (first
    | (go_at_call 73; refine HM.out.mono ?_; rintro e w1 ⟨rfl, hS1, H1⟩)
    | fail)
  all_goals
    go_wp2
    go_end0
    exact ⟨rfl, H1.out⟩
end Go.Proofs.YtcpomkgfcpfedaaGreatDoor
