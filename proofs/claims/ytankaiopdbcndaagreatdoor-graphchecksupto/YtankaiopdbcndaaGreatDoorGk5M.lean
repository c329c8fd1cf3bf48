/- New places: the files' paths. -/
import Derived.Test.YtankaiopdbcndaaGreatDoorGk4M
namespace Go.Proofs.YtankaiopdbcndaaGreatDoor
open Go.RowKit Go.Shelf Go.Maps Go.WideMaps
attribute [local go_sem ↓] appG_eq2
/-- The files' places. -/
def PlP (P : Nat) (L : List Fl) (w w' : World) : Prop := ∃ M F v, (∀ k, k ∈ F ↔ k ∈ L.map pth) ∧ PS P M F (L.map (·.pa)) v w w'
theorem drew_below {B : Nat} {w w' : World} (h : Below B w w') : Below B w w'.drew := ⟨h.os, h.tape, h.output, h.size, h.block⟩
theorem PS.made (w : World) : PS (w.heap.size + 1) w.heap.size [] [] (.slice none 0 0) w ((w.alloc (.map #[] 0)).alloc (.cells #[.map (some w.heap.size), .slice none 0 0] 100)) := by
  have hb1 : Below w.heap.size w (w.alloc (.map #[] 0)) := (Below.refl _ w).alloc (Nat.le_refl _) _
  have hs : (w.alloc (.map #[] 0)).heap.size = w.heap.size + 1 := World.size_alloc _ _
  have hb2 : Below (w.heap.size + 1) (w.alloc (.map #[] 0)) ((w.alloc (.map #[] 0)).alloc (.cells #[.map (some w.heap.size), .slice none 0 0] 100)) := by
    rw [← hs]; exact (Below.refl _ _).alloc (Nat.le_refl _) _
  refine ⟨?_, (LM.made w).keep (hb2.block _ (by omega)), ⟨rfl, .inl ⟨rfl, rfl⟩⟩, hb1.trans (hb2.mono (by omega)), by omega, Nat.le_refl _, by omega⟩
  rw [← hs]
  exact heap_alloc_new _ _

set_option maxHeartbeats 4000000 in
set_option maxRecDepth 100000 in
theorem newPlaces_any (ao : Option Addr) (cap : Nat) (L : List Fl) (w : World) (hl : IsFl w ao L) (hn : L.length ≤ 60) (hs : ∀ f ∈ L, f.pa.size ≤ maxLen) :
    Calls Tryz.prog 41 #[.slice ao L.length cap] w fun e w' => ∃ P, e = .returned (pt P) ∧ PlP P L w w' := by
  have HL : Hid (IsFl w ao L) := hl
  have hpl : (L.length : Int) ≤ 60 := by omega
  have HS : Hid (∀ f ∈ L, f.pa.size ≤ maxLen) := hs
  have HI : Hid (∃ F v, F.length = 0 ∧ (∀ k, k ∈ F ↔ k ∈ (L.take 0).map pth) ∧ PS (w.heap.size + 1) w.heap.size F ((L.take 0).map (·.pa)) v w ((w.alloc (.map #[] 0)).alloc (.cells #[.map (some w.heap.size), .slice none 0 0] 100))) := ⟨[], _, rfl, fun k => by simp, PS.made w⟩
  clear hl hs
  have hmm := @run_makeMap Tryz.prog
  go_enter Tryz.func41, Tryz.ntmps41
  go_wp2
  clear hmm
  go_loopw [11] (fun i wr => ∃ k : Nat, k ≤ L.length ∧ i = .int .i64 (k : Int) ∧ Hid (∃ F v, F.length = k ∧ (∀ q, q ∈ F ↔ q ∈ (L.take k).map pth) ∧ PS (w.heap.size + 1) w.heap.size F ((L.take k).map (·.pa)) v w wr)) (fun i _ => L.length - (intOf i).toNat)
  case atStart => exact ⟨0, Nat.zero_le _, rfl, HI⟩
  case round =>
    clear HI
    obtain ⟨k, hk, rfl, HI⟩ := hrel
    obtain ⟨F, v, hF, hm, hQ⟩ := HI.out
    clear HI
    by_cases hlt : k < L.length
    · have hki : (k : Int) < (L.length : Int) := by omega
      rcases HL.out with h | ⟨g, o, rfl, hg, hcc⟩
      · exfalso; rw [h] at hlt; exact absurd hlt (by simp)
      obtain ⟨z0, z1, z2⟩ := hcc k hlt
      have c0 := (hQ.bel.cell (p := ⟨g, _, none⟩) hg).trans z0
      have c1 := (hQ.bel.cell (p := ⟨g, _, none⟩) hg).trans z1
      have c2 := (hQ.bel.cell (p := ⟨g, _, none⟩) hg).trans z2
      have hsz := HS.out _ (List.getElem_mem hlt)
      have het : L.take (k + 1) = L.take k ++ [L[k]] := List.take_succ_eq_append_getElem hlt
      clear hcc z0 z1 z2
      generalize hx : L[k] = f at c0 c1 c2 hsz het
      obtain ⟨W, hW⟩ : ∃ W, W = wr.alloc (.cells #[.string f.pa, .string f.tx, .bool f.rn] 77) := ⟨_, rfl⟩
      have hWb : Below wr.heap.size wr W := by rw [hW]; exact (Below.refl _ wr).alloc (Nat.le_refl _) _
      have hWc : W.heap[wr.heap.size]? = some (.cells #[.string f.pa, .string f.tx, .bool f.rn] 77 (0, 0)) := by rw [hW]; exact heap_alloc_new wr _
      have hWlt := blk_lt hWc
      have d0 : W.drew.cell? ⟨wr.heap.size, 0, none⟩ = some (.string f.pa) := by
        show W.cell? _ = _
        rw [Lib.cell_of_heap hWc]; try rfl
      have hQW := hQ.below (drew_below hWb)
      have d1 := hQW.c0
      obtain ⟨w2, r1, r2, r3⟩ := hQW.put f.pa hsz (by omega)
      have hgs : wr.heap.size ≠ w.heap.size := fun e => by have := hQ.lm.lt; omega
      have d2 : w2.drew.cell? ⟨wr.heap.size, 0, none⟩ = some (.string f.pa) := by
        show w2.cell? _ = _
        have e := (r3.block wr.heap.size hWlt (fun e => hgs (by injection e))).trans hWc
        rw [Lib.cell_of_heap e]; try rfl
      have r2d := r2.below (drew_below (Below.refl _ _))
      obtain ⟨G, C, w3, s1, s2, s3, s4, -⟩ := r2d.push f.pa (by simp; omega)
      have d3 := r2d.c1
      have hal : Below w2.heap.size w2 (w2.alloc (.cells #[.string f.pa] 9)) := (Below.refl _ w2).alloc (Nat.le_refl _) _
      have d4 : (w2.alloc (.cells #[.string f.pa] 9)).drew.cell? ⟨w.heap.size + 1, 1, none⟩ = some v := (hal.cell (p := ⟨w.heap.size + 1, 1, none⟩) (blk_lt r2.c)).trans d3
      have HE : Hid (∃ F v, F.length = k + 1 ∧ (∀ q, q ∈ F ↔ q ∈ (L.take (k + 1)).map pth) ∧ PS (w.heap.size + 1) w.heap.size F ((L.take (k + 1)).map (·.pa)) v w (w3.setCell ⟨w.heap.size + 1, 1, none⟩ (.slice (some ⟨G, 0, none⟩) (((L.take k).map (·.pa)).length + 1) C))) := by
        refine ⟨tl f.pa :: F, .slice (some ⟨G, 0, none⟩) (((L.take k).map (·.pa)).length + 1) C, by simp [hF], ?_, ?_⟩
        · intro q
          rw [het, List.map_append, List.mem_append, ← hm q]
          show q ∈ tl f.pa :: F ↔ q ∈ F ∨ q ∈ [pth f]
          rw [List.mem_cons, List.mem_singleton, Or.comm]
          rfl
        · rw [het, List.map_append]
          exact s4
      have s1' : (appG #[23, 23] 23 #[v, .slice (some ⟨w2.heap.size, 0, none⟩) 1 1]).run Tryz.prog (w2.alloc (.cells #[.string f.pa] 9)).drew = .ok (.slice (some ⟨G, 0, none⟩) (((L.take k).map (·.pa)).length + 1) C) w3 := s1
      subst hW
      clear hF hm hQ hsz het hx hWb hWc hWlt hQW r2 r3 hgs r2d s1 s4 hal
      generalize ((L.take k).map (·.pa)).length + 1 = tn at *
      obtain ⟨pa, tx, rn⟩ := f
      go_wp2
      go_region
      go_wp2
      go_region
      go_wp2
      exact ⟨⟨k + 1, by omega, by go_num, HE⟩, by simp [intOf]; omega⟩
    · obtain rfl : k = L.length := by omega
      have hki : ¬ (L.length : Int) < (L.length : Int) := by omega
      rw [List.take_length] at hm hQ
      have HE : Hid (∃ F v, (∀ k, k ∈ F ↔ k ∈ L.map pth) ∧ PS (w.heap.size + 1) w.heap.size F (L.map (·.pa)) v w wr) := ⟨F, v, hm, hQ⟩
      clear hF hm hQ
      go_wp2
      go_ret
      obtain ⟨F, v, h1, h2⟩ := HE.out
      exact ⟨_, rfl, _, F, v, h1, h2⟩
end Go.Proofs.YtankaiopdbcndaaGreatDoor
