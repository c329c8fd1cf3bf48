/- The files of a map, collected. -/
import Derived.Test.YtcpomkgfcpfedaaGreatDoorTrOa
import Derived.RangeFuncFrom
import Derived.Shelf.SlIter.Keys
namespace Go.Proofs.YtcpomkgfcpfedaaGreatDoor
open Go.RowKit Go.Shelf Go.Maps Go.WideMaps Go.Sort

/-- All files of a map have come, each once. -/
def AllF (D : DataW Unit) (F : List Fl) : Prop := ∃ ks : List (List UInt8), ks.length = F.length ∧ ks.Nodup ∧ (∀ x, x ∈ ks ↔ Maps.has D (.string x) = true) ∧ ∀ (j : Nat) (h1 : j < ks.length) (h2 : j < F.length), ∀ z, D.atKey (.string ks[j]) z = fD F[j]

set_option maxRecDepth 100000 in
set_option maxHeartbeats 4000000 in
theorem values1 (F : Fence) (n : Nat) (hf : F.fn 83) (hro : F.round = none) (hn : 1 ≤ n) (Bm b nn : Nat) (D0 : DataW Unit) (w : World) (hBm : Bm < w.heap.size) (hm : w.cell? ⟨Bm, 0, none⟩ = some (.map (some b))) (hown : w.ownsMap Tryz.prog 9 fileE b nn D0) :
    SeqStopsK F n Tryz.prog 83 #[.pointer (some ⟨Bm, 0, none⟩)] (fun f : Fl => #[encF f]) KeepsWalks (AllF D0) (fun _ => True) (Maps.size D0) w := by
  intro l J Jx W hW hJ hJx hY h0
  have hmW : W.cell? ⟨Bm, 0, none⟩ = some (.map (some b)) := (hW.cell (p := ⟨Bm, 0, none⟩) hBm).trans hm
  have hownW : W.ownsMap Tryz.prog 9 fileE b nn D0 := ownsMap_heap hown (hW.block b hown.lt)
  clear hm hown hW
  show CallsIn F n Tryz.prog 83 #[.func (.yield l) #[] #[], .pointer (some ⟨Bm, 0, none⟩)] W _
  refine callsIn_of_wp Tryz.func83 rfl hf ?_ hro
  simp only [Tryz.ntmps83, List.size_toArray, List.length_cons, List.length_nil, Nat.reduceAdd, Nat.reduceSub, Array.replicate_succ, Array.replicate_zero, List.push_toArray, List.append_toArray, List.nil_append, List.cons_append]
  gi_wp2_with (first
    | (gi_at_range; refine wpListIn_range_own _ rfl _ 54 rfl 9 37 lawS Tryz.underlying54 _ b nn _ rfl hownW ?_; intro w0 hrg0 hg0 hs0)
    | gi_in)
  try go_frame
  gi_loopw [7] (fun _ wr => ∃ (left : Lit → Bool) (cnt : Nat) (ps : List (List UInt8 × Fl)), wr.ranges Tryz.prog 9 fileE b W.heap.size nn D0 left cnt ∧ ps.length + cnt ≤ Maps.size D0 ∧ Collected D0 left (ps.map (·.1)) ∧ (∀ p ∈ ps, ∀ z, D0.atKey (.string p.1) z = fD p.2) ∧ J (ps.map (·.2)) wr)
    (fun _ wr => wr.rangeLeft b W.heap.size)
  case atStart =>
    exact ⟨_, _, [], hrg0, by simp, Collected.start D0, by simp, hJ [] W w0 none h0 hg0 (fun r e => by cases e)⟩
  case round =>
    obtain ⟨left, cnt, ps, hrg, hcs, hC, hV, hJs⟩ := hrel
    gi_wp2_with (first
      | (gi_at_next; refine wpListIn_next_ranges _ rfl _ rfl 9 lawS fileE encStr encF invKF invVF b W.heap.size nn _ _ _ rfl hrg ?_ ?_)
      | gi_in)
    · intro hc0 hl0
      have hE : AllF D0 (ps.map (·.2)) := ⟨ps.map (·.1), by simp, hC.1, fun x => by rw [hC.2 x, hl0]; simp, fun j h1 h2 z => by
        simp only [List.getElem_map]
        exact hV _ (List.getElem_mem _) z⟩
      gi_wp2
      go_end0
      exact ⟨⟨_, rfl⟩, .inl ⟨_, hE, hJs⟩⟩
    · intro x f kl yd yp w2 cnt2 hkey hlk hv hat hrg2 hlt hg2 hs2 hen
      obtain ⟨x', ex, rfl, _⟩ := Maps.keyOf_str Tryz.underlying9 hkey
      obtain rfl : x = x' := encStr_inj ex
      have hyd : yd = fD f := by
        rw [fileE_mk f] at hv
        injection hv with hv
        injection hv with hv _
        exact hv.symm
      subst hyd
      have hJ2 : J (ps.map (·.2)) w2 := hJ _ wr w2 (some W.heap.size) hJs hg2 (fun r e => by cases e; exact ⟨Nat.le_refl _, hrg.iter_walk⟩)
      have hA2 : J (ps.map (·.2)) (w2.alloc (.cells #[.string f.pa, .string f.tx, .bool f.rn] 37)) := hJ _ w2 _ none hJ2 (World.grownBy_alloc _ _ none) (fun r e => by cases e)
      have hrg2a : (w2.alloc (.cells #[.string f.pa, .string f.tx, .bool f.rn] 37)).ranges Tryz.prog 9 fileE b W.heap.size nn D0 (fun z => left z && !z.sameKey (.string x)) cnt2 := hrg2.kept (World.grownBy_alloc _ _ none) (fun e => by cases e) (fun e => by cases e)
      obtain ⟨fn, tmps, assign, body, hy, hR⟩ := hY (ps.map (·.2)) f _ hA2 (by simp; omega)
      have hC2 : Collected D0 (fun z => left z && !z.sameKey (.string x)) ((ps ++ [(x, f)]).map (·.1)) := by simpa using hC.step hlk hat
      have hV2 : ∀ p ∈ ps ++ [(x, f)], ∀ z, D0.atKey (.string p.1) z = fD p.2 := fun p hp => (List.mem_append.1 hp).elim (hV p) (fun e => by simp at e; subst e; exact hat)
      obtain ⟨p, t, r⟩ := f
      unfold encF at hen hy
      simp only at hen hy hR hrg2a
      clear hs2 hg2 hJ2 hA2 hv hat
      gi_wp2
      refine hR.mono ?_
      rintro e W3 (⟨rfl, hJ3, hk3⟩ | ⟨rfl, hJx3⟩)
      · gi_wp2
        have hrg3 := hrg2a.of_walks hk3
        refine ⟨⟨_, cnt2, ps ++ [(x, ⟨p, t, r⟩)], hrg3, by simp; omega, hC2, hV2, by simpa using hJ3⟩, ?_⟩
        rw [hrg3.left_eq, hrg.left_eq]
        exact hlt
      · gi_wp2
        refine bodyPost_ret (results_none rfl _ _ _) rfl ?_
        exact ⟨⟨_, rfl⟩, .inr ⟨_, trivial, hJx3⟩⟩
end Go.Proofs.YtcpomkgfcpfedaaGreatDoor
