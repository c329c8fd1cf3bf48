/- slices.AppendSeq, Collect and SortedFunc of the files of a map; laidOver. -/
import Derived.Test.YtcpomkgfcpfedaaGreatDoorTrOe
namespace Go.Proofs.YtcpomkgfcpfedaaGreatDoor
open Go.RowKit Go.Shelf Go.Maps Go.WideMaps Go.Sort

/-- How the files of a map are answered. -/
def SqP (D0 : DataW Unit) (w : World) (e : Ending) (w' : World) : Prop := ∃ (v : Value) (fs : List Fl), e = .returned v ∧ AllF D0 fs ∧ w'.ownsRow w.heap.size 37 3 v fs.length (flCells fs) ∧ Below w.heap.size w w'

set_option maxRecDepth 100000 in
set_option maxHeartbeats 4000000 in
theorem appendSeqF (g : Nat) (lb : Array Value) (eg : ∀ args w, (callFunc g args).run Tryz.prog w = .ok (.enter g args) w) (D0 : DataW Unit) (N : Nat) (hN : N ≤ 1000000) (w : World) (hseq : SeqStopsK Fence.wide 3 Tryz.prog g lb (fun f : Fl => #[encF f]) KeepsWalks (AllF D0) (fun _ => True) N w) :
    CallsIn Fence.wide 4 Tryz.prog 104 #[.slice none 0 0, .func (.func g) #[] lb] w (SqP D0 w) := by
  obtain ⟨ca, hca⟩ : ∃ ca, ca = (subO [true, false, true, false, false] (Tryz.f104.body.getD .skip)) := ⟨_, rfl⟩
  obtain ⟨cb, hcb⟩ : ∃ cb, cb = (subO [true, false, true, false, true] (Tryz.f104.body.getD .skip)) := ⟨_, rfl⟩
  have hla := hca.symm
  have hlb := hcb.symm
  conv at hla => lhs; whnf
  conv at hlb => lhs; whnf
  have HCA : Hid (ca = (subO [true, false, true, false, false] (Tryz.f104.body.getD .skip))) := hca
  have HCB : Hid (cb = (subO [true, false, true, false, true] (Tryz.f104.body.getD .skip))) := hcb
  clear hca hcb
  have HSeq : Hid (SeqStopsK Fence.wide 3 Tryz.prog g lb (fun f : Fl => #[encF f]) KeepsWalks (AllF D0) (fun _ => True) N w) := hseq
  have HEg : Hid (∀ args w, (callFunc g args).run Tryz.prog w = .ok (.enter g args) w) := eg
  clear hseq eg
  refine callsIn_of_wp_marks Tryz.func104 rfl trivial ?_ rfl
  simp only [Tryz.ntmps104, List.size_toArray, List.length_cons, List.length_nil, Nat.reduceAdd, Nat.reduceSub, Array.replicate_succ, Array.replicate_zero, List.push_toArray, List.append_toArray, List.nil_append, List.cons_append]
  gi_wp2
  rw [hla, hlb]
  clear hla hlb
  refine wpIn_rangeFunc ?_
  intro fn hfn
  obtain ⟨W0, hW0⟩ : ∃ W0, w.alloc (.cells #[.slice none 0 0] 33) = W0 := ⟨_, rfl⟩
  have hs0 : W0.heap.size = w.heap.size + 1 := by rw [← hW0]; simp
  have hv0 : W0.heap[w.heap.size]? = some (.cells #[.slice none 0 0] 33 (0, 0)) := by rw [← hW0]; exact World.alloc_heap_new w _
  have hb0 : Below w.heap.size w W0 := by rw [← hW0]; exact (Below.refl _ w).alloc (Nat.le_refl _) _
  rw [hW0]
  obtain ⟨W1, hW1⟩ : ∃ W1, (W0.alloc (.deferred (some []))).alloc (.loop (apR ca cb fn (.func (.func g) #[] lb) w.heap.size W0.heap.size .ready none)) = W1 := ⟨_, rfl⟩
  have hold : ∀ k, k < W0.heap.size → W1.heap[k]? = W0.heap[k]? := fun k hk => by
    rw [← hW1]; exact (Below.heap_alloc _ _ k (by simp; omega)).trans (Below.heap_alloc _ _ k hk)
  have hb1 : Below w.heap.size w W1 := by rw [← hW1]; exact (hb0.alloc hb0.size _).alloc (by have := hb0.size; simp; omega) _
  have hs1 : W1.heap.size = W0.heap.size + 2 := by rw [← hW1]; simp
  have hM : ApF ca cb w fn (.func (.func g) #[] lb) w.heap.size (W0.heap.size + 1) W0.heap.size [] W1 :=
    ⟨⟨_, (hold w.heap.size (by omega)).trans hv0, World.ownsRow_nil _ _ _ _⟩,
     by rw [← hW1]; have := World.alloc_heap_new (W0.alloc (.deferred (some []))) (.loop (apR ca cb fn (.func (.func g) #[] lb) w.heap.size W0.heap.size .ready none)); rwa [World.size_alloc] at this,
     by rw [← hW1]; exact (Below.heap_alloc _ _ _ (by simp)).trans (World.alloc_heap_new W0 _), hb1⟩
  refine ⟨W0.heap.size + 1, [{ target := .collected W0.heap.size, args := #[] }], W1, { target := .fn (.func g) lb, args := #[.func (.yield (W0.heap.size + 1)) #[] #[]] }, W1, g,
    #[.func (.yield (W0.heap.size + 1)) #[] #[]] ++ lb, W1, ?_, ?_, ?_, ?_, fun _ => by omega, ?_⟩
  · rw [← hW1]; exact run_enterLoop_outer _ _ _ _ _
  · simp [resolve, go_sem]
  · intro f' hf'; trivial
  · simp [invoke, go_sem, HEg.out]
  · refine (HSeq.out (W0.heap.size + 1) (ApF ca cb w fn (.func (.func g) #[] lb) w.heap.size (W0.heap.size + 1) W0.heap.size) (fun _ _ => False) W1 hb1 (ap_abides ca cb _ _ _ _ _ _ _ hb1.size) (fun _ _ _ _ h => h.elim)
      (fun pre x W hJ hl => ?_) hM).mono ?_
    · obtain ⟨f1, t1, a1, b1, hy, hR⟩ := apYieldF ca cb HCA.out HCB.out Fence.wide (3 - 1) w fn hfn _ w.heap.size (W0.heap.size + 1) W0.heap.size (by omega) (by omega) (by omega) (Nat.le_refl _) (by omega) pre x W hJ (by omega)
      exact ⟨f1, t1, a1, b1, hy, hR.mono fun e W' h => .inl h⟩
    rintro e W2 ⟨⟨v0, rfl⟩, ⟨fs, hS, h2⟩ | ⟨_, _, h⟩⟩
    · obtain ⟨v, hv, hrow⟩ := h2.box
      have hend := run_endLoop (P := Tryz.prog) h2.L (by simp [apR])
      obtain ⟨W3, hW3⟩ : ∃ W3, W2.putObj (W0.heap.size + 1) (.loop { apR ca cb fn (.func (.func g) #[] lb) w.heap.size W0.heap.size .ready none with state := .exhausted }) = W3 := ⟨_, rfl⟩
      rw [hW3] at hend
      have hg3 : W2.grownBy W3 (some (W0.heap.size + 1)) := by rw [← hW3]; exact grownBy_putObj_a _ _ _
      have hv3 : W3.heap[w.heap.size]? = some (.cells #[v] 33 (0, 0)) := by rw [← hW3]; exact (World.putObj_heap_other (by omega)).trans hv
      have hK3 : W3.heap[W0.heap.size]? = some (.deferred (some [])) := by rw [← hW3]; exact (World.putObj_heap_other (by omega)).trans h2.K
      have hrow3 := hrow.kept hg3 (ownsRow_ne_a hrow h2.L (fun cur e => by cases e))
      have hb3 : Below w.heap.size w W3 := h2.below.grown hg3 h2.below.size (fun k e => by cases e; omega)
      obtain ⟨hc3, hf3⟩ := cell_of_box_a hv3
      clear hW3
      refine ⟨none, W3, hend, ?_⟩
      gi_wp2
      rw [← hs0]
      refine ⟨by simp, .inl ⟨_, _, rfl, run_takeDeferred hK3, ?_⟩⟩
      exact ⟨_, results_tmp rfl _ _ _, v, fs, rfl, hS, hrow3.kept (grownBy_putObj_a _ _ _) (ownsRow_ne_a hrow3 hK3 (fun cur e => by cases e)), hb3.grown (grownBy_putObj_a _ _ _) hb3.size (fun k e => by cases e; omega)⟩
    · exact h.elim
end Go.Proofs.YtcpomkgfcpfedaaGreatDoor
