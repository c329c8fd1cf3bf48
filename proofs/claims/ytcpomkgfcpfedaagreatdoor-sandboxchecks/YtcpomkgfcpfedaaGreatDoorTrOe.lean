/- slices.AppendSeq, Collect and SortedFunc of files; laidOver. -/
import Derived.Test.YtcpomkgfcpfedaaGreatDoorSbV
import Derived.RangeFuncGives
import Derived.Shelf.SlIter.Collect
namespace Go.Proofs.YtcpomkgfcpfedaaGreatDoor
open Go.RowKit Go.Shelf Go.Maps Go.WideMaps Go.Sort

/-- A part of a text, by the way that leads to it. -/
def subO : List Bool → Code → Code
  | [], c => c
  | false :: p, .seq a _ => subO p a
  | true :: p, .seq _ b => subO p b
  | _ :: p, .block _ c => subO p c
  | _ :: p, .loop c => subO p c
  | false :: p, .cond _ a _ => subO p a
  | true :: p, .cond _ _ b => subO p b
  | false :: p, .rangeFunc _ _ a _ => subO p a
  | true :: p, .rangeFunc _ _ _ b => subO p b
  | _ :: _, c => c
/-- The loop's record. -/
def apR (ca cb : Code) (fn : FuncId) (sv : Value) (Bs D : Nat) (st : LoopState) (pend : Option Code) : Loop :=
  { state := st, pending := pend, fn, tmps := #[.slice none 0 0, sv, .pointer (some ⟨Bs, 0, none⟩), undef, .slice none 0 0, undef, sv, undef, undef, undef, undef, undef, undef], params := #[7], assign := ca, body := cb, defers := D }
/-- Between two rounds. -/
structure ApF (ca cb : Code) (w0 : World) (fn : FuncId) (sv : Value) (Bs l D : Nat) (F : List Fl) (W : World) : Prop where
  box : ∃ v, W.heap[Bs]? = some (.cells #[v] 33 (0, 0)) ∧ W.ownsRow w0.heap.size 37 3 v F.length (flCells F)
  L : W.heap[l]? = some (.loop (apR ca cb fn sv Bs D .ready none))
  K : W.heap[D]? = some (.deferred (some []))
  below : Below w0.heap.size w0 W
theorem ap_abides (ca cb : Code) (w0 : World) (fn : FuncId) (sv : Value) (Bs l D B : Nat) (hB : w0.heap.size ≤ B) : AbidesFrom B (ApF ca cb w0 fn sv Bs l D) := fun s W W' row h hg hrow => by
  have hrow' : ∀ r, row = some r → ∃ o : Obj, W.heap[r]? = some o ∧ o.isWalk = true := fun r e => (hrow r e).2
  obtain ⟨v, hv, hr⟩ := h.box
  exact ⟨⟨v, (grownBy_keeps hg hrow' hv rfl).trans hv, ownsRow_abides_a hr hg hrow'⟩, (grownBy_keeps hg hrow' h.L rfl).trans h.L, (grownBy_keeps hg hrow' h.K rfl).trans h.K,
    h.below.grown hg h.below.size (fun k e => Nat.le_trans hB (hrow k e).1)⟩

set_option maxRecDepth 100000 in
set_option maxHeartbeats 4000000 in
theorem apYieldF (ca cb : Code) (hca : ca = (subO [true, false, true, false, false] (Tryz.f104.body.getD .skip))) (hcb : cb = (subO [true, false, true, false, true] (Tryz.f104.body.getD .skip))) (F : Fence) (m : Nat) (w0 : World) (fn : FuncId) (hfn : F.fn fn) (sv : Value) (Bs l D : Nat) (hBl : Bs ≠ l) (hDl : D ≠ l) (hDB : D ≠ Bs) (h0B : w0.heap.size ≤ Bs) (h0l : w0.heap.size ≤ l) (fs : List Fl) (x : Fl) (W : World) (h : ApF ca cb w0 fn sv Bs l D fs W) (hlen : fs.length ≤ 1000000) :
    YieldAt F m Tryz.prog l #[encF x] W fun e W' => e = .returned (.bool true) ∧ ApF ca cb w0 fn sv Bs l D (fs ++ [x]) W' ∧ KeepsWalks W W' := by
  obtain ⟨i0, hi, hz0, hz1, hz2⟩ := info_p infF
  obtain ⟨v, hv, hrow⟩ := h.box
  refine ⟨fn, #[.slice none 0 0, sv, .pointer (some ⟨Bs, 0, none⟩), undef, .slice none 0 0, undef, sv, encF x, undef, undef, undef, undef, undef], ca, cb, by simpa [apR] using run_yield (P := Tryz.prog) (args := #[encF x]) h.L rfl, roundIn_of_wpIn hfn ?_⟩
  obtain ⟨p, t, r⟩ := x
  have hl : l < W.heap.size := (Array.getElem?_eq_some_iff.1 h.L).1
  obtain ⟨W1, hW1⟩ : ∃ W1, W1 = W.alloc (.cells #[.string p, .string t, .bool r] 37) := ⟨_, rfl⟩
  have ho1 : ∀ b, b < W.heap.size → W1.heap[b]? = W.heap[b]? := fun b hb => by rw [hW1]; exact Below.heap_alloc _ _ b hb
  have hs1 : W1.heap.size = W.heap.size + 1 := by rw [hW1]; exact World.size_alloc _ _
  have hL1 : W1.heap[l]? = some (.loop (apR ca cb fn sv Bs D .ready none)) := (ho1 l hl).trans h.L
  have hbr := run_beginRound (P := Tryz.prog) hL1 rfl
  obtain ⟨W2, hW2⟩ : ∃ W2, W1.putObj l (.loop { apR ca cb fn sv Bs D .ready none with state := .busy }) = W2 := ⟨_, rfl⟩
  rw [hW2] at hbr
  have hg2 : W1.grownBy W2 (some l) := by rw [← hW2]; exact grownBy_putObj_a _ _ _
  have hk2 : KeepsWalks W W2 := by
    have hk1 : KeepsWalks W W1 := by rw [hW1]; exact KeepsWalks.alloc _ _
    refine hk1.trans ?_
    rw [← hW2]
    exact KeepsWalks.putObj _ hL1 rfl
  have hBw : Bs < W.heap.size := (Array.getElem?_eq_some_iff.1 hv).1
  have hDw : D < W.heap.size := (Array.getElem?_eq_some_iff.1 h.K).1
  have hv2 : W2.heap[Bs]? = some (.cells #[v] 33 (0, 0)) := by rw [← hW2]; exact (World.putObj_heap_other hBl).trans ((ho1 Bs hBw).trans hv)
  have hK2 : W2.heap[D]? = some (.deferred (some [])) := by rw [← hW2]; exact (World.putObj_heap_other hDl).trans ((ho1 D hDw).trans h.K)
  have hL2 : W2.heap[l]? = some (.loop { apR ca cb fn sv Bs D .ready none with state := .busy }) := by rw [← hW2]; exact World.putObj_heap_same (by omega)
  have hX2 : W2.heap[W.heap.size]? = some (.cells #[.string p, .string t, .bool r] 37 (0, 0)) := by
    rw [← hW2]
    refine (World.putObj_heap_other (by omega)).trans ?_
    rw [hW1]
    exact World.alloc_heap_new W _
  have hs2 : W2.heap.size = W.heap.size + 1 := by rw [← hW2, ← hs1]; simp
  have hrow1 : W1.ownsRow w0.heap.size 37 3 v fs.length (flCells fs) := by rw [hW1]; exact hrow.alloc _
  have hrow2 : W2.ownsRow w0.heap.size 37 3 v fs.length (flCells fs) := hrow1.kept hg2 (ownsRow_ne_a hrow1 hL1 (fun cur e => by cases e))
  have hb1 : Below w0.heap.size w0 W1 := by rw [hW1]; exact h.below.alloc h.below.size _
  have hb2 : Below w0.heap.size w0 W2 := hb1.grown hg2 hb1.size (fun k e => by cases e; exact h0l)
  obtain ⟨hc2, hf2⟩ := cell_of_box_a hv2
  have x0 : W2.cell? ⟨W.heap.size, 0, none⟩ = some (.string p) := Lib.cell_of_heap hX2 0
  have x1 : W2.cell? ⟨W.heap.size, 1, none⟩ = some (.string t) := Lib.cell_of_heap hX2 1
  have x2 : W2.cell? ⟨W.heap.size, 2, none⟩ = some (.bool r) := Lib.cell_of_heap hX2 2
  have hBlt : Bs < W2.heap.size := by omega
  have hl2 : l < W2.heap.size := by omega
  have hDlt : D < W2.heap.size := by omega
  have ne_of : ∀ {j : Nat} {o : Obj}, W2.heap[j]? = some o → (∀ cur, o ≠ .cells cur 37 (0, 0)) → some j ≠ v.ownBlock := fun hj hno => by
    rcases ownsRow_ne_a hrow2 hj hno with e | e
    · rw [e]; simp
    · exact fun e' => e e'.symm
  have HCA : Hid (ca = (subO [true, false, true, false, false] (Tryz.f104.body.getD .skip))) := hca
  have HCB : Hid (cb = (subO [true, false, true, false, true] (Tryz.f104.body.getD .skip))) := hcb
  clear hca hcb
  unfold encF
  simp only
  conv => arg 4; rw [HCA.out]; whnf
  gi_wp2_with gi_round_op_a
  refine ⟨W2, by rw [← hW1]; exact hbr, ?_⟩
  clear hW1 hW2 hs1 hs2 ho1
  conv => arg 4; rw [HCB.out]; whnf
  gi_wp2_with (first
    | (gi_at_builtin; refine wpListIn_append_own _ rfl _ _ 33 rfl w0.heap.size 37 i0 (.agg #[.string ⟨#[]⟩, .string ⟨#[]⟩, .bool false]) 3 40 Tryz.underlying33 hi hz0 hz1 hz2 rfl (by decide) _ _ _ rfl (hrow2.alloc _) ⟨W2.heap.size, 0, none⟩ 1 1 [.string p, .string t, .bool r] rfl rfl (new_cells W2 _ _) (by simp [Value.oneCell']) (by unfold maxLen; omega) (by omega) (by have := hb2.size; simp; omega) ?_; intro v' w3 hown' hg3 hnil3
       have hv3 : w3.heap[Bs]? = some (.cells #[v] 33 (0, 0)) := (hg3.block Bs (by simp; omega) (ne_of hv2 (fun cur e => by cases e))).trans ((Below.heap_alloc _ _ Bs hBlt).trans hv2)
       obtain ⟨hc3, hf3⟩ := cell_of_box_a hv3
       obtain ⟨g', cap', cur', rfl, hbase', hgb', hr1, hr2, hr3, hr4⟩ : ∃ g' cap' cur', v' = .slice (some ⟨g', 0, none⟩) (fs.length + 1) cap' ∧ w0.heap.size ≤ g' ∧ w3.heap[g']? = some (.cells cur' 37 (0, 0)) ∧ fs.length + 1 ≤ cap' ∧ cap' ≤ maxLen ∧ cur'.size = cap' * 3 ∧ cur'.toList.take ((fs.length + 1) * 3) = flCells fs ++ [.string p, .string t, .bool r] := by
         rcases hown'.2 with ⟨_, h0⟩ | h'
         · exact absurd h0 (by omega)
         · exact h'
       go_frame)
    | gi_round_op_a)
  have hg3' : (W2.alloc (.cells #[.string p, .string t, .bool r] 37)).grownBy w3 v.ownBlock := hg3
  have hL3 : w3.heap[l]? = some (.loop { apR ca cb fn sv Bs D .ready none with state := .busy }) := (hg3'.block l (by simp; omega) (ne_of hL2 (fun cur e => by cases e))).trans ((Below.heap_alloc _ _ l hl2).trans hL2)
  have hK3 : w3.heap[D]? = some (.deferred (some [])) := (hg3'.block D (by simp; omega) (ne_of hK2 (fun cur e => by cases e))).trans ((Below.heap_alloc _ _ D hDlt).trans hK2)
  obtain ⟨w4, hw4⟩ : ∃ w4, w3.setCell ⟨Bs, 0, none⟩ (.slice (some ⟨g', 0, none⟩) (fs.length + 1) cap') = w4 := ⟨_, rfl⟩
  rw [hw4]
  have hg4 : w3.grownBy w4 (some Bs) := by rw [← hw4]; exact grownBy_setCell0_a _ _ _
  have hv4 : w4.heap[Bs]? = some (.cells #[.slice (some ⟨g', 0, none⟩) (fs.length + 1) cap'] 33 (0, 0)) := by rw [← hw4]; exact heap_setCell_box_a _ hv3
  have hL4 : w4.heap[l]? = some (.loop { apR ca cb fn sv Bs D .ready none with state := .busy }) := (hg4.block l (Array.getElem?_eq_some_iff.1 hL3).1 (fun e => hBl (by cases e; rfl))).trans hL3
  have hK4 : w4.heap[D]? = some (.deferred (some [])) := (hg4.block D (Array.getElem?_eq_some_iff.1 hK3).1 (fun e => hDB (by cases e; rfl))).trans hK3
  have hrow4 := hown'.kept hg4 (ownsRow_ne_a hown' hv3 (fun cur e => by cases e))
  have hl4 : l < w4.heap.size := (Array.getElem?_eq_some_iff.1 hL4).1
  have hb3 : Below w0.heap.size w0 w3 := (hb2.alloc hb2.size _).grown hg3' (by have := hb2.size; simp; omega) (fun k e => (hrow2.lt k e).1)
  have hb4 : Below w0.heap.size w0 w4 := hb3.grown hg4 hb3.size (fun k e => by cases e; exact h0B)
  have hk4 : KeepsWalks W w4 := ((hk2.trans (KeepsWalks.alloc _ _)).trans (KeepsWalks.of_grownBy hg3' (ownsRow_not_walk_a (hrow2.alloc _)))).trans (by rw [← hw4]; exact KeepsWalks.setCell _ _ _)
  clear hw4
  have ec : flCells (fs ++ [⟨p, t, r⟩]) = flCells fs ++ [.string p, .string t, .bool r] := by simp [flCells]
  refine ⟨_, _, run_endRound none hL4, rfl, ⟨⟨_, (World.putObj_heap_other hBl).trans hv4, ?_⟩, World.putObj_heap_same hl4, (World.putObj_heap_other hDl).trans hK4, hb4.grown (grownBy_putObj_a _ _ _) hb4.size (fun k e => by cases e; exact h0l)⟩, hk4.trans (KeepsWalks.putObj _ hL4 rfl)⟩
  have := hrow4.kept (grownBy_putObj_a w4 l (.loop { { apR ca cb fn sv Bs D .ready none with state := .busy } with state := if (none : Option Code).isNone then .ready else .done, pending := none })) (ownsRow_ne_a hrow4 hL4 (fun cur e => by cases e))
  rw [ec, List.length_append]
  exact this
end Go.Proofs.YtcpomkgfcpfedaaGreatDoor
