/- The second form of a row that lists variables, the world's shape kept: its witness; texts that came in, and what they weigh. -/
import Derived.Deep.DeepHandedRow
import Derived.SliceStrings
import Derived.Test.YtefdfcjohkndgaaGreatDoorTc10
namespace Go.Proofs.YtefdfcjohkndgaaGreatDoor
open Go.ChangeShapes Go.WideShapes Go.ChangeAt Go.RowKit Go.Shelf
open Go.ChangeMaps (open_string shut_string)

theorem witness_up {H : Type} {enc : TypeId × Value → H} {C : Checked} {os : Os} {f : FuncId} {fn : Func} {s : OpenSpec} {conds : List PathCond} {apart : Bool} {laid : List (String × DataW Unit)} (w0 : World) (args : Array Value) (hos : w0.os = os)
    (hsh : (w0.forCall (fun _ _ => 0) ⟨#[], args, []⟩).Shaped C.prog)
    (hok : Input.okWideB C.prog (w0.forCall (fun _ _ => 0) ⟨#[], args, []⟩) f ⟨#[], args, []⟩ = true)
    (hrow : s.preRow enc C.prog fn conds apart laid (w0.forCall (fun _ _ => 0) ⟨#[], args, []⟩).memory args) :
    ∃ (w : World) (tape : Tape) (i : Input), w.os = os ∧ (w.forCall tape i).Shaped C.prog ∧ i.vars = [] ∧ Input.okWide C.prog (w.forCall tape i) .any w.heap.size f i ∧
      s.preRow enc C.prog fn conds apart laid (w.forCall tape i).memory i.args ∧ ({} : Assume).holds C.prog (lone (Frame.enter C.prog f i.args .normal) [] (w.forCall tape i)) :=
  ⟨w0, fun _ _ => 0, ⟨#[], args, []⟩, hos, hsh, (Input.okWide_of_okWideB (base := 0) hok).1, (Input.okWide_of_okWideB hok).2, hrow, by
    simp only [Assume.holds]
    exact ⟨by simp, by simp, fun _ => Modest.zero, by simp, by simp⟩⟩
def total : List ByteArray → Nat
  | [] => 0
  | s :: l => s.size + 1 + total l
theorem total_len (ss : List ByteArray) : ss.length ≤ total ss := by
  induction ss with
  | nil => simp [total]
  | cons s l ih => simp only [total, List.length_cons]; omega
theorem total_mem {ss : List ByteArray} {s : ByteArray} (h : s ∈ ss) : s.size ≤ total ss := by
  induction ss with
  | nil => cases h
  | cons a l ih =>
    simp only [total]
    rcases List.mem_cons.1 h with rfl | h
    · omega
    · have := ih h; omega
theorem total_strs {H : Type} (ss : List ByteArray) : Rows.uptoBulkAll (Go.ChangeShapes.strs (H := H) ss) = total ss := by
  induction ss with
  | nil => simp [Go.ChangeShapes.strs, Rows.uptoBulkAll, total]
  | cons s l ih =>
    have e : Go.ChangeShapes.strs (H := H) (s :: l) = .lit (.string s.data.toList) :: Go.ChangeShapes.strs l := rfl
    rw [e]
    simp only [Rows.uptoBulkAll, Rows.uptoBulk, total, ih, size_of (s := s) rfl]

set_option maxRecDepth 100000 in
theorem arg_texts_up {H : Type} {enc : TypeId × Value → H} {W : World} {v : Value} {d : DataW H} {p : List MemPlace} {base : Nat}
    (hv : Value.okWide Tryz.prog W .any base 23 v) (h : DataW.Trod enc Tryz.prog W 0 (fun _ => true) true 23 v d p) (hr : Rows.uptoBulk d ≤ 1048576) : ∃ ss, Tx W v ss ∧ (∃ ao cap, v = .slice ao ss.length cap ∧ (ao = none → ss = [])) ∧ total ss + 1 ≤ Rows.uptoBulk d := by
  obtain ⟨a, len, cap, rfl⟩ := okWide_slice Tryz.underlying23 hv
  obtain ⟨fuel, hf⟩ := h
  rcases open_strings Tryz.underlying23 Tryz.underlying9 (by kernel_rfl) hf with ⟨hcs, hx⟩ | ⟨x, l, c, ss, hcs, _, hl, hm, hz, hx, hcell, hws⟩
  · simp [Value.cells] at hcs
    obtain ⟨rfl, rfl, rfl⟩ := hcs
    have hd : d = .nil := congrArg Prod.fst hx
    subst hd
    exact ⟨[], ⟨by decide, Or.inl ⟨rfl, none, 0, rfl⟩⟩, ⟨none, 0, rfl, fun _ => rfl⟩, by simp [total, Rows.uptoBulk]⟩
  · simp [Value.cells] at hcs
    obtain ⟨rfl, rfl, rfl⟩ := hcs
    have hz' : ss.length = cap := by simpa using hz
    have hlen : (ss.take len).length = len := by rw [List.length_take]; omega
    have hd : d = .slice (Go.ChangeShapes.strs (ss.take len)) (Go.ChangeShapes.strs (ss.drop len)) := congrArg Prod.fst hx
    have hT : total (ss.take len) + 1 ≤ Rows.uptoBulk d := by
      rw [hd]
      simp only [Rows.uptoBulk, total_strs]
      omega
    have hb : len ≤ 4611686018427387904 := by
      have := total_len (ss.take len)
      omega
    refine ⟨ss.take len, ⟨by rw [hlen]; exact hb, ?_⟩, ⟨some x, cap, by rw [hlen], fun e => by cases e⟩, hT⟩
    by_cases h0 : len = 0
    · subst h0
      exact Or.inl ⟨rfl, _, cap, rfl⟩
    · obtain ⟨b, off, spot⟩ := x
      have hspot : spot = none := by simpa [Addr.add] using World.cell?_spot (hcell 0 (by omega))
      subst hspot
      refine Or.inr ⟨by omega, b, off, cap, by rw [hlen], by rw [hlen]; exact hl, fun j hj => ?_⟩
      rw [hlen] at hj
      rw [← Go.WideShapes.add_plain, hcell j (by omega)]
      simp [List.getD, List.getElem?_eq_getElem (show j < ss.length by omega)]
end Go.Proofs.YtefdfcjohkndgaaGreatDoor

/- Texts put one behind the other, twice; Clash of a tree's texts and others. -/
namespace Go.Proofs.YtefdfcjohkndgaaGreatDoor
open Go.RowKit Go.Shelf Go.Sort
attribute [local go_sem ↓] appS_eq

theorem scs_len (l : List ByteArray) : (scs l).length = l.length := by simp [scs]
theorem scs_app (l m : List ByteArray) : scs (l ++ m) = scs l ++ scs m := by simp [scs]
theorem scs_one (l : List ByteArray) : ∀ u ∈ scs l, u.oneCell' = true := fun u hu => by
  obtain ⟨x, _, rfl⟩ := List.mem_map.1 hu
  rfl
theorem appTwo {W : World} {mo : Option Addr} {mc : Nat} {ms : List ByteArray} {B : Nat} {bo : Option Addr} {bcap : Nat} {bx : List ByteArray} (hm : Tx W (.slice mo ms.length mc) ms) (hn : mo = none → ms = []) (hb : W.ownsRow B 9 1 (.slice bo bx.length bcap) bx.length (scs bx)) (h0 : 0 < bx.length) (hz1 : ms.length ≤ 10000000) (hz2 : bx.length ≤ 10000000) :
    ∃ g1 c1 w1 g2 c2 w2, (appS #[23, 23] 23 #[.slice (some ⟨W.heap.size, 0, none⟩) 0 0, .slice mo ms.length mc]).run Tryz.prog (W.alloc (.cells #[] 9)) = .ok (.slice (some ⟨g1, 0, none⟩) ms.length c1) w1 ∧
      (appS #[23, 23] 23 #[.slice (some ⟨g1, 0, none⟩) ms.length c1, .slice bo bx.length bcap]).run Tryz.prog w1 = .ok (.slice (some ⟨g2, 0, none⟩) (ms ++ bx).length c2) w2 ∧
      w2.ownsRow W.heap.size 9 1 (.slice (some ⟨g2, 0, none⟩) (ms ++ bx).length c2) (ms ++ bx).length (scs (ms ++ bx)) ∧ Below W.heap.size W w2 := by
  obtain ⟨i0, hi, hq0, hq1, hq2⟩ := info_p infTx
  have hbl : Below W.heap.size W (W.alloc (.cells #[] 9)) := (Below.refl _ W).alloc (Nat.le_refl _) _
  have hown0 : (W.alloc (.cells #[] 9)).ownsRow W.heap.size 9 1 (.slice (some ⟨W.heap.size, 0, none⟩) 0 0) 0 [] :=
    ⟨rfl, .inr ⟨W.heap.size, 0, #[], rfl, Nat.le_refl _, heap_alloc_new W _, Nat.le_refl _, by decide, rfl, rfl⟩⟩
  obtain ⟨g1, c1, w1, hr1, ho1, hb1⟩ : ∃ g1 c1 w1, (appS #[23, 23] 23 #[.slice (some ⟨W.heap.size, 0, none⟩) 0 0, .slice mo ms.length mc]).run Tryz.prog (W.alloc (.cells #[] 9)) = .ok (.slice (some ⟨g1, 0, none⟩) ms.length c1) w1 ∧ w1.ownsRow W.heap.size 9 1 (.slice (some ⟨g1, 0, none⟩) ms.length c1) ms.length (scs ms) ∧ Below W.heap.size W w1 := by
    cases mo with
    | none =>
      obtain rfl := hn rfl
      refine ⟨W.heap.size, 0, W.alloc (.cells #[] 9), ?_, hown0, hbl⟩
      unfold appS
      simp [Builtin.append_, run_underlying Tryz.underlying23, sizeOf, typeInfo, hi, Builtin.lenOf, Builtin.firstCells, storeCells]
    | some ad =>
      have hsrc : ∀ j u, (scs ms)[j]? = some u → (W.alloc (.cells #[] 9)).cell? (ad.add j) = some u := fun j u hu => by
        have hj : j < ms.length := by have := (List.getElem?_eq_some_iff.1 hu).1; rwa [scs_len] at this
        rcases (hm.up hbl).2 with ⟨e, _⟩ | ⟨_, g, o, cap, e, _, hrow⟩
        · rw [e] at hj; exact absurd hj (by simp)
        · have e2 : ad = ⟨g, o, none⟩ := by
            have := congrArg (fun v : Value => match v with | .slice a _ _ => a | _ => none) e
            exact Option.some.inj this
          rw [e2, Addr.add_lit, hrow j hj]
          rw [scs_get ms j hj] at hu
          exact hu
      obtain ⟨v1, w1, hr1, ho1, hg1', hnil⟩ := run_append_own (P := Tryz.prog) (W.alloc (.cells #[] 9)) W.heap.size 23 23 9 i0 (.string ⟨#[]⟩) 1 16 Tryz.underlying23 hi hq0 hq1 hq2 rfl (by decide) (.slice (some ⟨W.heap.size, 0, none⟩) 0 0) 0 [] hown0 ad ms.length mc (scs ms) (by rw [scs_len, Nat.mul_one]) hsrc (scs_one _) (by unfold maxLen; omega) (by omega) hbl.size
      rw [Nat.zero_add, List.nil_append] at ho1
      rcases ho1.2 with ⟨e, _⟩ | ⟨g1, c1, cur, e, _⟩
      · have := (hnil.1 e).1
        cases this
      · subst e
        exact ⟨g1, c1, w1, hr1, ho1, hbl.grown hg1' hbl.size fun k hk => by simp [Value.ownBlock] at hk; omega⟩
  obtain ⟨gb, cb, hbv, _, hgb⟩ := hb.form h0
  have hbw : w1.ownsRow B 9 1 (.slice bo bx.length bcap) bx.length (scs bx) := row_heap hb fun b hb2 => hb1.block b (hb.lt b hb2).2
  have hbo : bo = some ⟨gb, 0, none⟩ := by
    have := congrArg (fun v : Value => match v with | .slice a _ _ => a | _ => none) hbv
    exact this
  subst hbo
  obtain ⟨v2, w2, hr2, ho2, hg2', _⟩ := run_append_own (P := Tryz.prog) w1 W.heap.size 23 23 9 i0 (.string ⟨#[]⟩) 1 16 Tryz.underlying23 hi hq0 hq1 hq2 rfl (by decide) (.slice (some ⟨g1, 0, none⟩) ms.length c1) ms.length (scs ms) ho1 ⟨gb, 0, none⟩ bx.length bcap (scs bx) (by rw [scs_len, Nat.mul_one]) (hbw.cells rfl) (scs_one _) (by unfold maxLen; omega) (by omega) hb1.size
  have el : ms.length + bx.length = (ms ++ bx).length := by rw [List.length_append]
  rw [el, ← scs_app] at ho2
  obtain ⟨g2, c2, rfl, _, _⟩ := ho2.form (by rw [← el]; omega)
  exact ⟨g1, c1, w1, g2, c2, w2, hr1, hr2, ho2, hb1.grown hg2' hb1.size fun k hk => (ho1.lt k hk).1⟩
theorem isTxs_own {w : World} {B g c : Nat} {ss : List ByteArray} (h : w.ownsRow B 9 1 (.slice (some ⟨g, 0, none⟩) ss.length c) ss.length (scs ss)) : IsTxs w (some ⟨g, 0, none⟩) ss := .inr ⟨g, 0, rfl, (h.lt g rfl).2, fun j hj => by
  rw [Nat.zero_add]
  exact (h.cellAt j (by omega)).trans (scs_get ss j hj)⟩
theorem cl_more {w : World} {B : Nat} {L : List Fl} {v1 v2 : Value} {ms : List ByteArray} (hL : okT L) (h1 : w.ownsRow B 9 1 v1 (blF L).length ((blF L).map encStr)) (h2 : Tx w v2 ms) (hm : ms.length ≤ 10000000) (hz : ∀ s ∈ ms, s.size ≤ 100000000) (ty : TypeId) :
    Calls Tryz.prog 11 #[.slice (some ⟨w.heap.size, 0, none⟩) 2 2] (w.alloc (.cells #[v1, v2] ty)) fun e w' => ∃ b, e = .returned (.bool b) ∧ (b = false → InjL (bxF L ++ ms)) ∧ Below w.heap.size w w' := by
  have hb : Below w.heap.size w (w.alloc (.cells #[v1, v2] ty)) := (Below.refl _ w).alloc (Nat.le_refl _) _
  have t1 : Tx (w.alloc (.cells #[v1, v2] ty)) v1 (bxF L) := by
    refine (tx_own (B := B) (by rw [bxF_len]; have := blF_len hL; omega) ?_).up hb
    rw [bxF_len, bxF_scs]
    exact h1
  refine (Clash_any w.heap.size 0 2 [bxF L, ms] _ (by simp) (by simp only [List.flatten_cons, List.flatten_nil, List.append_nil, List.length_append, bxF_len]; have := blF_len hL; omega) (fun l hl => ?_) (fun j hj => ?_)).mono ?_
  · simp only [List.mem_cons, List.mem_nil_iff, or_false] at hl
    rcases hl with rfl | rfl
    · exact fun t ht => by have := bxF_small hL t ht; omega
    · exact fun t ht => by have := hz t ht; omega
  · match j, hj with
    | 0, _ => exact ⟨v1, Lib.cell_of_heap (heap_alloc_new w _) 0, t1⟩
    | 1, _ => exact ⟨v2, Lib.cell_of_heap (heap_alloc_new w _) 1, h2.up hb⟩
  · rintro e w' ⟨b, rfl, h, hbl⟩
    refine ⟨b, rfl, fun e => ?_, hb.trans (hbl.mono hb.size)⟩
    have := h e
    simpa using this
end Go.Proofs.YtefdfcjohkndgaaGreatDoor
