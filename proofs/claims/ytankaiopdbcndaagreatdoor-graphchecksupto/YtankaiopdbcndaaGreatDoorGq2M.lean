/- Names that were left, in a map; a row of names is cloned. -/
import Derived.Test.YtankaiopdbcndaaGreatDoorGq1M
import Derived.Test.YtankaiopdbcndaaGreatDoorTc7
import Derived.Lib.SliceRun
namespace Go.Proofs.YtankaiopdbcndaaGreatDoor
open Go.RowKit Go.Shelf Go.Maps Go.WideMaps
attribute [local go_sem ↓] appG_eq2
def unE (v : Value) : Option (DataW Unit × List MemPlace) := match v with
  | .agg a => if a.size = 0 then some (.agg [], []) else none
  | _ => none
theorem unE_inv {v : Value} {y : DataW Unit × List MemPlace} (h : unE v = some y) : v = .agg #[] := by
  unfold unE at h
  split at h
  · rename_i a
    split at h
    · rename_i h0
      rw [Array.eq_empty_of_size_eq_zero h0]
    · cases h
  · cases h
theorem zeroU (w : World) : (zeroValue 89).run Tryz.prog w = .ok (.agg #[]) w := by kernel_rfl
/-- The names F lie in a map as keys. -/
def LM (M : Nat) (F : List (List UInt8)) (w : World) : Prop := ∃ N D, w.ownsMap Tryz.prog 9 unE M N D ∧ N ≤ F.length ∧ Tidy D ∧ ∀ k, k ∈ F ↔ Maps.has D (.string k) = true
theorem LM.made (w : World) : LM w.heap.size [] (w.alloc (.map #[] 0)) := ⟨0, .map [], World.ownsMap_made _ _ _ _, Nat.le_refl _, tidy_empty, fun k => ⟨(fun h => by cases h), (fun h => by cases h)⟩⟩
theorem LM.lt {M : Nat} {F : List (List UInt8)} {w : World} (h : LM M F w) : M < w.heap.size := by
  obtain ⟨N, D, h1, _⟩ := h
  exact h1.lt
theorem LM.keep {M : Nat} {F : List (List UInt8)} {w w' : World} (h : LM M F w) (hh : w'.heap[M]? = w.heap[M]?) : LM M F w' := by
  obtain ⟨N, D, h1, h2⟩ := h
  exact ⟨N, D, omapG h1 hh, h2⟩
theorem LM.look {M : Nat} {F : List (List UInt8)} {w : World} (h : LM M F w) (x : ByteArray) (hs : x.size ≤ maxLen) (b : Bool) (hb : b = true ↔ tl x ∈ F) :
    (Instr.lookup 86 (.map (some M)) (.string x) true).run Tryz.prog w = .ok (.tuple #[.agg #[], .bool b]) w := by
  obtain ⟨N, D, h1, _, _, h4⟩ := h
  obtain ⟨v, ps, hr, hv⟩ := h1.look_ok lawS Tryz.underlying86 (zeroU w) (zd := .agg []) (zp := []) rfl (keyOf_string_mk Tryz.underlying9 hs)
  have e : Maps.has D (.string x.data.toList) = b := by
    rw [Bool.eq_iff_iff, hb, h4]
    rfl
  rw [hr, unE_inv hv, e]
theorem LM.put {M : Nat} {F : List (List UInt8)} {w : World} (h : LM M F w) (x : ByteArray) (hs : x.size ≤ maxLen) (hl : F.length ≤ 60) :
    ∃ w', (Instr.mapUpdate 86 (.map (some M)) (.string x) (.agg #[])).run Tryz.prog w = .ok () w' ∧ LM M (tl x :: F) w' ∧ w.grownBy w' (some M) := by
  obtain ⟨N, D, h1, h2, h3, h4⟩ := h
  obtain ⟨w', r1, r2, r3⟩ := h1.update lawS Tryz.underlying86 (by unfold maxLen; omega) (keyOf_string_mk Tryz.underlying9 hs) (show unE (.agg #[]) = some (.agg [], []) from rfl)
  refine ⟨w', r1, ⟨N + 1, _, r2, by simpa using h2, h3.put (by exact trivial) _, fun k => ?_⟩, r3⟩
  by_cases e : k = tl x
  · subst e
    rw [show x.data.toList = tl x from rfl, has_put_same h3.isMap (by exact trivial)]
    simp
  · rw [has_put_other (fun e2 => e (by injection e2)), List.mem_cons, ← h4]
    simp [e]

set_option maxHeartbeats 2000000 in
set_option maxRecDepth 100000 in
theorem Clone_any (g o n c : Nat) (l : List ByteArray) (w : World) (hn : n = l.length) (hp : 0 < l.length) (hl : l.length ≤ 1048576) (hg : g < w.heap.size) (hc : ∀ j (hj : j < l.length), w.cell? ⟨g, o + j, none⟩ = some (.string l[j])) :
    Calls Tryz.prog 57 #[.slice (some ⟨g, o, none⟩) n c] w fun e w' => ∃ G C, e = .returned (.slice (some ⟨G, 0, none⟩) l.length C) ∧ w'.ownsRow w.heap.size 9 1 (.slice (some ⟨G, 0, none⟩) l.length C) l.length (l.map Value.string) ∧ w.heap.size ≤ G ∧ Below w.heap.size w w' := by
  subst hn
  obtain ⟨i0, hi, hz0, hz1, hz2⟩ := infoG sStrG
  obtain ⟨Y, hY⟩ : ∃ Y, Y = w.alloc (.cells #[] 9) := ⟨_, rfl⟩
  have hbY : Below w.heap.size w Y := by rw [hY]; exact (Below.refl _ w).alloc (Nat.le_refl _) _
  have hE : Y.heap[w.heap.size]? = some (.cells #[] 9 (0, 0)) := by rw [hY]; exact heap_alloc_new w _
  have hlt : w.heap.size < Y.heap.size := (Array.getElem?_eq_some_iff.1 hE).1
  have hown0 : Y.ownsRow w.heap.size 9 1 (.slice (some ⟨w.heap.size, 0, none⟩) 0 0) 0 [] := ⟨rfl, .inr ⟨w.heap.size, 0, #[], rfl, Nat.le_refl _, hE, Nat.le_refl _, by decide, rfl, rfl⟩⟩
  obtain ⟨v1, w1, hr1, ho1, hg1, _⟩ := run_append_own (P := Tryz.prog) Y w.heap.size 23 23 9 i0 (.string ⟨#[]⟩) 1 16 Tryz.underlying23 hi hz0 hz1 hz2 rfl (by decide) (.slice (some ⟨w.heap.size, 0, none⟩) 0 0) 0 [] hown0 ⟨g, o, none⟩ l.length c (l.map Value.string) (by simp) (fun j u hu => by
    have hj : j < l.length := by have := (List.getElem?_eq_some_iff.1 hu).1; simpa using this
    rw [addr_add, (hbY.cell (p := ⟨g, o + j, none⟩) hg).trans (hc j hj), ← hu, List.getElem?_map, List.getElem?_eq_getElem hj]
    rfl) (fun u hu => by obtain ⟨s, _, rfl⟩ := List.mem_map.1 hu; rfl) (by unfold maxLen; omega) (by omega) (by omega)
  have hw1 : Below w.heap.size w w1 := ⟨hg1.os.trans hbY.os, hg1.tape.trans hbY.tape, hg1.output.trans hbY.output, by have := hg1.size; have := hbY.size; omega, fun x hx => (hg1.block x (by omega) (fun e => by simp [Value.ownBlock] at e; omega)).trans (hbY.block x hx)⟩
  rw [Nat.zero_add, List.nil_append] at ho1
  obtain ⟨G, C, hv, hG1, hG2⟩ := ho1.form hp
  subst hv
  have HE : Hid (w1.ownsRow w.heap.size 9 1 (.slice (some ⟨G, 0, none⟩) l.length C) l.length (l.map Value.string) ∧ w.heap.size ≤ G ∧ Below w.heap.size w w1) := ⟨ho1, hG1, hw1⟩
  rw [hY] at hr1
  have hr2 : (appG #[23, 23] 23 #[.slice (some ⟨w.heap.size, 0, none⟩) 0 0, .slice (some ⟨g, o, none⟩) l.length c]).run Tryz.prog (w.alloc (.cells #[] 9)) = .ok (.slice (some ⟨G, 0, none⟩) l.length C) w1 := hr1
  have hni : (l.length : Int) ≤ 1048576 := by omega
  clear hi hz0 hz1 hz2 hbY hE hlt hown0 ho1 hg1 hw1 hG1 hG2 hc hg hY hr1
  have hnil := Lib.run_eql_slice_nil (P := Tryz.prog) w 23 9 (some ⟨g, o, none⟩) l.length c 0 0 Tryz.underlying23
  go_enter Tryz.func57, Tryz.ntmps57
  go_wp2
  go_ret
  exact ⟨G, C, rfl, HE.out⟩
end Go.Proofs.YtankaiopdbcndaaGreatDoor
