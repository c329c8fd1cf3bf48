/- What is made, as a list: what the texts on values that are collected lean on, where a seat has no trees to pack. -/
import Derived.Test.YtcpomkgfcpfedaaGreatDoorTrOb
import Derived.Deep.AppendLies
import Derived.Sort.KeysCollected
namespace Go.Proofs.YtcpomkgfcpfedaaGreatDoor
open Go.RowKit Go.Shelf Go.Maps Go.WideMaps Go.Sort

theorem row_heap {w w' : World} {base : Nat} {e : TypeId} {size : Nat} {v : Value} {n : Nat} {xs : List Value} (h : w.ownsRow base e size v n xs) (hh : ∀ x, v.ownBlock = some x → w'.heap[x]? = w.heap[x]?) : w'.ownsRow base e size v n xs := by
  refine ⟨h.1, ?_⟩
  rcases h.2 with h2 | ⟨g, cap, cur, hv, hb, hg, r⟩
  · exact .inl h2
  · exact .inr ⟨g, cap, cur, hv, hb, (hh g (by rw [hv]; rfl)).trans hg, r⟩
def flCells (L : List Fl) : List Value := L.flatMap fun f => [.string f.pa, .string f.tx, .bool f.rn]
theorem flCells_get (L : List Fl) (j : Nat) (hj : j < L.length) : (flCells L)[j * 3]? = some (.string L[j].pa) ∧ (flCells L)[j * 3 + 1]? = some (.string L[j].tx) ∧ (flCells L)[j * 3 + 2]? = some (.bool L[j].rn) := by
  induction L generalizing j with
  | nil => simp at hj
  | cons f l ih =>
    have e : flCells (f :: l) = [.string f.pa, .string f.tx, .bool f.rn] ++ flCells l := rfl
    cases j with
    | zero => rw [e]; exact ⟨rfl, rfl, rfl⟩
    | succ j =>
      have h := ih j (by simpa using hj)
      rw [e, show (j + 1) * 3 = j * 3 + 3 by omega]
      exact ⟨by simpa using h.1, by simpa using h.2.1, by simpa using h.2.2⟩
theorem own_files {w : World} {base : Nat} {ao : Option Addr} {n cap : Nat} {L : List Fl} (h : w.ownsRow base 37 3 (.slice ao n cap) n (flCells L)) (hn : n = L.length) : IsFl w ao L := by
  have hcells := fun (g : Nat) (hg : (Value.slice ao n cap).ownBlock = some g) => h.cells hg
  rcases h.2 with ⟨h1, h2⟩ | ⟨g, cap, cur, hv, _, hh, _⟩
  · exact .inl (List.length_eq_zero_iff.1 (by omega))
  · injection hv with hv _ _
    subst hv
    refine .inr ⟨g, 0, rfl, (Array.getElem?_eq_some_iff.1 hh).1, fun j hj => ?_⟩
    have k := flCells_get L j hj
    have c0 := hcells g rfl _ _ k.1
    have c1 := hcells g rfl _ _ k.2.1
    have c2 := hcells g rfl _ _ k.2.2
    rw [addr_add] at c0 c1 c2
    exact ⟨c0, c1, c2⟩
theorem info_p {i : Option TypeInfo} {z : Value} {s b : Nat} (h : i.map (fun i => (i.zero, i.size, i.bytes)) = some (some z, s, b)) : ∃ i0, i = some i0 ∧ i0.zero = some z ∧ i0.size = s ∧ i0.bytes = b := by
  cases i with
  | none => cases h
  | some i0 =>
    simp at h
    exact ⟨i0, rfl, h.1, h.2.1, h.2.2⟩
theorem infF : (Tryz.prog.info? 37).map (fun i => (i.zero, i.size, i.bytes)) = some (some (.agg #[.string ⟨#[]⟩, .string ⟨#[]⟩, .bool false]), 3, 40) := by kernel_rfl
theorem add0 (g j : Nat) : (⟨g, 0, none⟩ : Addr).add j = ⟨g, j, none⟩ := by
  unfold Addr.add
  split <;> simp_all
theorem new_cells (W : World) (cs : Array Value) (ty : TypeId) : ∀ (k : Nat) (u : Value), cs.toList[k]? = some u → (W.alloc (.cells cs ty)).cell? ((⟨W.heap.size, 0, none⟩ : Addr).add k) = some u := by
  intro k u hk
  rw [add0, Lib.cell_of_heap (heap_alloc_new W _)]
  simpa using hk
/-- Appending, shut: the walk is not to look into it. -/
def appS (ats : Array TypeId) (ty : TypeId) (args : Array Value) : Sem Value := Builtin.append_ ats ty args
theorem appS_eq (ats : Array TypeId) (ty : TypeId) (args : Array Value) : Builtin.append_ ats ty args = appS ats ty args := rfl

set_option maxRecDepth 100000 in
set_option maxHeartbeats 1000000 in
theorem Values_any (mb : Option Nat) (w : World) :
    Calls Tryz.prog 49 #[.map mb] w fun e w' => e = .returned (.func (.func 83) #[] #[.pointer (some ⟨w.heap.size, 0, none⟩)]) ∧ w' = w.alloc (.cells #[.map mb] 54) := by
  go_enter Tryz.func49, Tryz.ntmps49
  go_wp2
  go_ret
  exact ⟨rfl, rfl⟩
end Go.Proofs.YtcpomkgfcpfedaaGreatDoor
