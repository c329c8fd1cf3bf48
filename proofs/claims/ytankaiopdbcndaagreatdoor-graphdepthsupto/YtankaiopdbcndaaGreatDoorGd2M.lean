/- The document's own depth, walked. -/
import Derived.Test.YtankaiopdbcndaaGreatDoorGd1M
import Derived.Test.YtankaiopdbcndaaGreatDoorGn31M
import Derived.Deep.RegionWith
namespace Go.Proofs.YtankaiopdbcndaaGreatDoor
open Go.RowKit Go.Shelf Go.Maps
def InAt (w : World) (g n : Nat) (d : Nat → Int) : Prop := ∀ j, j < n → w.cell? ⟨g, j, none⟩ = some (.int .i64 (d j)) ∧ w.frozen? ⟨g, j, none⟩ = false
theorem InAt.set {w : World} {g n j : Nat} {d : Nat → Int} (h : InAt w g n d) (hj : j < n) (v : Int) : InAt (w.setCell ⟨g, j, none⟩ (.int .i64 v)) g n (updD d j v) := fun b hb => by
  refine ⟨?_, (World.frozen?_setCell _ _ _ _).trans (h b hb).2⟩
  unfold updD
  by_cases e : b = j
  · subst e
    rw [if_pos rfl]
    exact World.cell?_setCell_same _ _ _ (h b hb).1
  · rw [if_neg e, World.cell?_setCell_other _ _ _ _ (fun e2 => e (by injection e2 with _ e3; exact e3.symm))]
    exact (h b hb).1
theorem infIn : (Tryz.prog.info? 3).map (fun i => (i.zero, i.size, i.bytes)) = some (some (.int .i64 0), 1, 8) := by kernel_rfl
theorem make_in (w : World) (n : Nat) (hn : n ≤ 60) : (Instr.makeSlice 69 (.int .i64 (n : Int)) (.int .i64 (n : Int))).run Tryz.prog w = .ok (.slice (some ⟨w.heap.size, 0, none⟩) n n) (w.alloc (.cells (madeCells #[.int .i64 0] n) 3)) ∧ InAt (w.alloc (.cells (madeCells #[.int .i64 0] n) 3)) w.heap.size n (fun _ => 0) := by
  obtain ⟨i0, hi, hz0, hz1, hz2⟩ := infoG infIn
  have := run_make (P := Tryz.prog) w 69 3 i0 (.int .i64 0) Tryz.underlying69 hi hz0 .i64 .i64 (n : Int) (n : Int) (by omega) (Int.le_refl _) (by rw [hz2]; omega) (by omega)
  rw [hz1] at this
  simp only [Int.toNat_natCast, Nat.mul_one] at this
  refine ⟨this, fun j hj => ⟨?_, ?_⟩⟩
  · rw [Lib.cell_of_heap (heap_alloc_new w _)]
    have e : (madeCells #[Value.int .i64 0] n)[j]? = some (.int .i64 0) := by
      simp [madeCells, hj, Nat.mod_one]
    exact e
  · exact Lib.frozen_of_heap (heap_alloc_new w _) j
/-- Needs, by numbers. -/
def nbE (L : List Tg) (i : Nat) : List Nat := if h : i < L.length then L[i].ns.map fun y => (tgI L (tl y)).toNat else []
def nbC (L : List Tg) (x : ByteArray) (i : Nat) : Prop := ∃ (h : i < L.length), CnS L x (tnm L[i])
def nbD (L : List Tg) (o : List ByteArray) (i : Nat) : Int := dpF (nfL L) o ((L.map tnm).getD i [])
theorem nbD_at {L : List Tg} {o : List ByteArray} {i : Nat} (hi : i < L.length) : nbD L o i = dpF (nfL L) o (tnm L[i]) := by
  unfold nbD
  rw [List.getD_eq_getElem?_getD, List.getElem?_map, List.getElem?_eq_getElem hi]
  rfl
theorem dpI_ge (x : List UInt8) (k : List UInt8) : ∀ (nl : List ByteArray) (f : List UInt8 → Int), f k ≤ dpI x nl f k := fun nl f => by
  refine snocInd (P := fun nl => f k ≤ dpI x nl f k) (Int.le_refl _) (fun l a ih => ?_) nl
  rw [dpI_snoc]
  unfold updI
  split
  · rename_i e; subst e; omega
  · exact ih
theorem dpF_nn (nf : List UInt8 → List ByteArray) (o : List ByteArray) (k : List UInt8) : 0 ≤ dpF nf o k := by
  refine snocInd (P := fun o => 0 ≤ dpF nf o k) (by simp [dpF]) (fun l a ih => ?_) o
  rw [dpF_snoc]
  exact Int.le_trans ih (dpI_ge _ _ _ _)
theorem nb_ok {L : List Tg} {x : ByteArray} {o : List ByteArray} (h : CoP L x o) : DpOk (nbE L) (nbC L x) (nbD L o) L.length := by
  obtain ⟨ks, hq, hl⟩ := h.q
  have key : ∀ i (hi : i < L.length), CnS L x (tnm L[i]) → ∀ y ∈ L[i].ns, ∃ m, ∃ (hm : m < L.length), tgI L (tl y) = (m : Int) ∧ tnm L[m] = tl y := fun i hi _ y hy => by
    rcases tgI_cases L (tl y) with ⟨_, h2⟩ | ⟨m, hm, h1, h2, _⟩
    · exact absurd (h.ok.met _ (List.getElem_mem hi) y hy) h2
    · exact ⟨m, hm, h1, h2⟩
  have hin : ∀ i (hi : i < L.length), CnS L x (tnm L[i]) → L[i].nm ∈ o := fun i hi hc => (h.iff L[i].nm).2 hc
  refine ⟨fun i => dpF_nn _ _ _, fun i hi ⟨_, hc⟩ m hm => ?_, fun i hi ⟨_, hc⟩ => ?_⟩
  · unfold nbE at hm
    rw [dif_pos hi] at hm
    obtain ⟨y, hy, e⟩ := List.mem_map.1 hm
    obtain ⟨m2, hm2, e1, e2⟩ := key i hi hc y hy
    rw [e1] at e
    have em : m2 = m := by omega
    subst em
    have hy2 : y ∈ nfL L (tl L[i].nm) := by rw [show tl L[i].nm = tnm L[i] from rfl, nfL_of h.ok.nod (List.getElem_mem hi)]; exact hy
    obtain ⟨s1, s2⟩ := (dpF_spec hq.kn (hin i hi hc)).1 y hy2
    refine ⟨hm2, ⟨hm2, ?_⟩, ?_⟩
    · rw [e2]; exact (h.iff y).1 s1
    · rw [nbD_at hi, nbD_at hm2, e2]; exact s2
  · rw [nbD_at hi]
    rcases (dpF_spec hq.kn (hin i hi hc)).2 with s | ⟨y, hy, s⟩
    · exact .inl s
    · right
      have hy2 : y ∈ L[i].ns := by rw [show tl L[i].nm = tnm L[i] from rfl, nfL_of h.ok.nod (List.getElem_mem hi)] at hy; exact hy
      obtain ⟨m2, hm2, e1, e2⟩ := key i hi hc y hy2
      refine ⟨m2, ?_, ?_⟩
      · unfold nbE
        rw [dif_pos hi]
        exact List.mem_map.2 ⟨y, hy2, by rw [e1]; simp⟩
      · rw [nbD_at hm2, e2]; exact s
/-- How many needs the first ones have. -/
def sfN (L : List Tg) (i : Nat) : Nat := ((L.take i).map fun t => t.ns.length).sum
theorem sfN_succ {L : List Tg} {i : Nat} (hi : i < L.length) : sfN L (i + 1) = sfN L i + L[i].ns.length := by
  unfold sfN
  rw [List.take_succ_eq_append_getElem hi, List.map_append, List.sum_append, List.map_cons, List.map_nil, List.sum_cons, List.sum_nil, Nat.add_zero]
theorem sfN_le {L : List Tg} (i : Nat) (h : (L.map fun t => t.ns.length).sum ≤ 1048576) : sfN L i ≤ 1048576 := by
  have e : (L.map fun t => t.ns.length).sum = sfN L i + ((L.drop i).map fun t => t.ns.length).sum := by
    unfold sfN
    rw [← List.sum_append, ← List.map_append, List.take_append_drop]
  omega
end Go.Proofs.YtankaiopdbcndaaGreatDoor
