/- Deeds that came in as an argument, of little bulk. -/
import Derived.Test.YtoceglbdnbnjpaaDoorTq6
import Derived.ProofKit
import Derived.Below
namespace Go.Proofs.YtoceglbdnbnjpaaDoor
open Go.ChangeShapes Go.WideShapes Go.ChangeAt Go.RowKit Go.Shelf Go.Joins

/-- A deed: its kind, its text, its list of texts as it lies in memory, and whether it is odd. -/
structure Dd where
  kd : Int
  tx : ByteArray
  v : Value
  ss : List ByteArray
  odd : Bool
def ddC (t : Dd) : List Value := [.int .i64 t.kd, .string t.tx, t.v, .bool t.odd]
/-- Deeds that came in. -/
structure DdIn (w : World) (ao : Option Addr) (L : List Dd) : Prop where
  at_ : L = [] ∨ ∃ g o, ao = some ⟨g, o, none⟩ ∧ g < w.heap.size ∧ ∀ (k : Nat) (hk : k < L.length), w.cell? ⟨g, o + k * 4, none⟩ = some (.int .i64 (L[k]).kd) ∧ w.cell? ⟨g, o + k * 4 + 1, none⟩ = some (.string (L[k]).tx) ∧ w.cell? ⟨g, o + k * 4 + 2, none⟩ = some (L[k]).v ∧ w.cell? ⟨g, o + k * 4 + 3, none⟩ = some (.bool (L[k]).odd)
  tx : ∀ t ∈ L, Tx w t.v t.ss
  sz : ∀ t ∈ L, t.tx.size ≤ 1048576 ∧ t.ss.length ≤ 1048576 ∧ ∀ s ∈ t.ss, s.size ≤ 1048576
  kd : ∀ t ∈ L, -9223372036854775808 ≤ t.kd ∧ t.kd ≤ 9223372036854775807
  len : L.length ≤ 1048576
theorem DdIn.up {w w' : World} {ao : Option Addr} {L : List Dd} (h : DdIn w ao L) (hb : Below w.heap.size w w') : DdIn w' ao L := by
  refine ⟨?_, fun t ht => (h.tx t ht).up hb, h.sz, h.kd, h.len⟩
  rcases h.at_ with e | ⟨g, o, e, hg, hc⟩
  · exact .inl e
  · refine .inr ⟨g, o, e, Nat.lt_of_lt_of_le hg hb.size, fun k hk => ?_⟩
    obtain ⟨h1, h2, h3, h4⟩ := hc k hk
    exact ⟨(hb.cell (p := ⟨g, _, none⟩) hg).trans h1, (hb.cell (p := ⟨g, _, none⟩) hg).trans h2, (hb.cell (p := ⟨g, _, none⟩) hg).trans h3, (hb.cell (p := ⟨g, _, none⟩) hg).trans h4⟩
def totD : List ByteArray → Nat
  | [] => 0
  | s :: l => s.size + 1 + totD l
theorem totD_len (ss : List ByteArray) : ss.length ≤ totD ss := by
  induction ss with
  | nil => simp [totD]
  | cons s l ih => simp only [totD, List.length_cons]; omega
theorem totD_mem {ss : List ByteArray} {s : ByteArray} (h : s ∈ ss) : s.size ≤ totD ss := by
  induction ss with
  | nil => cases h
  | cons a l ih =>
    simp only [totD]
    rcases List.mem_cons.1 h with rfl | h
    · omega
    · have := ih h; omega
theorem totD_strs {H : Type} (ss : List ByteArray) : Rows.uptoBulkAll (Go.ChangeShapes.strs (H := H) ss) = totD ss := by
  induction ss with
  | nil => simp [Go.ChangeShapes.strs, Rows.uptoBulkAll, totD]
  | cons s l ih =>
    have e : Go.ChangeShapes.strs (H := H) (s :: l) = .lit (.string s.data.toList) :: Go.ChangeShapes.strs l := rfl
    have e2 : s.data.toList.length = s.size := by simp
    rw [e]
    simp only [Rows.uptoBulkAll, Rows.uptoBulk, totD, ih, e2]
theorem bulkD_mem {H : Type} : ∀ (ds : List (DataW H)) (i : Nat) (h : i < ds.length), Rows.uptoBulk ds[i] ≤ Rows.uptoBulkAll ds
  | d :: ds, 0, _ => by simp only [Rows.uptoBulkAll, List.getElem_cons_zero]; omega
  | d :: ds, i + 1, h => by
    have := bulkD_mem ds i (by simpa using h)
    simp only [Rows.uptoBulkAll, List.getElem_cons_succ]
    omega
theorem bulkD_len {H : Type} (l : List (DataW H)) : l.length ≤ Rows.uptoBulkAll l := by
  induction l with
  | nil => exact Nat.zero_le _
  | cons d r ih =>
    have h1 : 1 ≤ Rows.uptoBulk d := by
      cases d with
      | lit x => cases x <;> simp [Rows.uptoBulk]
      | _ => simp [Rows.uptoBulk]
    simp only [Rows.uptoBulkAll, List.length_cons]
    omega
theorem int_wf {a : Int} (h : (Lit.int .i64 a).wf = true) : -9223372036854775808 ≤ a ∧ a ≤ 9223372036854775807 := by simpa [Lit.wf, IntKind.min, IntKind.max, IntKind.signed, IntKind.bits] using h

set_option maxRecDepth 100000 in
/-- A slice of texts that stands in a field. -/
theorem fieldD {H : Type} {enc : TypeId × Value → H} {W : World} {v : Value} {n : Nat} {y : DataW H × List MemPlace}
    (hf : DataW.trod enc Tryd.prog W 0 (fun _ => true) true n 30 [v] = some y) (hr : Rows.uptoBulk y.1 ≤ 1048576) : ∃ ss, Tx W v ss ∧ ss.length ≤ 1048576 ∧ (∀ s ∈ ss, s.size ≤ 1048576) := by
  rcases open_strings Tryd.underlying30 Tryd.underlying9 (by kernel_rfl) hf with ⟨hcs, hx⟩ | ⟨x, l, c, ss, hcs, _, hl, hm, hz, hx, hcell, hws⟩
  · obtain rfl : v = .slice none 0 0 := by simpa using hcs
    exact ⟨[], ⟨by decide, .inl ⟨rfl, none, 0, rfl⟩⟩, by simp, by simp⟩
  · obtain rfl : v = .slice (some x) l c := by simpa using hcs
    have hz' : ss.length = c := by simpa using hz
    have hlen : (ss.take l).length = l := by rw [List.length_take]; omega
    have hT : totD (ss.take l) + 1 ≤ Rows.uptoBulk y.1 := by
      rw [hx]
      simp only [Rows.uptoBulk, totD_strs]
      omega
    have hb := totD_len (ss.take l)
    have hsz : ∀ s ∈ ss.take l, s.size ≤ 1048576 := fun s hs => by
      have := totD_mem hs
      omega
    by_cases h0 : l = 0
    · exact ⟨[], ⟨by decide, .inl ⟨rfl, some x, c, by rw [h0]⟩⟩, by simp, by simp⟩
    · refine ⟨ss.take l, ⟨by omega, .inr ⟨by omega, ?_⟩⟩, by omega, hsz⟩
      obtain ⟨b, off, spot⟩ := x
      have hc0 := hcell 0 (by omega)
      have hspot : spot = none := by simpa [Addr.add] using World.cell?_spot hc0
      subst hspot
      refine ⟨b, off, c, by rw [hlen], by omega, fun j hj => ?_⟩
      rw [hlen] at hj
      rw [← Go.WideShapes.add_plain, hcell j (by omega)]
      simp [List.getD, List.getElem?_eq_getElem (show j < ss.length by omega)]
theorem cellsDd : Tryd.prog.cellsOf 36 = 4 := by kernel_rfl

set_option maxRecDepth 100000 in
theorem arg_deed {H : Type} {enc : TypeId × Value → H} {W : World} {cs : List Value} {n : Nat} {y : DataW H × List MemPlace} (hl : cs.length = 4)
    (h : DataW.trod enc Tryd.prog W 0 (fun _ => true) true n 36 cs = some y) (hr : Rows.uptoBulk y.1 ≤ 1048576) : ∃ t : Dd, cs = ddC t ∧ Tx W t.v t.ss ∧ (t.tx.size ≤ 1048576 ∧ t.ss.length ≤ 1048576 ∧ ∀ s ∈ t.ss, s.size ≤ 1048576) ∧ -9223372036854775808 ≤ t.kd ∧ t.kd ≤ 9223372036854775807 := by
  match cs, hl with
  | [c0, c1, c2, c3], _ =>
    obtain ⟨xs, m, _, rfl, _, hlen, hf⟩ := DataW.trod_struct Tryd.underlying36 h
    match xs, hlen with
    | [y0, y1, y2, y3], _ =>
      have k0 : Tryd.prog.cellsOf 3 = 1 := by kernel_rfl
      have k1 : Tryd.prog.cellsOf 9 = 1 := by kernel_rfl
      have k2 : Tryd.prog.cellsOf 30 = 1 := by kernel_rfl
      have k3 : Tryd.prog.cellsOf 4 = 1 := by kernel_rfl
      have h0 := hf 0 _ rfl
      have h1 := hf 1 _ rfl
      have h2 := hf 2 _ rfl
      have h3 := hf 3 _ rfl
      simp [k0, k1, k2, k3] at h0 h1 h2 h3
      simp only [Rows.uptoBulk, Rows.uptoBulkAll, List.map_cons, List.map_nil] at hr ⊢
      obtain ⟨a, e0, _, z0⟩ := DataW.trod_int Tryd.underlying3 h0
      obtain ⟨s, e1, e1', z1⟩ := DataW.trod_string Tryd.underlying9 h1
      obtain ⟨b, e3, _⟩ := DataW.trod_bool Tryd.underlying4 h3
      simp at e0 e1 e3
      subst e0 e1 e3
      have hs0 : s.size ≤ 1048576 := by
        have e2 : s.data.toList.length = s.size := by simp
        rw [e1'] at hr
        simp only [Rows.uptoBulk, e2] at hr
        omega
      obtain ⟨s2, t2, q2, r2⟩ := fieldD h2 (by omega)
      exact ⟨⟨a, s, c2, s2, b⟩, rfl, t2, ⟨hs0, q2, r2⟩, int_wf z0⟩

set_option maxRecDepth 100000 in
theorem arg_deeds {H : Type} {enc : TypeId × Value → H} {W : World} {v : Value} {d : DataW H} {p : List MemPlace} {base : Nat}
    (hv : Value.okWide Tryd.prog W .any base 22 v) (h : DataW.Trod enc Tryd.prog W 0 (fun _ => true) true 22 v d p) (hr : Rows.uptoBulk d ≤ 1048576) : ∃ (L : List Dd) (ao : Option Addr) (cap : Nat), v = .slice ao L.length cap ∧ DdIn W ao L := by
  obtain ⟨a, len, cap, rfl⟩ := okWide_slice Tryd.underlying22 hv
  obtain ⟨fuel, hf⟩ := h
  rcases DataW.trod_slice Tryd.underlying22 hf with ⟨hcs, _⟩ | ⟨x, l, c, elems, rest, n, _, hcs, hx, _, hlc, _, hlen, hel, _, _⟩
  · simp [Value.cells] at hcs
    obtain ⟨rfl, rfl, rfl⟩ := hcs
    exact ⟨[], none, 0, rfl, ⟨.inl rfl, (fun t ht => by cases ht), (fun t ht => by cases ht), (fun t ht => by cases ht), Nat.zero_le _⟩⟩
  · simp [Value.cells] at hcs
    obtain ⟨rfl, rfl, rfl⟩ := hcs
    have hd : d = .slice (elems.map (·.1)) (rest.map (·.1)) := congrArg Prod.fst hx
    have hbk : Rows.uptoBulkAll (elems.map (·.1)) ≤ 1048576 := by
      rw [hd] at hr
      simp only [Rows.uptoBulk] at hr
      omega
    have hb : len ≤ 1048576 := by
      have := bulkD_len (elems.map (·.1))
      rw [List.length_map] at this
      omega
    have each : ∀ i : Fin len, ∃ t : Dd, Tx W t.v t.ss ∧ (t.tx.size ≤ 1048576 ∧ t.ss.length ≤ 1048576 ∧ ∀ s ∈ t.ss, s.size ≤ 1048576) ∧ (-9223372036854775808 ≤ t.kd ∧ t.kd ≤ 9223372036854775807) ∧
        W.cell? (x.add (i.val * 4)) = some (.int .i64 t.kd) ∧ W.cell? ((x.add (i.val * 4)).add 1) = some (.string t.tx) ∧ W.cell? ((x.add (i.val * 4)).add 2) = some t.v ∧ W.cell? ((x.add (i.val * 4)).add 3) = some (.bool t.odd) := by
      intro i
      have hi : i.val < elems.length := by omega
      have h1 := hel i.val i.isLt
      rw [cellsDd, List.getElem?_eq_getElem hi, Option.bind_eq_some_iff] at h1
      obtain ⟨cs', hc, hy⟩ := h1
      have hs := World.cells?_some hc
      have hbi := bulkD_mem (elems.map (·.1)) i.val (by simpa using hi)
      rw [List.getElem_map] at hbi
      obtain ⟨t, rfl, q1, q2, q3⟩ := arg_deed (by simpa using hs.2.1) hy (by omega)
      refine ⟨t, q1, q2, q3, ?_, ?_, ?_, ?_⟩
      · have := hs.2.2 0 (by omega); simpa [Addr.add, ddC] using this
      · have := hs.2.2 1 (by omega); simpa [ddC] using this
      · have := hs.2.2 2 (by omega); simpa [ddC] using this
      · have := hs.2.2 3 (by omega); simpa [ddC] using this
    obtain ⟨f, hf2⟩ := Classical.axiomOfChoice each
    have hlen2 : (List.ofFn f).length = len := by simp
    have hmem : ∀ t ∈ List.ofFn f, ∃ i, t = f i := fun t ht => by
      obtain ⟨i, hi⟩ := List.mem_ofFn.1 ht
      exact ⟨i, hi.symm⟩
    refine ⟨List.ofFn f, some x, cap, by rw [hlen2], ⟨?_, fun t ht => ?_, fun t ht => ?_, fun t ht => ?_, by rw [hlen2]; exact hb⟩⟩
    · by_cases h0 : len = 0
      · exact .inl (List.length_eq_zero_iff.1 (hlen2.trans h0))
      · obtain ⟨b, off, spot⟩ := x
        have c0 := (hf2 ⟨0, by omega⟩).2.2.2.1
        have hspot : spot = none := by simpa [Addr.add] using World.cell?_spot c0
        subst hspot
        refine .inr ⟨b, off, rfl, by simpa [Addr.add] using World.block_lt_of_cell? W _ c0, fun j hj => ?_⟩
        rw [hlen2] at hj
        rw [List.getElem_ofFn]
        have k := (hf2 ⟨j, hj⟩).2.2.2
        simp only [addr_add] at k
        exact k
    · obtain ⟨i, rfl⟩ := hmem t ht
      exact (hf2 i).1
    · obtain ⟨i, rfl⟩ := hmem t ht
      exact (hf2 i).2.1
    · obtain ⟨i, rfl⟩ := hmem t ht
      exact (hf2 i).2.2.1
end Go.Proofs.YtoceglbdnbnjpaaDoor
