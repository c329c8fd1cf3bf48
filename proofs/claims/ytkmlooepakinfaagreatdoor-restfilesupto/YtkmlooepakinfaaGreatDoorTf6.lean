/- What the row of a tree's statement lays: the digest's numbers; the world's shape. -/
import Derived.ProofKit
import Derived.OpenShut
import Derived.ShutString
import Derived.ChangeOld
import Derived.SliceStrings
import Derived.Below
import Derived.Lib.SmallJoins
import Derived.Deep.DeepHandedRow
import Derived.Shelf.SlMaps.Clone
import Derived.Ground.SlmcProg
import Derived.Test.YtkmlooepakinfaaGreatDoorChecked
import Derived.Lib.SlMapMerge
import Derived.Maps.Ext
import Derived.Maps.RangeWalk
import Derived.Sort.KeysCollected
import Derived.Laws.IdiomRangeMap
import Derived.RangeFuncFrom
import Derived.Shelf.SlIter.Keys
import Derived.RangeFuncGives
import Derived.Shelf.SlIter.Collect
import Derived.Test.YtkmlooepakinfaaGreatDoorTf5
namespace Go.Proofs.YtkmlooepakinfaaGreatDoor
open Go.ChangeShapes Go.WideShapes Go.ChangeAt Go.RowKit Go.Shelf

theorem own : ownKnob Tryz.prog.godebug = none := by kernel_rfl
theorem laid_ints {W : World} {name : String} {l : List Int} {rest : List (String × DataW Unit)} {ps : List MemPlace} {g0 T n : Nat} (h : DataW.LaidVars Tryz.prog W ((name, .agg (l.map fun n => .lit (.int .u32 n))) :: rest) ps)
    (hg0 : Tryz.prog.globalNamed name = some g0) (ht0 : (Tryz.prog.globals[g0]?).map (·.type) = some T) (hT : Tryz.prog.underlying T = some (.array n 95)) (hn : l.length = n) : LaidAt g0 W l ∧ ∃ q, DataW.LaidVars Tryz.prog W rest q := by
  obtain ⟨g, t, cs, fuel, p, q, hg, ht, hv, hd, hrest, _⟩ := h
  obtain rfl := Option.some.inj (hg0.symm.trans hg)
  obtain rfl := Option.some.inj (ht0.symm.trans ht)
  refine ⟨fun r hr => ?_, q, hrest⟩
  obtain ⟨xs, m, _, ex, _, hl, hel⟩ := DataW.trod_array hT hd
  have c5 : Tryz.prog.cellsOf 95 = 1 := by kernel_rfl
  have e3 : (xs.map (·.1)) = l.map fun n => .lit (.int .u32 n) := (DataW.agg.inj (Prod.mk.inj ex).1).symm
  have hxl : xs.length = l.length := by have := congrArg List.length e3; simpa using this
  have hE := hel r (by omega)
  rw [c5, Nat.mul_one, List.getElem?_eq_getElem (by omega)] at hE
  obtain ⟨z, e1, e2, _⟩ := DataW.trod_int Tryz.underlying95 hE
  have e4 : (xs.map (·.1))[r]? = (l.map fun n => (DataW.lit (.int .u32 n) : DataW Unit))[r]? := by rw [e3]
  rw [List.getElem?_map, List.getElem?_map, List.getElem?_eq_getElem (by omega : r < xs.length), List.getElem?_eq_getElem hr, e2] at e4
  have hz : z = l[r] := by
    simpa only [Option.map_some, Option.some.injEq, DataW.lit.injEq, Lit.int.injEq, true_and] using e4
  rw [World.var?_cell hg hv r, ← hz]
  have : cs.toList[r]? = some (.int .u32 z) := by
    have h0 : ((cs.toList.drop r).take 1)[0]? = some (.int .u32 z) := by rw [e1]; rfl
    simpa using h0
  simpa using this


theorem env_of {W : World} (h : laidMetH Tryz.prog [("unicode/utf8.acceptRanges", Rows.laid_unicode_utf8_acceptRanges), ("foundry/digest.squareRoots", Rows.laid_foundry_digest_squareRoots), ("foundry/digest.cubeRoots", Rows.laid_foundry_digest_cubeRoots), ("unicode/utf8.first", Rows.laid_unicode_utf8_first)] W) (hs : W.ShapedOpen Tryz.prog) : Env W := by
  refine ⟨max_of_shaped hs, ?_⟩
  rw [MakeChecks.laidMetH_plain _ _ _ (by kernel_rfl)] at h
  obtain ⟨ps, hv, _, _⟩ := h
  obtain ⟨_, _, _, _, _, q0, _, _, _, _, hv0, _⟩ := hv
  rw [sqL_eq, cuL_eq] at hv0
  obtain ⟨h1, q, hq⟩ := laid_ints (T := 96) hv0 (g0 := 0) (by kernel_rfl) (by kernel_rfl) Tryz.underlying96 sqL_len
  obtain ⟨h2, _⟩ := laid_ints (T := 128) hq (g0 := 1) (by kernel_rfl) (by kernel_rfl) Tryz.underlying128 cuL_len
  exact ⟨by rw [sq8_l]; exact h1, h2⟩
end Go.Proofs.YtkmlooepakinfaaGreatDoor

/- Files that came in as an argument. -/
namespace Go.Proofs.YtkmlooepakinfaaGreatDoor
open Go.ChangeShapes Go.WideShapes Go.ChangeAt Go.RowKit Go.Shelf Go.Joins
open Go.Deep (trod_struct3)

theorem bytesFl : Tryz.prog.bytesOf 25 = 40 := by kernel_rfl
theorem addr_addF (b off j : Nat) : (⟨b, off, none⟩ : Addr).add j = ⟨b, off + j, none⟩ := by
  unfold Addr.add
  split <;> simp_all
theorem cellsFl : Tryz.prog.cellsOf 25 = 3 := by kernel_rfl

set_option maxRecDepth 100000 in
theorem arg_file {H : Type} {enc : TypeId × Value → H} {W : World} {cs : List Value} {n : Nat} {y : DataW H × List MemPlace} (hl : cs.length = 3)
    (h : DataW.trod enc Tryz.prog W 0 (fun _ => true) true n 25 cs = some y) : ∃ nd : Fl, cs = [.string nd.pa, .string nd.tx, .bool nd.rn] ∧ nd.pa.size ≤ maxLen ∧ nd.tx.size ≤ maxLen := by
  match cs, hl with
  | [c0, c1, c2], _ =>
    obtain ⟨y0, y1, y2, m, hx, _, h0, h1, h2⟩ := trod_struct3 Tryz.underlying25 h
    have k1 : Tryz.prog.cellsOf 9 = 1 := by kernel_rfl
    have k2 : Tryz.prog.cellsOf 4 = 1 := by kernel_rfl
    simp [k1, k2] at h0 h1 h2
    obtain ⟨s, e0, _, z0⟩ := DataW.trod_string Tryz.underlying9 h0
    obtain ⟨t, e1, _, z2⟩ := DataW.trod_string Tryz.underlying9 h1
    obtain ⟨a, e2, _⟩ := DataW.trod_bool Tryz.underlying4 h2
    simp at e0 e1 e2
    subst e0 e1 e2
    exact ⟨⟨s, t, a⟩, rfl, z0, z2⟩

set_option maxRecDepth 100000 in
/-- A slice of nodes that came in. -/
theorem arg_files {H : Type} {enc : TypeId × Value → H} {W : World} {v : Value} {d : DataW H} {p : List MemPlace} {base : Nat}
    (hv : Value.okWide Tryz.prog W .any base 22 v) (h : DataW.Trod enc Tryz.prog W 0 (fun _ => true) true 22 v d p) (hr : ∀ elems sp, d = .slice elems sp → elems.length ≤ 4611686018427387904) : ∃ (L : List Fl) (ao : Option Addr) (cap : Nat), v = .slice ao L.length cap ∧ IsFl W ao L ∧ L.length ≤ 4611686018427387904 := by
  obtain ⟨a, len, cap, rfl⟩ := okWide_slice Tryz.underlying22 hv
  obtain ⟨fuel, hf⟩ := h
  rcases DataW.trod_slice Tryz.underlying22 hf with ⟨hcs, _⟩ | ⟨x, l, c, elems, rest, n, _, hcs, hx, _, _, _, hlen, hel, _, _⟩
  · simp [Value.cells] at hcs
    obtain ⟨rfl, rfl, rfl⟩ := hcs
    exact ⟨[], none, 0, rfl, Or.inl rfl, by decide⟩
  · simp [Value.cells] at hcs
    obtain ⟨rfl, rfl, rfl⟩ := hcs
    have hb : len ≤ 4611686018427387904 := by
      have := hr _ _ (congrArg Prod.fst hx)
      simp at this
      omega
    have each : ∀ i : Fin len, ∃ nd : Fl, (nd.pa.size ≤ maxLen ∧ nd.tx.size ≤ maxLen) ∧ W.cell? (x.add (i.val * 3)) = some (.string nd.pa) ∧ W.cell? ((x.add (i.val * 3)).add 1) = some (.string nd.tx) ∧ W.cell? ((x.add (i.val * 3)).add 2) = some (.bool nd.rn) := by
      intro i
      have h1 := hel i.val i.isLt
      rw [cellsFl, List.getElem?_eq_getElem (by omega : i.val < elems.length), Option.bind_eq_some_iff] at h1
      obtain ⟨cs', hc, hy⟩ := h1
      have hs := World.cells?_some hc
      obtain ⟨nd, rfl, z⟩ := arg_file (by simpa using hs.2.1) hy
      refine ⟨nd, z, ?_, ?_, ?_⟩
      · have := hs.2.2 0 (by omega); simpa [Addr.add] using this
      · have := hs.2.2 1 (by omega); simpa using this
      · have := hs.2.2 2 (by omega); simpa using this
    obtain ⟨f, hf2⟩ := Classical.axiomOfChoice each
    have hlen2 : (List.ofFn f).length = len := by simp
    refine ⟨List.ofFn f, some x, cap, by rw [hlen2], ?_, by rw [hlen2]; exact hb⟩
    by_cases h0 : len = 0
    · exact Or.inl (List.length_eq_zero_iff.1 (hlen2.trans h0))
    · obtain ⟨b, off, spot⟩ := x
      have c0 := (hf2 ⟨0, by omega⟩).2.1
      have hspot : spot = none := by simpa [Addr.add] using World.cell?_spot c0
      subst hspot
      refine Or.inr ⟨b, off, rfl, by simpa [Addr.add] using World.block_lt_of_cell? W _ c0, fun j hj => ?_⟩
      rw [hlen2] at hj
      rw [List.getElem_ofFn]
      have k := (hf2 ⟨j, hj⟩).2
      rw [addr_addF, addr_addF, addr_addF] at k
      exact k
end Go.Proofs.YtkmlooepakinfaaGreatDoor

/- Files that came in, of little bulk. -/
namespace Go.Proofs.YtkmlooepakinfaaGreatDoor
open Go.ChangeShapes Go.WideShapes Go.ChangeAt Go.RowKit Go.Shelf Go.Joins
open Go.Deep (trod_struct3)

theorem bulk_len {H : Type} (l : List (DataW H)) : l.length ≤ Rows.uptoBulkAll l := by
  induction l with
  | nil => exact Nat.zero_le _
  | cons d r ih =>
    have h1 : 1 ≤ Rows.uptoBulk d := by
      cases d with
      | lit x => cases x <;> simp [Rows.uptoBulk]
      | _ => simp [Rows.uptoBulk]
    simp only [Rows.uptoBulkAll, List.length_cons]
    omega
set_option maxRecDepth 100000 in
theorem arg_files_up {H : Type} {enc : TypeId × Value → H} {W : World} {v : Value} {d : DataW H} {p : List MemPlace} {base : Nat}
    (hv : Value.okWide Tryz.prog W .any base 22 v) (h : DataW.Trod enc Tryz.prog W 0 (fun _ => true) true 22 v d p) (hr : ∀ elems sp, d = .slice elems sp → elems.length ≤ 1048576) : ∃ (L : List Fl) (ao : Option Addr) (cap : Nat), v = .slice ao L.length cap ∧ IsFl W ao L ∧ L.length ≤ 1048576 := by
  obtain ⟨a, len, cap, rfl⟩ := okWide_slice Tryz.underlying22 hv
  obtain ⟨fuel, hf⟩ := h
  rcases DataW.trod_slice Tryz.underlying22 hf with ⟨hcs, _⟩ | ⟨x, l, c, elems, rest, n, _, hcs, hx, _, _, _, hlen, hel, _, _⟩
  · simp [Value.cells] at hcs
    obtain ⟨rfl, rfl, rfl⟩ := hcs
    exact ⟨[], none, 0, rfl, Or.inl rfl, by decide⟩
  · simp [Value.cells] at hcs
    obtain ⟨rfl, rfl, rfl⟩ := hcs
    have hb : len ≤ 1048576 := by
      have := hr _ _ (congrArg Prod.fst hx)
      simp at this
      omega
    have each : ∀ i : Fin len, ∃ nd : Fl, (nd.pa.size ≤ maxLen ∧ nd.tx.size ≤ maxLen) ∧ W.cell? (x.add (i.val * 3)) = some (.string nd.pa) ∧ W.cell? ((x.add (i.val * 3)).add 1) = some (.string nd.tx) ∧ W.cell? ((x.add (i.val * 3)).add 2) = some (.bool nd.rn) := by
      intro i
      have h1 := hel i.val i.isLt
      rw [cellsFl, List.getElem?_eq_getElem (by omega : i.val < elems.length), Option.bind_eq_some_iff] at h1
      obtain ⟨cs', hc, hy⟩ := h1
      have hs := World.cells?_some hc
      obtain ⟨nd, rfl, z⟩ := arg_file (by simpa using hs.2.1) hy
      refine ⟨nd, z, ?_, ?_, ?_⟩
      · have := hs.2.2 0 (by omega); simpa [Addr.add] using this
      · have := hs.2.2 1 (by omega); simpa using this
      · have := hs.2.2 2 (by omega); simpa using this
    obtain ⟨f, hf2⟩ := Classical.axiomOfChoice each
    have hlen2 : (List.ofFn f).length = len := by simp
    refine ⟨List.ofFn f, some x, cap, by rw [hlen2], ?_, by rw [hlen2]; exact hb⟩
    by_cases h0 : len = 0
    · exact Or.inl (List.length_eq_zero_iff.1 (hlen2.trans h0))
    · obtain ⟨b, off, spot⟩ := x
      have c0 := (hf2 ⟨0, by omega⟩).2.1
      have hspot : spot = none := by simpa [Addr.add] using World.cell?_spot c0
      subst hspot
      refine Or.inr ⟨b, off, rfl, by simpa [Addr.add] using World.block_lt_of_cell? W _ c0, fun j hj => ?_⟩
      rw [hlen2] at hj
      rw [List.getElem_ofFn]
      have k := (hf2 ⟨j, hj⟩).2
      rw [addr_addF, addr_addF, addr_addF] at k
      exact k
end Go.Proofs.YtkmlooepakinfaaGreatDoor

/- The second form of a row that lists variables, the world's shape kept: its witness. -/
namespace Go.Proofs.YtkmlooepakinfaaGreatDoor
open Go.ChangeShapes Go.WideShapes Go.ChangeAt Go.RowKit Go.Shelf

theorem witness_up {H : Type} {enc : TypeId × Value → H} {C : Checked} {os : Os} {f : FuncId} {fn : Func} {s : OpenSpec} {conds : List PathCond} {apart : Bool} {laid : List (String × DataW Unit)} (w0 : World) (args : Array Value) (hos : w0.os = os)
    (hsh : (w0.forCall (fun _ _ => 0) ⟨#[], args, []⟩).Shaped C.prog)
    (hok : Input.okWideB C.prog (w0.forCall (fun _ _ => 0) ⟨#[], args, []⟩) f ⟨#[], args, []⟩ = true)
    (hrow : s.preRow enc C.prog fn conds apart laid (w0.forCall (fun _ _ => 0) ⟨#[], args, []⟩).memory args) :
    ∃ (w : World) (tape : Tape) (i : Input), w.os = os ∧ (w.forCall tape i).Shaped C.prog ∧ i.vars = [] ∧ Input.okWide C.prog (w.forCall tape i) .any w.heap.size f i ∧
      s.preRow enc C.prog fn conds apart laid (w.forCall tape i).memory i.args ∧ ({} : Assume).holds C.prog (lone (Frame.enter C.prog f i.args .normal) [] (w.forCall tape i)) :=
  ⟨w0, fun _ _ => 0, ⟨#[], args, []⟩, hos, hsh, (Input.okWide_of_okWideB (base := 0) hok).1, (Input.okWide_of_okWideB hok).2, hrow, by
    simp only [Assume.holds]
    exact ⟨by simp, by simp, fun _ => Modest.zero, by simp, by simp⟩⟩
end Go.Proofs.YtkmlooepakinfaaGreatDoor

/- A text among others that rise. -/
namespace Go.Proofs.YtkmlooepakinfaaGreatDoor
open Go.RowKit Go.Shelf Go.Sort
attribute [local go_sem ↓] appS_eq

/-- How adding ends. -/
def AdP (B : Nat) (v : Value) (l : List (List UInt8)) (s : ByteArray) (w : World) (e : Ending) (w' : World) : Prop := ∃ v', e = .returned v' ∧ w'.ownsRow B 9 1 v' (insN s.data.toList l).length ((insN s.data.toList l).map encStr) ∧ Below w.heap.size w w' ∧ ∀ g, v'.ownBlock = some g → v.ownBlock = some g ∨ w.heap.size ≤ g

theorem encS (s : ByteArray) : encStr s.data.toList = .string s := by
  show Value.string ⟨s.data.toList.toArray⟩ = _
  rw [Array.toArray_toList]
theorem al_at (W : World) (b : Nat) (cs : Array Value) (ty : TypeId) (k : Nat) (v : Value) (hb : b = W.heap.size) (hv : cs[k]? = some v) : (W.alloc (.cells cs ty)).cell? ⟨b, k, none⟩ = some v := by
  subst hb
  rw [Lib.cell_of_heap (heap_alloc_new W _)]
  exact hv
theorem heap_al (w : World) (o : Obj) (g : Nat) (hg : g < w.heap.size) : (w.alloc o).heap[g]? = w.heap[g]? := ((Below.refl w.heap.size w).alloc (Nat.le_refl _) o).block g hg
theorem eqL (a b : ByteArray) : (a.toList == b.toList) = decide (a.data.toList = b.data.toList) := by
  rw [Lib.toList_data, Lib.toList_data, Bool.eq_iff_iff]
  simp
theorem insN_take (s : List UInt8) : ∀ (l : List (List UInt8)) (k : Nat), k ≤ l.length → (∀ (j : Nat) (hj : j < l.length), j < k → l[j] < s) → (∀ hk : k < l.length, s < l[k]) → insN s l = l.take k ++ s :: l.drop k
  | [], k, hk, _, _ => by simp [insN]
  | m :: r, 0, _, _, h2 => by
    have h3 : s < m := h2 (by simp)
    unfold insN
    rw [if_neg (fun e => by rw [e] at h3; exact List.lt_irrefl _ h3), if_pos h3]
    rfl
  | m :: r, k + 1, hk, h1, h2 => by
    have h3 : m < s := h1 0 (by simp) (by omega)
    have ih := insN_take s r k (by simpa using hk) (fun j hj hjk => h1 (j + 1) (by simp; omega) (by omega)) (fun hk2 => h2 (by simp; omega))
    unfold insN
    rw [if_neg (fun e => by rw [e] at h3; exact List.lt_irrefl _ h3), if_neg (fun h4 => List.lt_irrefl _ (List.lt_trans h3 h4)), ih]
    rfl
theorem insN_has (s : List UInt8) : ∀ (l : List (List UInt8)) (k : Nat) (hk : k < l.length), (∀ (j : Nat) (hj : j < l.length), j < k → l[j] < s) → l[k] = s → insN s l = l
  | [], k, hk, _, _ => by simp at hk
  | m :: r, 0, _, _, h2 => by
    have h3 : m = s := h2
    unfold insN
    rw [if_pos h3.symm]
  | m :: r, k + 1, hk, h1, h2 => by
    have h3 : m < s := h1 0 (by simp) (by omega)
    have ih := insN_has s r k (by simpa using hk) (fun j hj hjk => h1 (j + 1) (by simp; omega) (by omega)) h2
    unfold insN
    rw [if_neg (fun e => by rw [e] at h3; exact List.lt_irrefl _ h3), if_neg (fun h4 => List.lt_irrefl _ (List.lt_trans h3 h4)), ih]

theorem app_empty (N n c : Nat) (hnc : n ≤ c) (W : World) : (Builtin.append_ #[30, 30] 30 #[.slice (some ⟨N, 0, none⟩) n c, .slice none 0 0]).run Tryz.prog W = .ok (.slice (some ⟨N, 0, none⟩) n c) W := by
  obtain ⟨i0, hi, hz0, hz1, hz2⟩ := info_parts infTx
  simp [Builtin.append_, run_underlying Tryz.underlying30, sizeOf, typeInfo, hi, Builtin.lenOf, Builtin.firstCells, storeCells, hnc]
end Go.Proofs.YtkmlooepakinfaaGreatDoor

/- Two trees that differ, plain. -/
namespace Go.Proofs.YtkmlooepakinfaaGreatDoor
open Go.RowKit Go.Shelf Go.Maps Go.WideMaps Go.Sort

def zeroFl : Fl := ⟨⟨#[]⟩, ⟨#[]⟩, false⟩
def sameB (f g : Fl) : Bool := decide (f.pa.data.toList = g.pa.data.toList) && decide (f.tx.data.toList = g.tx.data.toList) && decide (f.rn = g.rn)
theorem sameB_iff (f g : Fl) : sameB f g = true ↔ f = g := by
  unfold sameB
  rw [Bool.and_eq_true, Bool.and_eq_true, decide_eq_true_eq, decide_eq_true_eq, decide_eq_true_eq]
  constructor
  · rintro ⟨⟨h1, h2⟩, h3⟩
    obtain ⟨p, t, r⟩ := f
    obtain ⟨p2, t2, r2⟩ := g
    simp only at h1 h2 h3
    rw [bytes_ext h1, bytes_ext h2, h3]
  · rintro rfl
    exact ⟨⟨rfl, rfl⟩, rfl⟩
/-- The file that has a path. -/
def getF (M : List Fl) (k : List UInt8) : Fl := (M.find? fun g => decide (pth g = k)).getD zeroFl
theorem getF_byD {M : List Fl} (hn : (M.map pth).Nodup) (k : List UInt8) : (byD M).atKey (.string k) (fD zeroFl) = fD (getF M k) := by
  unfold getF
  cases h : M.find? fun g => decide (pth g = k) with
  | none =>
    refine atNo_byD (fun f hf e => ?_) _
    have := List.find?_eq_none.1 h f hf
    simp [e] at this
  | some g =>
    have h1 : g ∈ M := List.mem_of_find?_eq_some h
    have h2 : pth g = k := by simpa using List.find?_some h
    rw [← h2]
    exact at_byD hn h1 _
theorem getF_at {M : List Fl} (i : Nat) (hi : i < M.length) {k : List UInt8} (h : pth M[i] = k) (hf : ∀ j (hj : j < M.length), j < i → pth M[j] ≠ k) : getF M k = M[i] := by
  unfold getF
  have : M.find? (fun g => decide (pth g = k)) = some M[i] := by
    rw [List.find?_eq_some_iff_getElem]
    exact ⟨by simpa using h, i, hi, rfl, fun j hj => by simpa using hf j (by omega) hj⟩
  rw [this]
  rfl
theorem getF_no {M : List Fl} {k : List UInt8} (h : ∀ g ∈ M, pth g ≠ k) : getF M k = zeroFl := by
  unfold getF
  rw [List.find?_eq_none.2 (fun g hg => by simpa using h g hg)]
  rfl
theorem pathOk_ne {p : ByteArray} (h : pathOk p = true) : p.data.toList ≠ [] := by
  intro e
  unfold pathOk at h
  rw [Bool.and_eq_true, pieces_sl, e] at h
  have h2 : nameOk p = true := by simpa [sl] using h.2
  unfold nameOk at h2
  rw [Lib.toList_data, e] at h2
  simp at h2

/-- The paths of a list for which there is not the same file. -/
def othF (L M : List Fl) : List (List UInt8) := (L.filter fun f => !sameB (getF M (pth f)) f).map pth
theorem othF_snoc (L M : List Fl) (f : Fl) : othF (L ++ [f]) M = if sameB (getF M (pth f)) f = true then othF L M else othF L M ++ [pth f] := by
  unfold othF
  rw [List.filter_append, List.map_append]
  by_cases h : sameB (getF M (pth f)) f = true
  · rw [if_pos h]; simp [h]
  · rw [if_neg h]; simp [h]
theorem othF_len (L M : List Fl) : (othF L M).length ≤ L.length := by
  unfold othF
  rw [List.length_map]
  exact List.length_filter_le _ _
/-- The paths that differ, as the program finds them; and as the document does. -/
def difF (A C : List Fl) : List (List UInt8) := Lib.compact ((othF A C ++ othF C A).mergeSort fun x y => decide (x ≤ y))
def addAll (l : List (List UInt8)) : List (List UInt8) := l.foldl (fun r s => insN s r) []
theorem addAll_snoc (l : List (List UInt8)) (s : List UInt8) : addAll (l ++ [s]) = insN s (addAll l) := by simp [addAll, List.foldl_append]
theorem addAll_up (l : List (List UInt8)) : (addAll l).Pairwise (· < ·) := by
  refine snocInd (P := fun l => (addAll l).Pairwise (· < ·)) .nil (fun l a ih => ?_) l
  rw [addAll_snoc]
  exact insN_up a _ ih
theorem addAll_mem (l : List (List UInt8)) (x : List UInt8) : x ∈ addAll l ↔ x ∈ l := by
  refine snocInd (P := fun l => x ∈ addAll l ↔ x ∈ l) (by simp [addAll]) (fun l a ih => ?_) l
  rw [addAll_snoc, insN_mem, ih, List.mem_append, List.mem_singleton]
  exact or_comm
theorem addAll_len (l : List (List UInt8)) : (addAll l).length ≤ l.length := by
  refine snocInd (P := fun l => (addAll l).length ≤ l.length) (by simp [addAll]) (fun l a ih => ?_) l
  rw [addAll_snoc, List.length_append]
  have := insN_len a (addAll l)
  simp
  omega
theorem rise_uniq {a b : List (List UInt8)} (ha : a.Pairwise (· < ·)) (hb : b.Pairwise (· < ·)) (h : ∀ x, x ∈ a ↔ x ∈ b) : a = b := by
  have na : a.Nodup := ha.imp fun h e => by rw [e] at h; exact List.lt_irrefl _ h
  have nb : b.Nodup := hb.imp fun h e => by rw [e] at h; exact List.lt_irrefl _ h
  refine List.Perm.eq_of_pairwise (le := fun x y => x ≤ y) (fun x y _ _ h1 h2 => List.le_antisymm h1 h2) (ha.imp fun h => List.le_of_lt h) (hb.imp fun h => List.le_of_lt h) ((List.perm_ext_iff_of_nodup na nb).2 h)
theorem compact_up (l : List (List UInt8)) (h : l.Pairwise (· ≤ ·)) : (Lib.compact l).Pairwise (· < ·) := by
  unfold Lib.compact Lib.compactUpTo
  rw [List.pairwise_map]
  have hr : ((List.range l.length).filter (Lib.keeps l.toArray)).Pairwise (· < ·) := List.Pairwise.filter _ List.pairwise_lt_range
  refine List.Pairwise.imp_of_mem (fun {i j} hi hj hij => ?_) hr
  rw [List.mem_filter, List.mem_range] at hi hj
  have hk := hj.2
  unfold Lib.keeps at hk
  rw [decide_eq_true_eq] at hk
  have hj0 : j ≠ 0 := by omega
  have hne : l.toArray[j]! ≠ l.toArray[j - 1]! := by
    rcases hk with h | h
    · exact absurd h hj0
    · exact h
  have g : ∀ x (hx : x < l.length), l.toArray[x]! = l[x] := fun x hx => by
    rw [getElem!_pos l.toArray x (by simpa using hx)]
    simp
  rw [g j hj.1, g (j - 1) (by omega)] at hne
  rw [g i hi.1, g j hj.1]
  have hp := List.pairwise_iff_getElem.1 h
  have h1 : l[j - 1] ≤ l[j] := hp (j - 1) j (by omega) hj.1 (by omega)
  have h2 : l[i] ≤ l[j - 1] := by
    rcases Nat.lt_or_ge i (j - 1) with h3 | h3
    · exact hp i (j - 1) hi.1 (by omega) h3
    · have e : i = j - 1 := by omega
      subst e
      exact List.le_refl _
  rcases Decidable.em (l[i] < l[j]) with h3 | h3
  · exact h3
  · exfalso
    have h4 := List.not_lt.1 h3
    exact hne (List.le_antisymm (List.le_trans h4 h2) h1)
theorem dif_same (A C : List Fl) : difF A C = addAll (othF A C ++ othF C A) := by
  unfold difF
  refine rise_uniq (compact_up _ ?_) (addAll_up _) fun x => ?_
  · have := List.pairwise_mergeSort (le := fun x y : List UInt8 => decide (x ≤ y)) (fun a b c h1 h2 => by rw [decide_eq_true_eq] at *; exact List.le_trans h1 h2) (fun a b => by rw [Bool.or_eq_true, decide_eq_true_eq, decide_eq_true_eq]; exact List.le_total _ _) (othF A C ++ othF C A)
    exact this.imp fun h => by simpa using h
  · rw [mem_compact, List.mem_mergeSort, addAll_mem]
end Go.Proofs.YtkmlooepakinfaaGreatDoor

/- Differs. -/
namespace Go.Proofs.YtkmlooepakinfaaGreatDoor
open Go.RowKit Go.Shelf Go.Maps Go.WideMaps Go.Sort
attribute [local go_sem ↓] appS_eq

/-- The first error of two trees. -/
def erF (A C : List Fl) : Int := if chF A = 0 then chF C else chF A

set_option maxHeartbeats 4000000 in
set_option maxRecDepth 100000 in
theorem firstError_two (ao co : Option Addr) (ac cc : Nat) (A C : List Fl) (g : Nat) (w : World) (ha : IsFl w ao A) (hc : IsFl w co C) (hm : MaxIs w) (c0 : w.cell? ⟨g, 0, none⟩ = some (.slice ao A.length ac)) (c1 : w.cell? ⟨g, 1, none⟩ = some (.slice co C.length cc)) :
    Calls Tryz.prog 16 #[.slice (some ⟨g, 0, none⟩) 2 2] w fun e w' => e = .returned (.int .i64 (erF A C)) ∧ Below w.heap.size w w' := by
  have hg : g < w.heap.size := by simpa using World.block_lt_of_cell? w _ c0
  have HA : Hid (Calls Tryz.prog 9 #[.slice ao A.length ac] w fun e w' => e = .returned (.int .i64 (chF A)) ∧ Below w.heap.size w w') := Check_any ao ac A w ha hm
  have HC : Hid (∀ W, Below w.heap.size w W → Calls Tryz.prog 9 #[.slice co C.length cc] W fun e w' => e = .returned (.int .i64 (chF C)) ∧ Below W.heap.size W w') := fun W hW => Check_any co cc C W (hc.below hW (Nat.le_refl _)) (hm.up hW)
  clear ha hc hm
  unfold erF
  by_cases h1 : chF A = 0
  · rw [if_pos h1]
    rw [h1] at HA
    clear h1
    obtain ⟨c, hcc⟩ : ∃ c, chF C = c := ⟨_, rfl⟩
    rw [hcc] at HC ⊢
    clear hcc
    by_cases h2 : c = 0
    · subst h2
      go_enter Tryz.func16, Tryz.ntmps16
      go_wp2
      refine wp_loop_rounds 3 ?_
      rw [rounds_succ]
      go_wp2_with fail
      refine HA.out.mono ?_
      rintro e w1 ⟨rfl, hb1⟩
      have d1 := (hb1.cell (p := ⟨g, 1, none⟩) hg).trans c1
      have HB1 : Hid (Below w.heap.size w w1) := hb1
      clear hb1
      go_wp2
      rw [rounds_succ]
      go_wp2_with fail
      refine (HC.out _ HB1.out).mono ?_
      rintro e w2 ⟨rfl, hb2⟩
      have HB2 : Hid (Below w.heap.size w w2) := HB1.out.trans (hb2.mono HB1.out.size)
      clear hb2
      go_wp2
      rw [rounds_succ]
      go_wp2
      go_ret
      exact ⟨rfl, HB2.out⟩
    · have h2' : (c != 0) = true := by simpa using h2
      clear h2
      go_enter Tryz.func16, Tryz.ntmps16
      go_wp2
      refine wp_loop_rounds 2 ?_
      rw [rounds_succ]
      go_wp2_with fail
      refine HA.out.mono ?_
      rintro e w1 ⟨rfl, hb1⟩
      have d1 := (hb1.cell (p := ⟨g, 1, none⟩) hg).trans c1
      have HB1 : Hid (Below w.heap.size w w1) := hb1
      clear hb1
      go_wp2
      rw [rounds_succ]
      go_wp2_with fail
      refine (HC.out _ HB1.out).mono ?_
      rintro e w2 ⟨rfl, hb2⟩
      have HB2 : Hid (Below w.heap.size w w2) := HB1.out.trans (hb2.mono HB1.out.size)
      clear hb2
      go_wp2
      go_ret
      exact ⟨rfl, HB2.out⟩
  · rw [if_neg h1]
    obtain ⟨c, hcc⟩ : ∃ c, chF A = c := ⟨_, rfl⟩
    rw [hcc] at HA h1 ⊢
    have h1' : (c != 0) = true := by simpa using h1
    clear hcc h1 HC
    go_enter Tryz.func16, Tryz.ntmps16
    go_wp2
    refine wp_loop_rounds 1 ?_
    rw [rounds_succ]
    go_wp2_with fail
    refine HA.out.mono ?_
    rintro e w1 ⟨rfl, hb1⟩
    have HB1 : Hid (Below w.heap.size w w1) := hb1
    clear hb1
    go_wp2
    go_ret
    exact ⟨rfl, HB1.out⟩

theorem lookG {M n : Nat} {C : List Fl} {w : World} (hown : w.ownsMap Tryz.prog 9 fileE M n (byD C)) (hn : (C.map pth).Nodup) (s : ByteArray) (hs : s.size ≤ maxLen) :
    ∀ W : World, W.heap[M]? = w.heap[M]? → (Instr.lookup 44 (.map (some M)) (.string s) false).run Tryz.prog W = .ok (encF (getF C s.data.toList)) W := fun W hW => by
  obtain ⟨v, ps, hr, hv⟩ := (ownsMap_heap hown hW).lookup lawS Tryz.underlying44 (zeroF W) (fileE_mk zeroFl) (keyOf_string_mk Tryz.underlying9 hs)
  rw [getF_byD hn] at hv
  obtain ⟨f, rfl, hf⟩ := fileE_inv hv
  rw [fD_inj hf]
  exact hr

/-- One text more, at the end of a row. -/
theorem rowS_add {B : Nat} {l : List (List UInt8)} {v : Value} {w : World} (h : w.ownsRow B 9 1 v l.length (l.map encStr)) (hB : B ≤ w.heap.size) (s : ByteArray) (hl : l.length ≤ 1000000) :
    ∃ G C w', (appS #[30, 30] 30 #[v, .slice (some ⟨w.heap.size, 0, none⟩) 1 1]).run Tryz.prog (w.alloc (.cells #[.string s] 9)) = .ok (.slice (some ⟨G, 0, none⟩) (l.length + 1) C) w' ∧
      w'.ownsRow B 9 1 (.slice (some ⟨G, 0, none⟩) (l.length + 1) C) (l ++ [s.data.toList]).length ((l ++ [s.data.toList]).map encStr) ∧ Below B w w' := by
  obtain ⟨i0, hi, hz0, hz1, hz2⟩ := info_p infTx
  have hsz : (w.alloc (.cells #[.string s] 9)).heap.size = w.heap.size + 1 := World.size_alloc _ _
  have hr := h.alloc (.cells #[.string s] 9)
  obtain ⟨G, C, w', hrun, hrow, hgr, hat, hlt⟩ := run_append_lies (P := Tryz.prog) (w.alloc (.cells #[.string s] 9)) 30 30 B 9 i0 (.string ⟨#[]⟩) 1 16 Tryz.underlying30 hi hz0 hz1 hz2 rfl (by decide) v l.length (l.map encStr) hr ⟨w.heap.size, 0, none⟩ 1 1 [.string s] rfl (new_cells w _ _) (fun u hu => by rw [List.mem_singleton.1 hu]; rfl) (by decide) (by unfold maxLen; omega) (by omega) (by omega) (w.heap.size + 1) hsz
  refine ⟨G, C, w', hrun, ?_, ((Below.refl B w).alloc hB _).grown hgr (by omega) fun k hk => (hr.lt k hk).1⟩
  rw [List.length_append, List.map_append]
  simp only [List.map_cons, List.map_nil, encS]
  exact hrow

/-- How texts are answered. -/
def TxP (l : List (List UInt8)) (w : World) (e : Ending) (w' : World) : Prop := ∃ ao cap, e = .returned (.slice ao l.length cap) ∧ w'.ownsRow w.heap.size 9 1 (.slice ao l.length cap) l.length (l.map encStr) ∧ (l = [] → ao = none ∧ cap = 0) ∧ Below w.heap.size w w'

set_option maxHeartbeats 8000000 in
set_option maxRecDepth 100000 in
theorem others_any (ao : Option Addr) (ac : Nat) (A C : List Fl) (M n : Nat) (w : World) (hl : IsFl w ao A) (hA : A.length ≤ 60) (hs : ∀ f ∈ A, f.pa.size ≤ 100) (hown : w.ownsMap Tryz.prog 9 fileE M n (byD C)) (hn : (C.map pth).Nodup) :
    Calls Tryz.prog 22 #[.slice ao A.length ac, .map (some M)] w (TxP (othF A C) w) := by
  have HL : Hid (IsFl w ao A) := hl
  have HS : Hid (∀ f ∈ A, f.pa.size ≤ 100) := hs
  have HG : Hid (∀ (s : ByteArray), s.size ≤ maxLen → ∀ W : World, W.heap[M]? = w.heap[M]? → (Instr.lookup 44 (.map (some M)) (.string s) false).run Tryz.prog W = .ok (encF (getF C s.data.toList)) W) := fun s h => lookG hown hn s h
  have hMl := hown.lt
  have hn1 : (A.length : Int) ≤ 60 := by omega
  clear hl hs hown hn
  go_enter Tryz.func22, Tryz.ntmps22
  go_wp2
  go_loopw [5, 10] (fun ov i wr => ∃ k : Nat, k ≤ A.length ∧ i = .int .i64 k ∧ wr.ownsRow w.heap.size 9 1 ov (othF (A.take k) C).length ((othF (A.take k) C).map encStr) ∧ (othF (A.take k) C = [] → ov = .slice none 0 0) ∧ Below w.heap.size w wr) (fun _ i _ => A.length - (intOf i).toNat)
  case atStart => exact ⟨0, by omega, rfl, World.ownsRow_nil _ _ _ _, fun _ => rfl, Below.refl _ _⟩
  case round =>
    obtain ⟨k, hk, rfl, hrow, hnil, hb⟩ := hrel
    have hsz := hb.size
    have HB : Hid (Below w.heap.size w wr) := hb
    by_cases hlt : k < A.length
    · rcases HL.out.below hb (Nat.le_refl _) with h | ⟨g, o, rfl, hg, hc⟩
      · exfalso; rw [h] at hlt; exact absurd hlt (by simp)
      obtain ⟨c0, c1, c2⟩ := hc k hlt
      have htk : A.take (k + 1) = A.take k ++ [A[k]] := List.take_succ_eq_append_getElem hlt
      have hol := othF_len (A.take k) C
      have hkl : (A.take k).length ≤ 60 := by rw [List.length_take]; omega
      have HO : Hid (othF (A.take (k + 1)) C = if sameB (getF C (pth A[k])) A[k] = true then othF (A.take k) C else othF (A.take k) C ++ [pth A[k]]) := by
        show _ = _
        rw [htk, othF_snoc]
      have hp := HS.out _ (List.getElem_mem hlt)
      have HRow : Hid (wr.ownsRow w.heap.size 9 1 u5 (othF (A.take k) C).length ((othF (A.take k) C).map encStr)) := hrow
      have HNil : Hid (othF (A.take k) C = [] → u5 = .slice none 0 0) := hnil
      clear hc htk hnil
      generalize A[k] = x at *
      generalize othF (A.take k) C = U at *
      have hA1 : Below w.heap.size w (wr.alloc (.cells #[.string x.pa, .string x.tx, .bool x.rn] 25)) := hb.alloc hsz _
      have hAz : (wr.alloc (.cells #[.string x.pa, .string x.tx, .bool x.rn] 25)).heap.size = wr.heap.size + 1 := World.size_alloc _ _
      have hlk := HG.out x.pa (by unfold maxLen; omega) (wr.alloc (.cells #[.string x.pa, .string x.tx, .bool x.rn] 25)) ((Below.heap_alloc _ _ _ (by omega)).trans (hb.block M hMl))
      have hpe : x.pa.data.toList = pth x := rfl
      rw [hpe] at hlk
      have HR1 : Hid ((wr.alloc (.cells #[.string x.pa, .string x.tx, .bool x.rn] 25)).ownsRow w.heap.size 9 1 u5 U.length (U.map encStr)) := HRow.out.alloc _
      have HA1 : Hid (Below w.heap.size w (wr.alloc (.cells #[.string x.pa, .string x.tx, .bool x.rn] 25))) := hA1
      obtain ⟨G, Cp, w4, hap, hrow4, hb4⟩ := rowS_add (w := wr.alloc (.cells #[.string x.pa, .string x.tx, .bool x.rn] 25)) HR1.out (by omega) x.pa (by omega)
      rw [hAz] at hap
      have HR4 : Hid (w4.ownsRow w.heap.size 9 1 (.slice (some ⟨G, 0, none⟩) (U.length + 1) Cp) (U ++ [pth x]).length ((U ++ [pth x]).map encStr) ∧ Below w.heap.size w w4) := ⟨hrow4, HA1.out.trans hb4⟩
      generalize getF C (pth x) = y at *
      obtain ⟨yp, yt, yr⟩ := y
      unfold encF at hlk
      simp only at hlk
      clear hrow hb hA1 hAz hrow4 hb4 hpe
      by_cases hsame : sameB ⟨yp, yt, yr⟩ x = true
      · have e := (sameB_iff _ _).1 hsame
        rw [hsame, if_pos rfl] at HO
        subst e
        simp only at *
        clear hsame hap
        go_wp2
        refine ⟨⟨k + 1, by omega, by go_num, ?_, ?_, HA1.out⟩, by simp [intOf]; omega⟩
        · rw [HO.out]
          exact HR1.out
        · rw [HO.out]
          exact HNil.out
      · rw [if_neg hsame] at HO
        have hne : ¬ (⟨yp, yt, yr⟩ : Fl) = x := fun e => hsame ((sameB_iff _ _).2 e)
        obtain ⟨xp, xt, xr⟩ := x
        simp only at *
        clear hsame
        have fin : ∀ v : Value, v = .int .i64 ((k + 1 : Nat) : Int) → (∃ k' : Nat, k' ≤ A.length ∧ v = .int .i64 k' ∧ w4.ownsRow w.heap.size 9 1 (.slice (some ⟨G, 0, none⟩) (U.length + 1) Cp) (othF (A.take k') C).length ((othF (A.take k') C).map encStr) ∧ (othF (A.take k') C = [] → (Value.slice (some ⟨G, 0, none⟩) (U.length + 1) Cp) = .slice none 0 0) ∧ Below w.heap.size w w4) := fun v hv => by
          refine ⟨k + 1, by omega, hv, ?_, ?_, HR4.out.2⟩
          · rw [HO.out]
            exact HR4.out.1
          · rw [HO.out]
            intro e
            exact absurd e (by simp)
        have FIN : Hid (∀ v : Value, v = .int .i64 ((k + 1 : Nat) : Int) → (∃ k' : Nat, k' ≤ A.length ∧ v = .int .i64 k' ∧ w4.ownsRow w.heap.size 9 1 (.slice (some ⟨G, 0, none⟩) (U.length + 1) Cp) (othF (A.take k') C).length ((othF (A.take k') C).map encStr) ∧ (othF (A.take k') C = [] → (Value.slice (some ⟨G, 0, none⟩) (U.length + 1) Cp) = .slice none 0 0) ∧ Below w.heap.size w w4)) := fin
        clear fin
        by_cases h1 : yp.toList = xp.toList
        · obtain rfl := toL_inj h1
          by_cases h2 : yt.toList = xt.toList
          · obtain rfl := toL_inj h2
            have h3 : ¬ yr = xr := fun e => hne (by rw [e])
            have h3' : (yr == xr) = false := by simpa using h3
            clear h1 h2 hne
            go_wp2
            exact ⟨FIN.out _ (by go_num), by simp [intOf]; omega⟩
          · clear h1 hne
            go_wp2
            exact ⟨FIN.out _ (by go_num), by simp [intOf]; omega⟩
        · clear hne
          go_wp2
          exact ⟨FIN.out _ (by go_num), by simp [intOf]; omega⟩
    · obtain rfl : k = A.length := by omega
      have hki : ¬ (A.length : Int) < (A.length : Int) := by omega
      rw [List.take_length] at hrow hnil
      obtain ⟨oa, oc, rfl⟩ := own_shape hrow
      have HF : Hid (wr.ownsRow w.heap.size 9 1 (.slice oa (othF A C).length oc) (othF A C).length ((othF A C).map encStr) ∧ (othF A C = [] → oa = none ∧ oc = 0)) := ⟨hrow, fun e => by
        have := hnil e
        injection this with h1 _ h3
        exact ⟨h1, h3⟩⟩
      clear hrow hnil hb
      go_wp2
      go_ret
      exact ⟨oa, oc, rfl, HF.out.1, HF.out.2, HB.out⟩
end Go.Proofs.YtkmlooepakinfaaGreatDoor

/- Differs, whole. -/
namespace Go.Proofs.YtkmlooepakinfaaGreatDoor
open Go.RowKit Go.Shelf Go.Maps Go.WideMaps Go.Sort
attribute [local go_sem ↓] appS_eq

theorem ok_nodup {L : List Fl} (h : chF L = 0) : (L.map pth).Nodup := by
  have h1 := (fit_iff L).1 (okT_of h).2.2
  rw [Bool.and_eq_true] at h1
  exact up_nodup h1.1
theorem ok_paths {L : List Fl} (h : okT L) : ∀ f ∈ L, f.pa.size ≤ 100 := fun f hf => pathOk_size (flE_pa (h.2.1 f hf)).1

theorem app_none (W : World) : (appS #[30, 30] 30 #[.slice none 0 0, .slice none 0 0]).run Tryz.prog W = .ok (.slice none 0 0) W := by
  obtain ⟨i0, hi, hz0, hz1, hz2⟩ := info_parts infTx
  show (Builtin.append_ #[30, 30] 30 #[.slice none 0 0, .slice none 0 0]).run Tryz.prog W = _
  simp [Builtin.append_, run_underlying Tryz.underlying30, sizeOf, typeInfo, hi, Builtin.lenOf, Builtin.firstCells]

/-- Two rows, the one behind the other. -/
theorem app_rows {B : Nat} {U V : List (List UInt8)} {a1 a2 : Option Addr} {c1 c2 : Nat} {w : World} (h1 : w.ownsRow B 9 1 (.slice a1 U.length c1) U.length (U.map encStr)) (n1 : U = [] → a1 = none ∧ c1 = 0) (h2 : w.ownsRow B 9 1 (.slice a2 V.length c2) V.length (V.map encStr)) (n2 : V = [] → a2 = none ∧ c2 = 0) (hB : B ≤ w.heap.size) (hu : U.length ≤ 1000000) (hv : V.length ≤ 1000000) :
    ∃ oa oc w', (appS #[30, 30] 30 #[.slice a1 U.length c1, .slice a2 V.length c2]).run Tryz.prog w = .ok (.slice oa (U ++ V).length oc) w' ∧
      w'.ownsRow B 9 1 (.slice oa (U ++ V).length oc) (U ++ V).length ((U ++ V).map encStr) ∧ (U ++ V = [] → oa = none ∧ oc = 0) ∧ Below B w w' := by
  rcases Nat.eq_zero_or_pos V.length with hV | hV
  · obtain rfl := List.length_eq_zero_iff.1 hV
    obtain ⟨rfl, rfl⟩ := n2 rfl
    rw [List.append_nil]
    rcases Nat.eq_zero_or_pos U.length with hU | hU
    · obtain rfl := List.length_eq_zero_iff.1 hU
      obtain ⟨rfl, rfl⟩ := n1 rfl
      exact ⟨none, 0, w, app_none w, h1, fun _ => ⟨rfl, rfl⟩, Below.refl _ _⟩
    · obtain ⟨g, cap, hf, hg1, hg2⟩ := h1.form hU
      injection hf with e1 _ e2
      subst e1 e2
      have hcap : U.length ≤ c1 := by
        rcases h1.2 with ⟨e, _⟩ | ⟨g', cap', cur, e, _, _, hle, _⟩
        · cases e
        · cases e; exact hle
      exact ⟨_, _, w, app_empty g U.length c1 hcap w, h1, fun e => by rw [e] at hU; exact absurd hU (by simp), Below.refl _ _⟩
  · obtain ⟨g, cap, hf, hg1, hg2⟩ := h2.form hV
    injection hf with e1 _ e2
    subst e1 e2
    obtain ⟨i0, hi, hz0, hz1, hz2⟩ := info_parts infTx
    have hsrc : ∀ j u, (V.map encStr)[j]? = some u → w.cell? ((⟨g, 0, none⟩ : Addr).add j) = some u := h2.cells rfl
    obtain ⟨v', w', hrun, hown, hgr, _, _⟩ := run_append_own (P := Tryz.prog) w B 30 30 9 i0 (.string ⟨#[]⟩) 1 16 Tryz.underlying30 hi hz0 hz1 hz2 rfl (by decide) (.slice a1 U.length c1) U.length (U.map encStr) h1 ⟨g, 0, none⟩ V.length c2 (V.map encStr) (by simp) hsrc (fun u hu => by obtain ⟨x, _, rfl⟩ := List.mem_map.1 hu; rfl) (by unfold maxLen; omega) (by omega) hB
    have e3 : U.length + V.length = (U ++ V).length := by simp
    rw [e3, ← List.map_append] at hown
    obtain ⟨oa, oc, rfl⟩ := own_shape hown
    exact ⟨oa, oc, w', hrun, hown, fun e => by
      have h9 := congrArg List.length e
      rw [List.length_append, List.length_nil] at h9
      omega, (Below.refl B w).grown hgr hB fun k hk => (h1.lt k hk).1⟩

/-- What Differs answers. -/
def dfL (A C : List Fl) : List (List UInt8) := if erF A C = 0 then difF A C else []
def DfP (A C : List Fl) (w : World) (e : Ending) (w' : World) : Prop := ∃ ao cap, e = .returned (.tuple #[.slice ao (dfL A C).length cap, .int .i64 (erF A C)]) ∧ w'.ownsRow w.heap.size 9 1 (.slice ao (dfL A C).length cap) (dfL A C).length ((dfL A C).map encStr) ∧ Below w.heap.size w w'

/-- Sorting a row and taking each once, whatever the row. -/
theorem sort_any {B : Nat} {D : List (List UInt8)} {oa : Option Addr} {oc : Nat} {w : World} (h : w.ownsRow B 9 1 (.slice oa D.length oc) D.length (D.map encStr)) (hn : D.length ≤ 1000000) (hB : B ≤ w.heap.size) :
    Calls Tryz.prog 23 #[.slice oa D.length oc] w fun e w' => e = .returned (.tuple #[]) ∧ w'.ownsRow B 9 1 (.slice oa D.length oc) D.length ((D.mergeSort fun x y => decide (x ≤ y)).map encStr) ∧ Below B w w' := by
  rcases Nat.eq_zero_or_pos D.length with hD | hD
  · obtain rfl := List.length_eq_zero_iff.1 hD
    refine (sortS_none oa oc w).mono ?_
    rintro e w' ⟨rfl, rfl⟩
    exact ⟨rfl, by rw [List.mergeSort_nil]; exact h, Below.refl _ _⟩
  · obtain ⟨g, cap, hf, hg1, hg2⟩ := h.form hD
    injection hf with e1 _ e2
    subst e1 e2
    refine (sort_row D h hn).mono ?_
    rintro e w' ⟨rfl, h1, h2⟩
    exact ⟨rfl, h1, (Below.refl B w).grown h2 hB fun k hk => by injection hk with hk; omega⟩
theorem comp_any {B : Nat} {D : List (List UInt8)} {oa : Option Addr} {oc : Nat} {w : World} (h : w.ownsRow B 9 1 (.slice oa D.length oc) D.length (D.map encStr)) (hn : D.length ≤ 1000000) (hB : B ≤ w.heap.size) :
    Calls Tryz.prog 24 #[.slice oa D.length oc] w fun e w' => e = .returned (.slice oa (Lib.compact D).length oc) ∧ w'.ownsRow B 9 1 (.slice oa (Lib.compact D).length oc) (Lib.compact D).length ((Lib.compact D).map encStr) ∧ Below B w w' := by
  rcases Nat.eq_zero_or_pos D.length with hD | hD
  · obtain rfl := List.length_eq_zero_iff.1 hD
    refine (Any.slices_Compact_string_empty laysComp oa oc w).mono ?_
    rintro e w' ⟨rfl, rfl⟩
    exact ⟨rfl, h, Below.refl _ _⟩
  · obtain ⟨g, cap, hf, hg1, hg2⟩ := h.form hD
    injection hf with e1 _ e2
    subst e1 e2
    refine (comp_row D h hn).mono ?_
    rintro e w' ⟨rfl, h1, h2⟩
    exact ⟨rfl, h1, (Below.refl B w).grown h2 hB fun k hk => by injection hk with hk; omega⟩

theorem erF_zero {A C : List Fl} (h : erF A C = 0) : chF A = 0 ∧ chF C = 0 := by
  unfold erF at h
  by_cases h1 : chF A = 0
  · rw [if_pos h1] at h; exact ⟨h1, h⟩
  · rw [if_neg h1] at h; exact absurd h h1

set_option maxHeartbeats 8000000 in
set_option maxRecDepth 100000 in
theorem Differs_any (ao co : Option Addr) (ac cc : Nat) (A C : List Fl) (w : World) (ha : IsFl w ao A) (hc : IsFl w co C) (hm : MaxIs w) :
    Calls Tryz.prog 7 #[.slice ao A.length ac, .slice co C.length cc] w (DfP A C w) := by
  have HF : Hid (∀ (g : Nat) (W : World), Below w.heap.size w W → W.cell? ⟨g, 0, none⟩ = some (.slice ao A.length ac) → W.cell? ⟨g, 1, none⟩ = some (.slice co C.length cc) → Calls Tryz.prog 16 #[.slice (some ⟨g, 0, none⟩) 2 2] W fun e w' => e = .returned (.int .i64 (erF A C)) ∧ Below W.heap.size W w') := fun g W hW c0 c1 => firstError_two ao co ac cc A C g W (ha.below hW (Nat.le_refl _)) (hc.below hW (Nat.le_refl _)) (hm.up hW) c0 c1
  have hAb : Below w.heap.size w (w.alloc (.cells #[.slice ao A.length ac, .slice co C.length cc] 22)) := (Below.refl _ w).alloc (Nat.le_refl _) _
  have HF1 : Hid (Calls Tryz.prog 16 #[.slice (some ⟨w.heap.size, 0, none⟩) 2 2] (w.alloc (.cells #[.slice ao A.length ac, .slice co C.length cc] 22)) fun e w' => e = .returned (.int .i64 (erF A C)) ∧ Below w.heap.size w w') := by
    refine (HF.out w.heap.size _ hAb (al_at w _ _ _ 0 _ rfl rfl) (al_at w _ _ _ 1 _ rfl rfl)).mono ?_
    rintro e w' ⟨rfl, hb⟩
    exact ⟨rfl, hAb.trans (hb.mono hAb.size)⟩
  clear HF hAb
  by_cases h0 : erF A C = 0
  · obtain ⟨hA, hC⟩ := erF_zero h0
    have oA := okT_of hA
    have oC := okT_of hC
    have pA := ok_paths oA
    have pC := ok_paths oC
    have HE : Hid (erF A C = 0) := h0
    rw [h0] at HF1
    have HBA : Hid (∀ W, Below w.heap.size w W → Calls Tryz.prog 17 #[.slice ao A.length ac] W fun e w' => e = .returned (.map (some W.heap.size)) ∧ w'.ownsMap Tryz.prog 9 fileE W.heap.size A.length (byD A) ∧ Below W.heap.size W w') := fun W hW => byPath_any ao ac A W (by have := oA.1; omega) (ha.below hW (Nat.le_refl _)) (fun f hf => by have := pA f hf; unfold maxLen; omega)
    have HBC : Hid (∀ W, Below w.heap.size w W → Calls Tryz.prog 17 #[.slice co C.length cc] W fun e w' => e = .returned (.map (some W.heap.size)) ∧ w'.ownsMap Tryz.prog 9 fileE W.heap.size C.length (byD C) ∧ Below W.heap.size W w') := fun W hW => byPath_any co cc C W (by have := oC.1; omega) (hc.below hW (Nat.le_refl _)) (fun f hf => by have := pC f hf; unfold maxLen; omega)
    have HOA : Hid (∀ M n W, Below w.heap.size w W → W.ownsMap Tryz.prog 9 fileE M n (byD C) → Calls Tryz.prog 22 #[.slice ao A.length ac, .map (some M)] W (TxP (othF A C) W)) := fun M n W hW hM => others_any ao ac A C M n W (ha.below hW (Nat.le_refl _)) oA.1 pA hM (ok_nodup hC)
    have HOC : Hid (∀ M n W, Below w.heap.size w W → W.ownsMap Tryz.prog 9 fileE M n (byD A) → Calls Tryz.prog 22 #[.slice co C.length cc, .map (some M)] W (TxP (othF C A) W)) := fun M n W hW hM => others_any co cc C A M n W (hc.below hW (Nat.le_refl _)) oC.1 pC hM (ok_nodup hA)
    have HL : Hid ((othF A C).length ≤ 60 ∧ (othF C A).length ≤ 60) := ⟨Nat.le_trans (othF_len A C) oA.1, Nat.le_trans (othF_len C A) oC.1⟩
    clear ha hc hm hA hC oA oC pA pC h0
    go_enter Tryz.func7, Tryz.ntmps7
    go_wp2_with fail
    refine HF1.out.mono ?_
    rintro e w1 ⟨rfl, hb1⟩
    have HB1 : Hid (Below w.heap.size w w1) := hb1
    clear hb1 HF1
    go_wp2_with fail
    refine (HBC.out _ HB1.out).mono ?_
    rintro e w2 ⟨rfl, hm2, hb2⟩
    have HM2 : Hid (w2.ownsMap Tryz.prog 9 fileE w1.heap.size C.length (byD C)) := hm2
    have HB2 : Hid (Below w.heap.size w w2) := HB1.out.trans (hb2.mono HB1.out.size)
    clear hm2 hb2 HBC
    go_wp2_with fail
    refine (HOA.out _ _ _ HB2.out HM2.out).mono ?_
    rintro e w3 ⟨ua, uc, rfl, hu3, hn3, hb3⟩
    have HB3 : Hid (Below w.heap.size w w3) := HB2.out.trans (hb3.mono HB2.out.size)
    have HU3 : Hid (w3.ownsRow w.heap.size 9 1 (.slice ua (othF A C).length uc) (othF A C).length ((othF A C).map encStr) ∧ (othF A C = [] → ua = none ∧ uc = 0)) := ⟨own_mono hu3 HB2.out.size, hn3⟩
    clear hu3 hn3 hb3 HOA HM2
    go_wp2_with fail
    refine (HBA.out _ HB3.out).mono ?_
    rintro e w4 ⟨rfl, hm4, hb4⟩
    have HM4 : Hid (w4.ownsMap Tryz.prog 9 fileE w3.heap.size A.length (byD A)) := hm4
    have HB4 : Hid (Below w.heap.size w w4) := HB3.out.trans (hb4.mono HB3.out.size)
    have HU4 : Hid (w4.ownsRow w.heap.size 9 1 (.slice ua (othF A C).length uc) (othF A C).length ((othF A C).map encStr)) := row_heap HU3.out.1 fun b hb => hb4.block b (HU3.out.1.lt b hb).2
    clear hm4 hb4 HBA
    go_wp2_with fail
    refine (HOC.out _ _ _ HB4.out HM4.out).mono ?_
    rintro e w5 ⟨va, vc, rfl, hv5, hn5, hb5⟩
    have HB5 : Hid (Below w.heap.size w w5) := HB4.out.trans (hb5.mono HB4.out.size)
    obtain ⟨da, dc, w6, hap, hd6, hnd6, hb6⟩ := app_rows (row_heap HU4.out fun b hb => hb5.block b (HU4.out.lt b hb).2) HU3.out.2 (own_mono hv5 HB4.out.size) hn5 HB5.out.size (by have := HL.out.1; omega) (by have := HL.out.2; omega)
    have HD6 : Hid (w6.ownsRow w.heap.size 9 1 (.slice da (othF A C ++ othF C A).length dc) (othF A C ++ othF C A).length ((othF A C ++ othF C A).map encStr)) := hd6
    have HB6 : Hid (Below w.heap.size w w6) := HB5.out.trans hb6
    have HDl : Hid ((othF A C ++ othF C A).length ≤ 1000000) := by
      show _ ≤ _
      rw [List.length_append]
      have := HL.out
      omega
    have HDf : Hid (dfL A C = Lib.compact ((othF A C ++ othF C A).mergeSort fun x y => decide (x ≤ y))) := by
      show _ = _
      unfold dfL
      rw [if_pos HE.out]
      rfl
    clear hv5 hn5 hb5 hd6 hnd6 hb6 HOC HM4 HU3 HU4 HL HB3 HB4 HB5
    generalize othF A C ++ othF C A = D at *
    go_wp2_with fail
    refine (sort_any HD6.out HDl.out HB6.out.size).mono ?_
    rintro e w7 ⟨rfl, hd7, hb7⟩
    have hl7 : D.length = (D.mergeSort fun x y => decide (x ≤ y)).length := by simp
    have HB7 : Hid (Below w.heap.size w w7) := HB6.out.trans hb7
    have hC := comp_any (D := D.mergeSort fun x y => decide (x ≤ y)) (oa := da) (oc := dc) (w := w7) (by rw [← hl7]; exact hd7) (by rw [← hl7]; exact HDl.out) HB7.out.size
    rw [← HDf.out, ← hl7] at hC
    have HCo : Hid (Calls Tryz.prog 24 #[.slice da D.length dc] w7 fun e w' => e = .returned (.slice da (dfL A C).length dc) ∧ w'.ownsRow w.heap.size 9 1 (.slice da (dfL A C).length dc) (dfL A C).length ((dfL A C).map encStr) ∧ Below w.heap.size w7 w') := hC
    clear hd7 hb7 hl7 hC hap
    go_wp2_with fail
    refine HCo.out.mono ?_
    rintro e w8 ⟨rfl, hd8, hb8⟩
    have HD8 : Hid (w8.ownsRow w.heap.size 9 1 (.slice da (dfL A C).length dc) (dfL A C).length ((dfL A C).map encStr) ∧ Below w.heap.size w w8) := ⟨hd8, HB7.out.trans hb8⟩
    clear hd8 hb8
    go_wp2
    refine bodyPost_ret (v := .tuple #[.slice da (dfL A C).length dc, .int .i64 0]) (by simp [results, Tryz.results7, go_sem]) rfl ?_
    exact ⟨_, _, by rw [HE.out], HD8.out.1, HD8.out.2⟩
  · have hd : dfL A C = [] := by unfold dfL; rw [if_neg h0]
    have HD : Hid (dfL A C = []) := hd
    obtain ⟨c, hcc⟩ : ∃ c, erF A C = c := ⟨_, rfl⟩
    have HCE : Hid (erF A C = c) := hcc
    rw [hcc] at HF1 h0
    have h0' : (c != 0) = true := by simpa using h0
    clear h0 hcc hd ha hc hm
    go_enter Tryz.func7, Tryz.ntmps7
    go_wp2_with fail
    refine HF1.out.mono ?_
    rintro e w1 ⟨rfl, hb1⟩
    have HB : Hid (Below w.heap.size w w1) := hb1
    clear hb1
    go_wp2
    refine bodyPost_ret (v := .tuple #[.slice none 0 0, .int .i64 c]) (by simp [results, Tryz.results7, go_sem]) rfl ?_
    exact ⟨none, 0, by rw [HCE.out, HD.out]; rfl, by rw [HD.out]; exact World.ownsRow_nil _ _ _ _, HB.out⟩
end Go.Proofs.YtkmlooepakinfaaGreatDoor

/- maps.Clone: the contract of the shelf, laid at this program (by wip/trlay2.py). -/
namespace Go.Proofs.YtkmlooepakinfaaGreatDoor
open Go.RowKit Go.Maps Go.Shelf

def cloneF_ren : Go.Shelf.Ren := ⟨fun | 5 => 38 | 7 => 64 | n => n, fun | 23 => 44 | 25 => 9 | 3 => 25 | 4 => 4 | 20 => 20 | n => n, fun | n => n⟩
theorem cloneF : Go.Proofs.SlLaysW.n5 Tryz.prog cloneF_ren := {
  mixed := by kernel_rfl
  f5 := ⟨Tryz.f38.name, by decide, Tryz.func38.trans (congrArg some (by kernel_rfl))⟩
  f7 := Tryz.func64.trans (congrArg some (by kernel_rfl))
  t4 := Tryz.underlying4
  a4 := Tryz.isAgg4
  z4 := Tryz.sizeOf4
  v4 := Tryz.zeroValue4
  t20 := Tryz.underlying20
  a20 := Tryz.isAgg20
  z20 := Tryz.sizeOf20
  v20 := Tryz.zeroValue20
  t23 := Tryz.underlying44
  a23 := Tryz.isAgg44
  z23 := Tryz.sizeOf44
  v23 := Tryz.zeroValue44 }

theorem cloneF_any {H : Type} (k : TypeId) (R : Value → Option (DataW H × List MemPlace)) (b n : Nat) (D : DataW H) (w : World) (hown : w.ownsMap Tryz.prog k R b n D) :
    Calls Tryz.prog 38 #[.map (some b)] w fun e w' => e = .returned (.map (some w.heap.size)) ∧ w'.ownsMap Tryz.prog k R w.heap.size n D ∧ w'.ownsMap Tryz.prog k R b n D ∧ Below w.heap.size w w' :=
  AnyW.maps_Clone_owns cloneF k R b n D w hown
end Go.Proofs.YtkmlooepakinfaaGreatDoor

/- maps.Copy of files by their paths. -/
namespace Go.Proofs.YtkmlooepakinfaaGreatDoor
open Go.RowKit Go.Shelf Go.Maps Go.WideMaps Go.Sort

theorem invKF : ∀ key kl, keyOf Tryz.prog 9 key = some kl → ∃ x : List UInt8, key = encStr x := fun key kl hk => by
  obtain ⟨x, hx, _⟩ := Maps.keyOf_str Tryz.underlying9 hk
  exact ⟨x, hx⟩
theorem invVF : ∀ (v : Value) (y : DataW Unit × List MemPlace), fileE v = some y → ∃ f : Fl, v = encF f := fun v y hv => by
  obtain ⟨d, ps⟩ := y
  obtain ⟨f, hf, _⟩ := fileE_inv hv
  exact ⟨f, hf⟩
theorem encF_inj {f g : Fl} (h : encF f = encF g) : f = g := by
  have h1 := fileE_mk f
  rw [h, fileE_mk g] at h1
  injection h1 with h1
  injection h1 with h1 _
  exact (fD_inj h1).symm

/-- What both maps hold, the second ahead. -/
def BothD (D Dd Ds : DataW Unit) : Prop := (∀ k, Maps.has D k = (Maps.has Dd k || Maps.has Ds k)) ∧ ∀ k z, D.atKey k z = if Maps.has Ds k = true then Ds.atKey k z else Dd.atKey k z

set_option maxHeartbeats 8000000 in
set_option maxRecDepth 100000 in
theorem Copy_any (bd bs nd ns : Nat) (Dd Ds : DataW Unit) (w : World) (hd : w.ownsMap Tryz.prog 9 fileE bd nd Dd) (hs : w.ownsMap Tryz.prog 9 fileE bs ns Ds) (hne : bd ≠ bs) (hroom : nd + Maps.size Ds ≤ maxLen) :
    Calls Tryz.prog 39 #[.map (some bd), .map (some bs)] w fun e w' => e = .returned (.tuple #[]) ∧ (∃ D, w'.ownsMap Tryz.prog 9 fileE bd (nd + Maps.size Ds) D ∧ BothD D Dd Ds) ∧ w.grownBy w' (some bd) := by
  have hbd := hd.lt
  have hbs := hs.lt
  go_enter Tryz.func39, Tryz.ntmps39
  go_wp2_with (first
    | (at_range; refine wpList_range_own _ rfl _ 44 rfl 9 25 lawS Tryz.underlying44 fileE bs ns _ rfl hs ?_; intro w0 hrg0 hg0 hs0)
    | go_in)
  go_frame
  have H0 : Hid (w0.ranges Tryz.prog 9 fileE bs w.heap.size ns Ds (Maps.has Ds) (Maps.size Ds) ∧ w.grownBy w0 none ∧ w0.ownsMap Tryz.prog 9 fileE bd nd Dd) := ⟨hrg0, hg0, hd.kept hg0 (by simp)⟩
  clear hrg0 hg0 hs0
  go_loopw [8] (fun _ wr => ∃ (left : Lit → Bool) (cnt : Nat) (Dout : DataW Unit), Hid (wr.ranges Tryz.prog 9 fileE bs w.heap.size ns Ds left cnt ∧ cnt ≤ Maps.size Ds ∧ wr.ownsMap Tryz.prog 9 fileE bd (nd + (Maps.size Ds - cnt)) Dout ∧ Merged Dout Dd Ds left ∧ w.grownBy wr (some bd))) (fun _ wr => wr.rangeLeft bs w.heap.size)
  case atStart =>
    exact ⟨_, _, Dd, H0.out.1, Nat.le_refl _, H0.out.2.2.mono (by omega), merged_start Dd Ds, H0.out.2.1.but _⟩
  case round =>
    obtain ⟨left, cnt, Dout, HI⟩ := hrel
    have hrg := HI.out.1
    go_wp2_with (first
      | (at_next; refine wpList_next_ranges _ rfl _ rfl 9 lawS fileE encStr encF invKF invVF bs w.heap.size ns _ _ _ rfl hrg ?_ ?_)
      | go_in)
    · intro hc0 hl0
      have HB : Hid (BothD Dout Dd Ds) := ⟨fun k => by have := HI.out.2.2.2.1.1 k; rw [hl0] at this; simpa using this, fun k z => by have := HI.out.2.2.2.1.2 k z; rw [hl0] at this; simpa using this⟩
      have HO : Hid (wr.ownsMap Tryz.prog 9 fileE bd (nd + Maps.size Ds) Dout ∧ w.grownBy wr (some bd)) := ⟨HI.out.2.2.1.mono (by omega), HI.out.2.2.2.2⟩
      clear hc0 hl0 hrg
      go_wp2
      go_end0
      exact ⟨rfl, ⟨_, HO.out.1, HB.out⟩, HO.out.2⟩
    · intro x f kl yd yp w1 cnt1 hkey hlx hv hat hrg1 hlt hg1 hs1 hen
      obtain ⟨x', ex, rfl, _⟩ := Maps.keyOf_str Tryz.underlying9 hkey
      obtain rfl : x = x' := encStr_inj ex
      have hsz1 : w.heap.size ≤ wr.heap.size := HI.out.2.2.2.2.size
      have hout1 : w1.ownsMap Tryz.prog 9 fileE bd (nd + (Maps.size Ds - cnt)) Dout := HI.out.2.2.1.kept hg1 (fun e => by have := Option.some.inj e; omega)
      obtain ⟨p, t, r⟩ := f
      have hA : w1.grownBy (w1.alloc (.cells #[.string p, .string t, .bool r] 25)) none := World.grownBy_alloc _ _ _
      have hout2 : (w1.alloc (.cells #[.string p, .string t, .bool r] 25)).ownsMap Tryz.prog 9 fileE bd (nd + (Maps.size Ds - cnt)) Dout := hout1.kept hA (by simp)
      have hcs := HI.out.2.1
      have H1 : Hid (w1.ranges Tryz.prog 9 fileE bs w.heap.size ns Ds (fun z => left z && !z.sameKey (.string x)) cnt1 ∧ cnt1 < cnt ∧ wr.grownBy w1 (some w.heap.size)) := ⟨hrg1, hlt, hg1⟩
      have HAt : Hid (∀ zd, Ds.atKey (.string x) zd = yd) := hat
      unfold encF at hen hv
      simp only at hen hv
      clear hrg hrg1 hg1 hs1 hlx ex hat hout1 hA
      go_wp2_with (first
        | (at_mapUpdate; refine wpList_mapUpdate_own _ rfl _ _ _ 44 rfl 9 25 lawS Tryz.underlying44 fileE bd _ _ rfl hout2 (by omega) _ _ _ rfl rfl hkey yd yp hv ?_; intro w2 hout3 hg2; go_frame)
        | go_in)
      have hA : w1.grownBy (w1.alloc (.cells #[.string p, .string t, .bool r] 25)) none := World.grownBy_alloc _ _ _
      have hbw : bd < w.heap.size := hbd
      have hrg2 := (H1.out.1.kept hA (fun e => by cases e) (fun e => by cases e)).kept hg2 (fun e => hne (Option.some.inj e).symm) (fun e => by have := Option.some.inj e; omega)
      have hg : w.grownBy w2 (some bd) := ((HI.out.2.2.2.2.andThen H1.out.2.2 (fun j hj => .inl (by cases hj; exact Nat.le_refl _))).andThen hA (fun j hj => by cases hj)).andThen hg2 (fun j hj => .inr hj)
      have hl1 := H1.out.2.1
      refine ⟨⟨_, cnt1, _, hrg2, by omega, hout3.mono (by omega), merged_step HI.out.2.2.2.1 hout2.isMap (lawS.key hkey) HAt.out, hg⟩, ?_⟩
      rw [hrg2.left_eq, HI.out.1.left_eq]
      exact hl1
end Go.Proofs.YtkmlooepakinfaaGreatDoor

/- The files of a map, collected. -/
namespace Go.Proofs.YtkmlooepakinfaaGreatDoor
open Go.RowKit Go.Shelf Go.Maps Go.WideMaps Go.Sort

/-- All files of a map have come, each once. -/
def AllF (D : DataW Unit) (F : List Fl) : Prop := ∃ ks : List (List UInt8), ks.length = F.length ∧ ks.Nodup ∧ (∀ x, x ∈ ks ↔ Maps.has D (.string x) = true) ∧ ∀ (j : Nat) (h1 : j < ks.length) (h2 : j < F.length), ∀ z, D.atKey (.string ks[j]) z = fD F[j]

set_option maxRecDepth 100000 in
set_option maxHeartbeats 4000000 in
theorem values1 (F : Fence) (n : Nat) (hf : F.fn 66) (hro : F.round = none) (hn : 1 ≤ n) (Bm b nn : Nat) (D0 : DataW Unit) (w : World) (hBm : Bm < w.heap.size) (hm : w.cell? ⟨Bm, 0, none⟩ = some (.map (some b))) (hown : w.ownsMap Tryz.prog 9 fileE b nn D0) :
    SeqStopsK F n Tryz.prog 66 #[.pointer (some ⟨Bm, 0, none⟩)] (fun f : Fl => #[encF f]) KeepsWalks (AllF D0) (fun _ => True) (Maps.size D0) w := by
  intro l J Jx W hW hJ hJx hY h0
  have hmW : W.cell? ⟨Bm, 0, none⟩ = some (.map (some b)) := (hW.cell (p := ⟨Bm, 0, none⟩) hBm).trans hm
  have hownW : W.ownsMap Tryz.prog 9 fileE b nn D0 := ownsMap_heap hown (hW.block b hown.lt)
  clear hm hown hW
  show CallsIn F n Tryz.prog 66 #[.func (.yield l) #[] #[], .pointer (some ⟨Bm, 0, none⟩)] W _
  refine callsIn_of_wp Tryz.func66 rfl hf ?_ hro
  simp only [Tryz.ntmps66, List.size_toArray, List.length_cons, List.length_nil, Nat.reduceAdd, Nat.reduceSub, Array.replicate_succ, Array.replicate_zero, List.push_toArray, List.append_toArray, List.nil_append, List.cons_append]
  gi_wp2_with (first
    | (gi_at_range; refine wpListIn_range_own _ rfl _ 44 rfl 9 25 lawS Tryz.underlying44 _ b nn _ rfl hownW ?_; intro w0 hrg0 hg0 hs0)
    | gi_in)
  try go_frame
  gi_loopw [7] (fun _ wr => ∃ (left : Lit → Bool) (cnt : Nat) (ps : List (List UInt8 × Fl)), wr.ranges Tryz.prog 9 fileE b W.heap.size nn D0 left cnt ∧ ps.length + cnt ≤ Maps.size D0 ∧ Collected D0 left (ps.map (·.1)) ∧ (∀ p ∈ ps, ∀ z, D0.atKey (.string p.1) z = fD p.2) ∧ J (ps.map (·.2)) wr)
    (fun _ wr => wr.rangeLeft b W.heap.size)
  case atStart =>
    exact ⟨_, _, [], hrg0, by simp, Collected.start D0, by simp, hJ [] W w0 none h0 hg0 (fun r e => by cases e)⟩
  case round =>
    obtain ⟨left, cnt, ps, hrg, hcs, hC, hV, hJs⟩ := hrel
    gi_wp2_with (first
      | (gi_at_next; refine wpListIn_next_ranges _ rfl _ rfl 9 lawS fileE encStr encF invKF invVF b W.heap.size nn _ _ _ rfl hrg ?_ ?_)
      | gi_in)
    · intro hc0 hl0
      have hE : AllF D0 (ps.map (·.2)) := ⟨ps.map (·.1), by simp, hC.1, fun x => by rw [hC.2 x, hl0]; simp, fun j h1 h2 z => by
        simp only [List.getElem_map]
        exact hV _ (List.getElem_mem _) z⟩
      gi_wp2
      go_end0
      exact ⟨⟨_, rfl⟩, .inl ⟨_, hE, hJs⟩⟩
    · intro x f kl yd yp w2 cnt2 hkey hlk hv hat hrg2 hlt hg2 hs2 hen
      obtain ⟨x', ex, rfl, _⟩ := Maps.keyOf_str Tryz.underlying9 hkey
      obtain rfl : x = x' := encStr_inj ex
      have hyd : yd = fD f := by
        rw [fileE_mk f] at hv
        injection hv with hv
        injection hv with hv _
        exact hv.symm
      subst hyd
      have hJ2 : J (ps.map (·.2)) w2 := hJ _ wr w2 (some W.heap.size) hJs hg2 (fun r e => by cases e; exact ⟨Nat.le_refl _, hrg.iter_walk⟩)
      have hA2 : J (ps.map (·.2)) (w2.alloc (.cells #[.string f.pa, .string f.tx, .bool f.rn] 25)) := hJ _ w2 _ none hJ2 (World.grownBy_alloc _ _ none) (fun r e => by cases e)
      have hrg2a : (w2.alloc (.cells #[.string f.pa, .string f.tx, .bool f.rn] 25)).ranges Tryz.prog 9 fileE b W.heap.size nn D0 (fun z => left z && !z.sameKey (.string x)) cnt2 := hrg2.kept (World.grownBy_alloc _ _ none) (fun e => by cases e) (fun e => by cases e)
      obtain ⟨fn, tmps, assign, body, hy, hR⟩ := hY (ps.map (·.2)) f _ hA2 (by simp; omega)
      have hC2 : Collected D0 (fun z => left z && !z.sameKey (.string x)) ((ps ++ [(x, f)]).map (·.1)) := by simpa using hC.step hlk hat
      have hV2 : ∀ p ∈ ps ++ [(x, f)], ∀ z, D0.atKey (.string p.1) z = fD p.2 := fun p hp => (List.mem_append.1 hp).elim (hV p) (fun e => by simp at e; subst e; exact hat)
      obtain ⟨p, t, r⟩ := f
      unfold encF at hen hy
      simp only at hen hy hR hrg2a
      clear hs2 hg2 hJ2 hA2 hv hat
      gi_wp2
      refine hR.mono ?_
      rintro e W3 (⟨rfl, hJ3, hk3⟩ | ⟨rfl, hJx3⟩)
      · gi_wp2
        have hrg3 := hrg2a.of_walks hk3
        refine ⟨⟨_, cnt2, ps ++ [(x, ⟨p, t, r⟩)], hrg3, by simp; omega, hC2, hV2, by simpa using hJ3⟩, ?_⟩
        rw [hrg3.left_eq, hrg.left_eq]
        exact hlt
      · gi_wp2
        refine bodyPost_ret (results_none rfl _ _ _) rfl ?_
        exact ⟨⟨_, rfl⟩, .inr ⟨_, trivial, hJx3⟩⟩
end Go.Proofs.YtkmlooepakinfaaGreatDoor

/- A tree over another, plain. -/
namespace Go.Proofs.YtkmlooepakinfaaGreatDoor
open Go.RowKit Go.Shelf Go.Maps Go.WideMaps Go.Sort

def hasP (L : List Fl) (k : List UInt8) : Bool := L.any fun f => decide (pth f = k)
theorem hasP_iff (L : List Fl) (k : List UInt8) : hasP L k = true ↔ ∃ f ∈ L, pth f = k := by
  unfold hasP
  rw [List.any_eq_true]
  simp
/-- The files of both; where both have a path, the second's. -/
def ovU (A C : List Fl) : List Fl := A.filter (fun f => !hasP C (pth f)) ++ C
def ovF (A C : List Fl) : List Fl := (ovU A C).mergeSort fun f g => decide (pth f ≤ pth g)
theorem ovU_mem (A C : List Fl) (f : Fl) : f ∈ ovU A C ↔ (f ∈ A ∧ hasP C (pth f) = false) ∨ f ∈ C := by
  unfold ovU
  rw [List.mem_append, List.mem_filter]
  simp
theorem ovU_nodup {A C : List Fl} (ha : (A.map pth).Nodup) (hc : (C.map pth).Nodup) : ((ovU A C).map pth).Nodup := by
  unfold ovU
  rw [List.map_append, List.nodup_append]
  refine ⟨List.Nodup.sublist (List.Sublist.map _ List.filter_sublist) ha, hc, fun a h1 b h2 e => ?_⟩
  obtain ⟨f, hf, rfl⟩ := List.mem_map.1 h1
  obtain ⟨g, hg, rfl⟩ := List.mem_map.1 h2
  have h3 := (List.mem_filter.1 hf).2
  have h4 : hasP C (pth f) = true := (hasP_iff _ _).2 ⟨g, hg, e.symm⟩
  rw [h4] at h3
  cases h3
theorem ovF_perm (A C : List Fl) : (ovU A C).Perm (ovF A C) := (List.mergeSort_perm _ _).symm
theorem ovF_up {A C : List Fl} (ha : (A.map pth).Nodup) (hc : (C.map pth).Nodup) : (ovF A C).Pairwise fun f g => pth f < pth g := by
  have h1 : (ovF A C).Pairwise fun f g => decide (pth f ≤ pth g) = true := List.pairwise_mergeSort (fun a b c h1 h2 => by rw [decide_eq_true_eq] at *; exact List.le_trans h1 h2) (fun a b => by rw [Bool.or_eq_true, decide_eq_true_eq, decide_eq_true_eq]; exact List.le_total _ _) _
  have h2 : ((ovF A C).map pth).Nodup := ((ovF_perm A C).map pth).nodup_iff.1 (ovU_nodup ha hc)
  have h3 : (ovF A C).Pairwise fun f g => pth f ≠ pth g := List.pairwise_map.1 h2
  refine (h1.and h3).imp fun {f g} h => ?_
  have h4 : pth f ≤ pth g := by simpa using h.1
  rcases Decidable.em (pth f < pth g) with h5 | h5
  · exact h5
  · exact absurd (List.le_antisymm h4 (List.not_lt.1 h5)) h.2
theorem has_hasP (L : List Fl) (k : List UInt8) : Maps.has (byD L) (.string k) = hasP L k := has_byD L k

theorem both_at {D : DataW Unit} {A C : List Fl} (hD : BothD D (byD A) (byD C)) (ha : (A.map pth).Nodup) (hc : (C.map pth).Nodup) {f : Fl} (hf : f ∈ ovU A C) : Maps.has D (.string (pth f)) = true ∧ ∀ z, D.atKey (.string (pth f)) z = fD f := by
  rcases (ovU_mem A C f).1 hf with ⟨h1, h2⟩ | h1
  · refine ⟨?_, fun z => ?_⟩
    · rw [hD.1, has_hasP, has_hasP, (hasP_iff A _).2 ⟨f, h1, rfl⟩]
      rfl
    · rw [hD.2, has_hasP, h2, if_neg (by decide)]
      exact at_byD ha h1 z
  · have h2 := (hasP_iff C _).2 ⟨f, h1, rfl⟩
    refine ⟨?_, fun z => ?_⟩
    · rw [hD.1, has_hasP, has_hasP, h2, Bool.or_true]
    · rw [hD.2, has_hasP, h2, if_pos rfl]
      exact at_byD hc h1 z
theorem both_of {D : DataW Unit} {A C : List Fl} (hD : BothD D (byD A) (byD C)) {k : List UInt8} (hk : Maps.has D (.string k) = true) : ∃ f ∈ ovU A C, pth f = k := by
  rw [hD.1, has_hasP, has_hasP] at hk
  by_cases h : hasP C k = true
  · obtain ⟨f, hf, e⟩ := (hasP_iff C k).1 h
    exact ⟨f, (ovU_mem A C f).2 (.inr hf), e⟩
  · have h' : hasP C k = false := by simpa using h
    rw [h', Bool.or_false] at hk
    obtain ⟨f, hf, rfl⟩ := (hasP_iff A k).1 hk
    exact ⟨f, (ovU_mem A C f).2 (.inl ⟨hf, h'⟩), rfl⟩
/-- What the map gives is what both have, in some order. -/
theorem allF_perm {D : DataW Unit} {A C F : List Fl} (hD : BothD D (byD A) (byD C)) (ha : (A.map pth).Nodup) (hc : (C.map pth).Nodup) (hF : AllF D F) : F.Perm (ovF A C) := by
  obtain ⟨ks, hl, hnd, hks, hat⟩ := hF
  have hp : ∀ (j : Nat) (h2 : j < F.length), F[j] ∈ ovU A C ∧ pth F[j] = ks[j]'(by omega) := fun j h2 => by
    have h1 : j < ks.length := by omega
    obtain ⟨f, hf, e⟩ := both_of hD ((hks _).1 (List.getElem_mem h1))
    have e2 : F[j] = f := by
      have h3 := hat j h1 h2 (fD zeroFl)
      rw [← e, (both_at hD ha hc hf).2] at h3
      exact (fD_inj h3).symm
    rw [e2]
    exact ⟨hf, e⟩
  have hm : F.map pth = ks := by
    refine List.ext_getElem (by simp [hl]) fun j h1 h2 => ?_
    rw [List.getElem_map]
    exact (hp j (by simpa using h1)).2
  have nF : F.Nodup := by
    rw [← hm] at hnd
    exact (List.pairwise_map.1 hnd).imp fun h e => h (by rw [e])
  have nU : (ovU A C).Nodup := (List.pairwise_map.1 (ovU_nodup ha hc)).imp fun h e => h (by rw [e])
  refine ((List.perm_ext_iff_of_nodup nF nU).2 fun f => ⟨fun h => ?_, fun h => ?_⟩).trans (ovF_perm A C)
  · obtain ⟨j, hj, rfl⟩ := List.mem_iff_getElem.1 h
    exact (hp j hj).1
  · have h1 := both_at hD ha hc h
    obtain ⟨j, hj, e⟩ := List.mem_iff_getElem.1 ((hks _).2 h1.1)
    have h2 : j < F.length := by omega
    have h3 := hat j hj h2 (fD zeroFl)
    rw [e, h1.2] at h3
    rw [fD_inj h3]
    exact List.getElem_mem h2
/-- A list that rises and has the same files is the same. -/
theorem ovF_uniq {A C X : List Fl} (ha : (A.map pth).Nodup) (hc : (C.map pth).Nodup) (hx : X.Pairwise fun f g => pth f < pth g) (h : ∀ f, f ∈ X ↔ f ∈ ovU A C) : X = ovF A C := by
  have nX : X.Nodup := hx.imp fun h e => by rw [e] at h; exact List.lt_irrefl _ h
  have nU : (ovU A C).Nodup := (List.pairwise_map.1 (ovU_nodup ha hc)).imp fun h e => h (by rw [e])
  have hp : X.Perm (ovF A C) := ((List.perm_ext_iff_of_nodup nX nU).2 h).trans (ovF_perm A C)
  exact List.Perm.eq_of_pairwise (le := fun f g : Fl => pth f < pth g) (fun x y _ _ h1 h2 => absurd (List.lt_trans h1 h2) (List.lt_irrefl _)) hx (ovF_up ha hc) hp
end Go.Proofs.YtkmlooepakinfaaGreatDoor

/- A tree over another, as the document lays it; maps.Values. -/
namespace Go.Proofs.YtkmlooepakinfaaGreatDoor
open Go.RowKit Go.Shelf Go.Maps Go.WideMaps Go.Sort

/-- A file among others that rise. -/
def insF (f : Fl) : List Fl → List Fl
  | [] => [f]
  | g :: l => if pth g < pth f then g :: insF f l else f :: g :: l
theorem insF_mem (f x : Fl) : ∀ L : List Fl, x ∈ insF f L ↔ x = f ∨ x ∈ L
  | [] => by simp [insF]
  | g :: l => by
    unfold insF
    split
    · rw [List.mem_cons, insF_mem f x l, List.mem_cons]
      constructor
      · rintro (h | h | h)
        · exact .inr (.inl h)
        · exact .inl h
        · exact .inr (.inr h)
      · rintro (h | h | h)
        · exact .inr (.inl h)
        · exact .inl h
        · exact .inr (.inr h)
    · rw [List.mem_cons]
theorem insF_up (f : Fl) : ∀ L : List Fl, L.Pairwise (fun a b => pth a < pth b) → (∀ g ∈ L, pth g ≠ pth f) → (insF f L).Pairwise fun a b => pth a < pth b
  | [], _, _ => by simp [insF]
  | g :: l, h, hn => by
    rw [List.pairwise_cons] at h
    unfold insF
    split
    · rename_i hlt
      rw [List.pairwise_cons]
      refine ⟨fun a ha => ?_, insF_up f l h.2 fun g hg => hn g (List.mem_cons_of_mem _ hg)⟩
      rcases (insF_mem f a l).1 ha with rfl | ha
      · exact hlt
      · exact h.1 a ha
    · rename_i hlt
      have h1 : pth f < pth g := by
        rcases Decidable.em (pth f < pth g) with h2 | h2
        · exact h2
        · exact absurd (List.le_antisymm (List.not_lt.1 h2) (List.not_lt.1 hlt)) (hn g (by simp))
      rw [List.pairwise_cons, List.pairwise_cons]
      refine ⟨fun a ha => ?_, h⟩
      rcases List.mem_cons.1 ha with rfl | ha
      · exact h1
      · exact List.lt_trans h1 (h.1 a ha)
/-- One file over a tree: in its place, or among the others. -/
def putF (L : List Fl) (f : Fl) : List Fl := if hasP L (pth f) = true then L.map (fun g => if pth g = pth f then f else g) else insF f L
theorem putF_mem (L : List Fl) (f x : Fl) : x ∈ putF L f ↔ x = f ∨ (x ∈ L ∧ pth x ≠ pth f) := by
  unfold putF
  split
  · rename_i h
    obtain ⟨g, hg, e⟩ := (hasP_iff L _).1 h
    rw [List.mem_map]
    constructor
    · rintro ⟨a, ha, rfl⟩
      by_cases e2 : pth a = pth f
      · rw [if_pos e2]; exact .inl rfl
      · rw [if_neg e2]; exact .inr ⟨ha, e2⟩
    · rintro (rfl | ⟨h1, h2⟩)
      · exact ⟨g, hg, if_pos e⟩
      · exact ⟨x, h1, if_neg h2⟩
  · rename_i h
    rw [insF_mem]
    constructor
    · rintro (h1 | h1)
      · exact .inl h1
      · exact .inr ⟨h1, fun e => h ((hasP_iff L _).2 ⟨x, h1, e⟩)⟩
    · rintro (h1 | h1)
      · exact .inl h1
      · exact .inr h1.1
theorem putF_up (L : List Fl) (f : Fl) (h : L.Pairwise fun a b => pth a < pth b) : (putF L f).Pairwise fun a b => pth a < pth b := by
  unfold putF
  split
  · rw [List.pairwise_map]
    have e : ∀ g : Fl, pth (if pth g = pth f then f else g) = pth g := fun g => by
      split
      · rename_i e; exact e.symm
      · rfl
    exact h.imp fun {a b} hab => by rw [e, e]; exact hab
  · rename_i hn
    exact insF_up f L h fun g hg e => hn ((hasP_iff L _).2 ⟨g, hg, e⟩)
/-- All files of the second over the first. -/
def ovR (A C : List Fl) : List Fl := C.foldl putF A
theorem ovR_snoc (A C : List Fl) (f : Fl) : ovR A (C ++ [f]) = putF (ovR A C) f := by simp [ovR, List.foldl_append]
theorem ovR_up (A C : List Fl) (h : A.Pairwise fun a b => pth a < pth b) : (ovR A C).Pairwise fun a b => pth a < pth b := by
  refine snocInd (P := fun C => (ovR A C).Pairwise fun a b => pth a < pth b) h (fun l a ih => ?_) C
  rw [ovR_snoc]
  exact putF_up _ _ ih
theorem ovR_mem (A C : List Fl) (hc : (C.map pth).Nodup) (x : Fl) : x ∈ ovR A C ↔ x ∈ ovU A C := by
  refine snocInd (P := fun C => (C.map pth).Nodup → (x ∈ ovR A C ↔ x ∈ ovU A C)) (fun _ => by simp [ovR, ovU, hasP]) (fun l a ih => ?_) C hc
  intro hn
  rw [List.map_append, List.nodup_append] at hn
  have h1 : ∀ g ∈ l, pth g ≠ pth a := fun g hg e => hn.2.2 _ (List.mem_map.2 ⟨g, hg, rfl⟩) (pth a) (by simp) e
  have h2 : ∀ k, hasP (l ++ [a]) k = false ↔ hasP l k = false ∧ k ≠ pth a := fun k => by
    unfold hasP
    rw [List.any_append, Bool.or_eq_false_iff]
    refine and_congr Iff.rfl ?_
    rw [List.any_cons, List.any_nil, Bool.or_false, decide_eq_false_iff_not]
    exact ⟨fun h e => h e.symm, fun h e => h e.symm⟩
  rw [ovR_snoc, putF_mem, ih hn.1, ovU_mem, ovU_mem, h2, List.mem_append, List.mem_singleton]
  constructor
  · rintro (h | ⟨⟨h3, h4⟩ | h3, h5⟩)
    · exact .inr (.inr h)
    · exact .inl ⟨h3, h4, h5⟩
    · exact .inr (.inl h3)
  · rintro (⟨h3, h4, h5⟩ | h3 | h3)
    · exact .inr ⟨.inl ⟨h3, h4⟩, h5⟩
    · exact .inr ⟨.inr h3, h1 x h3⟩
    · exact .inl h3
/-- The document's and the program's are one list. -/
theorem ov_same {A C : List Fl} (ha : A.Pairwise fun a b => pth a < pth b) (hc : (C.map pth).Nodup) : ovR A C = ovF A C :=
  ovF_uniq (List.pairwise_map.2 (ha.imp fun h e => by rw [e] at h; exact List.lt_irrefl _ h)) hc (ovR_up A C ha) (ovR_mem A C hc)

set_option maxRecDepth 100000 in
set_option maxHeartbeats 1000000 in
theorem Values_any (mb : Option Nat) (w : World) :
    Calls Tryz.prog 41 #[.map mb] w fun e w' => e = .returned (.func (.func 66) #[] #[.pointer (some ⟨w.heap.size, 0, none⟩)]) ∧ w' = w.alloc (.cells #[.map mb] 44) := by
  go_enter Tryz.func41, Tryz.ntmps41
  go_wp2
  go_ret
  exact ⟨rfl, rfl⟩
end Go.Proofs.YtkmlooepakinfaaGreatDoor

/- slices.AppendSeq, Collect and SortedFunc of files; laidOver. -/
namespace Go.Proofs.YtkmlooepakinfaaGreatDoor
open Go.RowKit Go.Shelf Go.Maps Go.WideMaps Go.Sort

/-- A part of a text, by the way that leads to it. -/
def subO : List Bool → Code → Code
  | [], c => c
  | false :: p, .seq a _ => subO p a
  | true :: p, .seq _ b => subO p b
  | _ :: p, .block _ c => subO p c
  | _ :: p, .loop c => subO p c
  | false :: p, .cond _ a _ => subO p a
  | true :: p, .cond _ _ b => subO p b
  | false :: p, .rangeFunc _ _ a _ => subO p a
  | true :: p, .rangeFunc _ _ _ b => subO p b
  | _ :: _, c => c
/-- The loop's record. -/
def apR (ca cb : Code) (fn : FuncId) (sv : Value) (Bs D : Nat) (st : LoopState) (pend : Option Code) : Loop :=
  { state := st, pending := pend, fn, tmps := #[.slice none 0 0, sv, .pointer (some ⟨Bs, 0, none⟩), undef, .slice none 0 0, undef, sv, undef, undef, undef, undef, undef, undef], params := #[7], assign := ca, body := cb, defers := D }
/-- Between two rounds. -/
structure ApF (ca cb : Code) (w0 : World) (fn : FuncId) (sv : Value) (Bs l D : Nat) (F : List Fl) (W : World) : Prop where
  box : ∃ v, W.heap[Bs]? = some (.cells #[v] 22 (0, 0)) ∧ W.ownsRow w0.heap.size 25 3 v F.length (flCells F)
  L : W.heap[l]? = some (.loop (apR ca cb fn sv Bs D .ready none))
  K : W.heap[D]? = some (.deferred (some []))
  below : Below w0.heap.size w0 W
theorem ap_abides (ca cb : Code) (w0 : World) (fn : FuncId) (sv : Value) (Bs l D B : Nat) (hB : w0.heap.size ≤ B) : AbidesFrom B (ApF ca cb w0 fn sv Bs l D) := fun s W W' row h hg hrow => by
  have hrow' : ∀ r, row = some r → ∃ o : Obj, W.heap[r]? = some o ∧ o.isWalk = true := fun r e => (hrow r e).2
  obtain ⟨v, hv, hr⟩ := h.box
  exact ⟨⟨v, (grownBy_keeps hg hrow' hv rfl).trans hv, ownsRow_abides_a hr hg hrow'⟩, (grownBy_keeps hg hrow' h.L rfl).trans h.L, (grownBy_keeps hg hrow' h.K rfl).trans h.K,
    h.below.grown hg h.below.size (fun k e => Nat.le_trans hB (hrow k e).1)⟩

set_option maxRecDepth 100000 in
set_option maxHeartbeats 4000000 in
theorem apYieldF (ca cb : Code) (hca : ca = (subO [true, false, true, false, false] (Tryz.f102.body.getD .skip))) (hcb : cb = (subO [true, false, true, false, true] (Tryz.f102.body.getD .skip))) (F : Fence) (m : Nat) (w0 : World) (fn : FuncId) (hfn : F.fn fn) (sv : Value) (Bs l D : Nat) (hBl : Bs ≠ l) (hDl : D ≠ l) (hDB : D ≠ Bs) (h0B : w0.heap.size ≤ Bs) (h0l : w0.heap.size ≤ l) (fs : List Fl) (x : Fl) (W : World) (h : ApF ca cb w0 fn sv Bs l D fs W) (hlen : fs.length ≤ 1000000) :
    YieldAt F m Tryz.prog l #[encF x] W fun e W' => e = .returned (.bool true) ∧ ApF ca cb w0 fn sv Bs l D (fs ++ [x]) W' ∧ KeepsWalks W W' := by
  obtain ⟨i0, hi, hz0, hz1, hz2⟩ := info_p infF
  obtain ⟨v, hv, hrow⟩ := h.box
  refine ⟨fn, #[.slice none 0 0, sv, .pointer (some ⟨Bs, 0, none⟩), undef, .slice none 0 0, undef, sv, encF x, undef, undef, undef, undef, undef], ca, cb, by simpa [apR] using run_yield (P := Tryz.prog) (args := #[encF x]) h.L rfl, roundIn_of_wpIn hfn ?_⟩
  obtain ⟨p, t, r⟩ := x
  have hl : l < W.heap.size := (Array.getElem?_eq_some_iff.1 h.L).1
  obtain ⟨W1, hW1⟩ : ∃ W1, W1 = W.alloc (.cells #[.string p, .string t, .bool r] 25) := ⟨_, rfl⟩
  have ho1 : ∀ b, b < W.heap.size → W1.heap[b]? = W.heap[b]? := fun b hb => by rw [hW1]; exact Below.heap_alloc _ _ b hb
  have hs1 : W1.heap.size = W.heap.size + 1 := by rw [hW1]; exact World.size_alloc _ _
  have hL1 : W1.heap[l]? = some (.loop (apR ca cb fn sv Bs D .ready none)) := (ho1 l hl).trans h.L
  have hbr := run_beginRound (P := Tryz.prog) hL1 rfl
  obtain ⟨W2, hW2⟩ : ∃ W2, W1.putObj l (.loop { apR ca cb fn sv Bs D .ready none with state := .busy }) = W2 := ⟨_, rfl⟩
  rw [hW2] at hbr
  have hg2 : W1.grownBy W2 (some l) := by rw [← hW2]; exact grownBy_putObj_a _ _ _
  have hk2 : KeepsWalks W W2 := by
    have hk1 : KeepsWalks W W1 := by rw [hW1]; exact KeepsWalks.alloc _ _
    refine hk1.trans ?_
    rw [← hW2]
    exact KeepsWalks.putObj _ hL1 rfl
  have hBw : Bs < W.heap.size := (Array.getElem?_eq_some_iff.1 hv).1
  have hDw : D < W.heap.size := (Array.getElem?_eq_some_iff.1 h.K).1
  have hv2 : W2.heap[Bs]? = some (.cells #[v] 22 (0, 0)) := by rw [← hW2]; exact (World.putObj_heap_other hBl).trans ((ho1 Bs hBw).trans hv)
  have hK2 : W2.heap[D]? = some (.deferred (some [])) := by rw [← hW2]; exact (World.putObj_heap_other hDl).trans ((ho1 D hDw).trans h.K)
  have hL2 : W2.heap[l]? = some (.loop { apR ca cb fn sv Bs D .ready none with state := .busy }) := by rw [← hW2]; exact World.putObj_heap_same (by omega)
  have hX2 : W2.heap[W.heap.size]? = some (.cells #[.string p, .string t, .bool r] 25 (0, 0)) := by
    rw [← hW2]
    refine (World.putObj_heap_other (by omega)).trans ?_
    rw [hW1]
    exact World.alloc_heap_new W _
  have hs2 : W2.heap.size = W.heap.size + 1 := by rw [← hW2, ← hs1]; simp
  have hrow1 : W1.ownsRow w0.heap.size 25 3 v fs.length (flCells fs) := by rw [hW1]; exact hrow.alloc _
  have hrow2 : W2.ownsRow w0.heap.size 25 3 v fs.length (flCells fs) := hrow1.kept hg2 (ownsRow_ne_a hrow1 hL1 (fun cur e => by cases e))
  have hb1 : Below w0.heap.size w0 W1 := by rw [hW1]; exact h.below.alloc h.below.size _
  have hb2 : Below w0.heap.size w0 W2 := hb1.grown hg2 hb1.size (fun k e => by cases e; exact h0l)
  obtain ⟨hc2, hf2⟩ := cell_of_box_a hv2
  have x0 : W2.cell? ⟨W.heap.size, 0, none⟩ = some (.string p) := Lib.cell_of_heap hX2 0
  have x1 : W2.cell? ⟨W.heap.size, 1, none⟩ = some (.string t) := Lib.cell_of_heap hX2 1
  have x2 : W2.cell? ⟨W.heap.size, 2, none⟩ = some (.bool r) := Lib.cell_of_heap hX2 2
  have hBlt : Bs < W2.heap.size := by omega
  have hl2 : l < W2.heap.size := by omega
  have hDlt : D < W2.heap.size := by omega
  have ne_of : ∀ {j : Nat} {o : Obj}, W2.heap[j]? = some o → (∀ cur, o ≠ .cells cur 25 (0, 0)) → some j ≠ v.ownBlock := fun hj hno => by
    rcases ownsRow_ne_a hrow2 hj hno with e | e
    · rw [e]; simp
    · exact fun e' => e e'.symm
  have HCA : Hid (ca = (subO [true, false, true, false, false] (Tryz.f102.body.getD .skip))) := hca
  have HCB : Hid (cb = (subO [true, false, true, false, true] (Tryz.f102.body.getD .skip))) := hcb
  clear hca hcb
  unfold encF
  simp only
  conv => arg 4; rw [HCA.out]; whnf
  gi_wp2_with gi_round_op_a
  refine ⟨W2, by rw [← hW1]; exact hbr, ?_⟩
  clear hW1 hW2 hs1 hs2 ho1
  conv => arg 4; rw [HCB.out]; whnf
  gi_wp2_with (first
    | (gi_at_builtin; refine wpListIn_append_own _ rfl _ _ 22 rfl w0.heap.size 25 i0 (.agg #[.string ⟨#[]⟩, .string ⟨#[]⟩, .bool false]) 3 40 Tryz.underlying22 hi hz0 hz1 hz2 rfl (by decide) _ _ _ rfl (hrow2.alloc _) ⟨W2.heap.size, 0, none⟩ 1 1 [.string p, .string t, .bool r] rfl rfl (new_cells W2 _ _) (by simp [Value.oneCell']) (by unfold maxLen; omega) (by omega) (by have := hb2.size; simp; omega) ?_; intro v' w3 hown' hg3 hnil3
       have hv3 : w3.heap[Bs]? = some (.cells #[v] 22 (0, 0)) := (hg3.block Bs (by simp; omega) (ne_of hv2 (fun cur e => by cases e))).trans ((Below.heap_alloc _ _ Bs hBlt).trans hv2)
       obtain ⟨hc3, hf3⟩ := cell_of_box_a hv3
       obtain ⟨g', cap', cur', rfl, hbase', hgb', hr1, hr2, hr3, hr4⟩ : ∃ g' cap' cur', v' = .slice (some ⟨g', 0, none⟩) (fs.length + 1) cap' ∧ w0.heap.size ≤ g' ∧ w3.heap[g']? = some (.cells cur' 25 (0, 0)) ∧ fs.length + 1 ≤ cap' ∧ cap' ≤ maxLen ∧ cur'.size = cap' * 3 ∧ cur'.toList.take ((fs.length + 1) * 3) = flCells fs ++ [.string p, .string t, .bool r] := by
         rcases hown'.2 with ⟨_, h0⟩ | h'
         · exact absurd h0 (by omega)
         · exact h'
       go_frame)
    | gi_round_op_a)
  have hg3' : (W2.alloc (.cells #[.string p, .string t, .bool r] 25)).grownBy w3 v.ownBlock := hg3
  have hL3 : w3.heap[l]? = some (.loop { apR ca cb fn sv Bs D .ready none with state := .busy }) := (hg3'.block l (by simp; omega) (ne_of hL2 (fun cur e => by cases e))).trans ((Below.heap_alloc _ _ l hl2).trans hL2)
  have hK3 : w3.heap[D]? = some (.deferred (some [])) := (hg3'.block D (by simp; omega) (ne_of hK2 (fun cur e => by cases e))).trans ((Below.heap_alloc _ _ D hDlt).trans hK2)
  obtain ⟨w4, hw4⟩ : ∃ w4, w3.setCell ⟨Bs, 0, none⟩ (.slice (some ⟨g', 0, none⟩) (fs.length + 1) cap') = w4 := ⟨_, rfl⟩
  rw [hw4]
  have hg4 : w3.grownBy w4 (some Bs) := by rw [← hw4]; exact grownBy_setCell0_a _ _ _
  have hv4 : w4.heap[Bs]? = some (.cells #[.slice (some ⟨g', 0, none⟩) (fs.length + 1) cap'] 22 (0, 0)) := by rw [← hw4]; exact heap_setCell_box_a _ hv3
  have hL4 : w4.heap[l]? = some (.loop { apR ca cb fn sv Bs D .ready none with state := .busy }) := (hg4.block l (Array.getElem?_eq_some_iff.1 hL3).1 (fun e => hBl (by cases e; rfl))).trans hL3
  have hK4 : w4.heap[D]? = some (.deferred (some [])) := (hg4.block D (Array.getElem?_eq_some_iff.1 hK3).1 (fun e => hDB (by cases e; rfl))).trans hK3
  have hrow4 := hown'.kept hg4 (ownsRow_ne_a hown' hv3 (fun cur e => by cases e))
  have hl4 : l < w4.heap.size := (Array.getElem?_eq_some_iff.1 hL4).1
  have hb3 : Below w0.heap.size w0 w3 := (hb2.alloc hb2.size _).grown hg3' (by have := hb2.size; simp; omega) (fun k e => (hrow2.lt k e).1)
  have hb4 : Below w0.heap.size w0 w4 := hb3.grown hg4 hb3.size (fun k e => by cases e; exact h0B)
  have hk4 : KeepsWalks W w4 := ((hk2.trans (KeepsWalks.alloc _ _)).trans (KeepsWalks.of_grownBy hg3' (ownsRow_not_walk_a (hrow2.alloc _)))).trans (by rw [← hw4]; exact KeepsWalks.setCell _ _ _)
  clear hw4
  have ec : flCells (fs ++ [⟨p, t, r⟩]) = flCells fs ++ [.string p, .string t, .bool r] := by simp [flCells]
  refine ⟨_, _, run_endRound none hL4, rfl, ⟨⟨_, (World.putObj_heap_other hBl).trans hv4, ?_⟩, World.putObj_heap_same hl4, (World.putObj_heap_other hDl).trans hK4, hb4.grown (grownBy_putObj_a _ _ _) hb4.size (fun k e => by cases e; exact h0l)⟩, hk4.trans (KeepsWalks.putObj _ hL4 rfl)⟩
  have := hrow4.kept (grownBy_putObj_a w4 l (.loop { { apR ca cb fn sv Bs D .ready none with state := .busy } with state := if (none : Option Code).isNone then .ready else .done, pending := none })) (ownsRow_ne_a hrow4 hL4 (fun cur e => by cases e))
  rw [ec, List.length_append]
  exact this
end Go.Proofs.YtkmlooepakinfaaGreatDoor

/- slices.AppendSeq, Collect and SortedFunc of the files of a map; laidOver. -/
namespace Go.Proofs.YtkmlooepakinfaaGreatDoor
open Go.RowKit Go.Shelf Go.Maps Go.WideMaps Go.Sort

/-- How the files of a map are answered. -/
def SqP (D0 : DataW Unit) (w : World) (e : Ending) (w' : World) : Prop := ∃ (v : Value) (fs : List Fl), e = .returned v ∧ AllF D0 fs ∧ w'.ownsRow w.heap.size 25 3 v fs.length (flCells fs) ∧ Below w.heap.size w w'

set_option maxRecDepth 100000 in
set_option maxHeartbeats 4000000 in
theorem appendSeqF (g : Nat) (lb : Array Value) (eg : ∀ args w, (callFunc g args).run Tryz.prog w = .ok (.enter g args) w) (D0 : DataW Unit) (N : Nat) (hN : N ≤ 1000000) (w : World) (hseq : SeqStopsK Fence.wide 3 Tryz.prog g lb (fun f : Fl => #[encF f]) KeepsWalks (AllF D0) (fun _ => True) N w) :
    CallsIn Fence.wide 4 Tryz.prog 102 #[.slice none 0 0, .func (.func g) #[] lb] w (SqP D0 w) := by
  obtain ⟨ca, hca⟩ : ∃ ca, ca = (subO [true, false, true, false, false] (Tryz.f102.body.getD .skip)) := ⟨_, rfl⟩
  obtain ⟨cb, hcb⟩ : ∃ cb, cb = (subO [true, false, true, false, true] (Tryz.f102.body.getD .skip)) := ⟨_, rfl⟩
  have hla := hca.symm
  have hlb := hcb.symm
  conv at hla => lhs; whnf
  conv at hlb => lhs; whnf
  have HCA : Hid (ca = (subO [true, false, true, false, false] (Tryz.f102.body.getD .skip))) := hca
  have HCB : Hid (cb = (subO [true, false, true, false, true] (Tryz.f102.body.getD .skip))) := hcb
  clear hca hcb
  have HSeq : Hid (SeqStopsK Fence.wide 3 Tryz.prog g lb (fun f : Fl => #[encF f]) KeepsWalks (AllF D0) (fun _ => True) N w) := hseq
  have HEg : Hid (∀ args w, (callFunc g args).run Tryz.prog w = .ok (.enter g args) w) := eg
  clear hseq eg
  refine callsIn_of_wp_marks Tryz.func102 rfl trivial ?_ rfl
  simp only [Tryz.ntmps102, List.size_toArray, List.length_cons, List.length_nil, Nat.reduceAdd, Nat.reduceSub, Array.replicate_succ, Array.replicate_zero, List.push_toArray, List.append_toArray, List.nil_append, List.cons_append]
  gi_wp2
  rw [hla, hlb]
  clear hla hlb
  refine wpIn_rangeFunc ?_
  intro fn hfn
  obtain ⟨W0, hW0⟩ : ∃ W0, w.alloc (.cells #[.slice none 0 0] 22) = W0 := ⟨_, rfl⟩
  have hs0 : W0.heap.size = w.heap.size + 1 := by rw [← hW0]; simp
  have hv0 : W0.heap[w.heap.size]? = some (.cells #[.slice none 0 0] 22 (0, 0)) := by rw [← hW0]; exact World.alloc_heap_new w _
  have hb0 : Below w.heap.size w W0 := by rw [← hW0]; exact (Below.refl _ w).alloc (Nat.le_refl _) _
  rw [hW0]
  obtain ⟨W1, hW1⟩ : ∃ W1, (W0.alloc (.deferred (some []))).alloc (.loop (apR ca cb fn (.func (.func g) #[] lb) w.heap.size W0.heap.size .ready none)) = W1 := ⟨_, rfl⟩
  have hold : ∀ k, k < W0.heap.size → W1.heap[k]? = W0.heap[k]? := fun k hk => by
    rw [← hW1]; exact (Below.heap_alloc _ _ k (by simp; omega)).trans (Below.heap_alloc _ _ k hk)
  have hb1 : Below w.heap.size w W1 := by rw [← hW1]; exact (hb0.alloc hb0.size _).alloc (by have := hb0.size; simp; omega) _
  have hs1 : W1.heap.size = W0.heap.size + 2 := by rw [← hW1]; simp
  have hM : ApF ca cb w fn (.func (.func g) #[] lb) w.heap.size (W0.heap.size + 1) W0.heap.size [] W1 :=
    ⟨⟨_, (hold w.heap.size (by omega)).trans hv0, World.ownsRow_nil _ _ _ _⟩,
     by rw [← hW1]; have := World.alloc_heap_new (W0.alloc (.deferred (some []))) (.loop (apR ca cb fn (.func (.func g) #[] lb) w.heap.size W0.heap.size .ready none)); rwa [World.size_alloc] at this,
     by rw [← hW1]; exact (Below.heap_alloc _ _ _ (by simp)).trans (World.alloc_heap_new W0 _), hb1⟩
  refine ⟨W0.heap.size + 1, [{ target := .collected W0.heap.size, args := #[] }], W1, { target := .fn (.func g) lb, args := #[.func (.yield (W0.heap.size + 1)) #[] #[]] }, W1, g,
    #[.func (.yield (W0.heap.size + 1)) #[] #[]] ++ lb, W1, ?_, ?_, ?_, ?_, fun _ => by omega, ?_⟩
  · rw [← hW1]; exact run_enterLoop_outer _ _ _ _ _
  · simp [resolve, go_sem]
  · intro f' hf'; trivial
  · simp [invoke, go_sem, HEg.out]
  · refine (HSeq.out (W0.heap.size + 1) (ApF ca cb w fn (.func (.func g) #[] lb) w.heap.size (W0.heap.size + 1) W0.heap.size) (fun _ _ => False) W1 hb1 (ap_abides ca cb _ _ _ _ _ _ _ hb1.size) (fun _ _ _ _ h => h.elim)
      (fun pre x W hJ hl => ?_) hM).mono ?_
    · obtain ⟨f1, t1, a1, b1, hy, hR⟩ := apYieldF ca cb HCA.out HCB.out Fence.wide (3 - 1) w fn hfn _ w.heap.size (W0.heap.size + 1) W0.heap.size (by omega) (by omega) (by omega) (Nat.le_refl _) (by omega) pre x W hJ (by omega)
      exact ⟨f1, t1, a1, b1, hy, hR.mono fun e W' h => .inl h⟩
    rintro e W2 ⟨⟨v0, rfl⟩, ⟨fs, hS, h2⟩ | ⟨_, _, h⟩⟩
    · obtain ⟨v, hv, hrow⟩ := h2.box
      have hend := run_endLoop (P := Tryz.prog) h2.L (by simp [apR])
      obtain ⟨W3, hW3⟩ : ∃ W3, W2.putObj (W0.heap.size + 1) (.loop { apR ca cb fn (.func (.func g) #[] lb) w.heap.size W0.heap.size .ready none with state := .exhausted }) = W3 := ⟨_, rfl⟩
      rw [hW3] at hend
      have hg3 : W2.grownBy W3 (some (W0.heap.size + 1)) := by rw [← hW3]; exact grownBy_putObj_a _ _ _
      have hv3 : W3.heap[w.heap.size]? = some (.cells #[v] 22 (0, 0)) := by rw [← hW3]; exact (World.putObj_heap_other (by omega)).trans hv
      have hK3 : W3.heap[W0.heap.size]? = some (.deferred (some [])) := by rw [← hW3]; exact (World.putObj_heap_other (by omega)).trans h2.K
      have hrow3 := hrow.kept hg3 (ownsRow_ne_a hrow h2.L (fun cur e => by cases e))
      have hb3 : Below w.heap.size w W3 := h2.below.grown hg3 h2.below.size (fun k e => by cases e; omega)
      obtain ⟨hc3, hf3⟩ := cell_of_box_a hv3
      clear hW3
      refine ⟨none, W3, hend, ?_⟩
      gi_wp2
      rw [← hs0]
      refine ⟨by simp, .inl ⟨_, _, rfl, run_takeDeferred hK3, ?_⟩⟩
      exact ⟨_, results_tmp rfl _ _ _, v, fs, rfl, hS, hrow3.kept (grownBy_putObj_a _ _ _) (ownsRow_ne_a hrow3 hK3 (fun cur e => by cases e)), hb3.grown (grownBy_putObj_a _ _ _) hb3.size (fun k e => by cases e; omega)⟩
    · exact h.elim
end Go.Proofs.YtkmlooepakinfaaGreatDoor

/- What is under a directory. -/
namespace Go.Proofs.YtkmlooepakinfaaGreatDoor
open Go.RowKit Go.Shelf Go.Maps Go.WideMaps Go.Sort
attribute [local go_sem ↓] appS_eq

/-- One file more, at the end of a row. -/
theorem rowF_add {B : Nat} {F : List Fl} {v : Value} {w : World} (h : w.ownsRow B 25 3 v F.length (flCells F)) (hB : B ≤ w.heap.size) (x : Fl) (hF : F.length ≤ 1000) (d : Nat) :
    ∃ G C w', (appS #[22, 22] 22 #[v, .slice (some ⟨w.heap.size, 0, none⟩) 1 1]).run Tryz.prog ((w.alloc (.cells #[.string x.pa, .string x.tx, .bool x.rn] 25)).drewN d) = .ok (.slice (some ⟨G, 0, none⟩) (F.length + 1) C) w' ∧
      w'.ownsRow B 25 3 (.slice (some ⟨G, 0, none⟩) (F.length + 1) C) (F ++ [x]).length (flCells (F ++ [x])) ∧ Below B w w' := by
  obtain ⟨i0, hi, hz0, hz1, hz2⟩ := info_p infF
  have hsz : ((w.alloc (.cells #[.string x.pa, .string x.tx, .bool x.rn] 25)).drewN d).heap.size = w.heap.size + 1 := World.size_alloc _ _
  have hA : Below w.heap.size w ((w.alloc (.cells #[.string x.pa, .string x.tx, .bool x.rn] 25)).drewN d) := below_drewN ((Below.refl _ w).alloc (Nat.le_refl _) _) d
  have hr := row_heap h fun b hb => hA.block b (h.lt b hb).2
  obtain ⟨G, C, w3, hrun, hrow, hgr, hat, hlt⟩ := run_append_lies (P := Tryz.prog) ((w.alloc (.cells #[.string x.pa, .string x.tx, .bool x.rn] 25)).drewN d) 22 22 B 25 i0 (.agg #[.string ⟨#[]⟩, .string ⟨#[]⟩, .bool false]) 3 40 Tryz.underlying22 hi hz0 hz1 hz2 rfl (by decide) v F.length (flCells F) hr ⟨w.heap.size, 0, none⟩ 1 1 [.string x.pa, .string x.tx, .bool x.rn] rfl (new_cells w _ _) (fun u hu => by simp at hu; rcases hu with rfl | rfl | rfl <;> rfl) (by decide) (by unfold maxLen; omega) (by omega) (by omega) (w.heap.size + 1) hsz
  refine ⟨G, C, w3, hrun, ?_, (hA.mono hB).grown hgr (by omega) fun k hk => (hr.lt k hk).1⟩
  have e : flCells (F ++ [x]) = flCells F ++ [.string x.pa, .string x.tx, .bool x.rn] := by simp [flCells]
  rw [e, List.length_append]
  exact hrow

/-- How files are answered, with an error. -/
def RsP (er : Int) (L : List Fl) (w : World) (e : Ending) (w' : World) : Prop := ∃ ao cap, e = .returned (.tuple #[.slice ao L.length cap, .int .i64 er]) ∧ w'.ownsRow w.heap.size 25 3 (.slice ao L.length cap) L.length (flCells L) ∧ Below w.heap.size w w'
theorem RsP_nil (er : Int) {w w' : World} (hb : Below w.heap.size w w') : RsP er [] w (.returned (.tuple #[.slice none 0 0, .int .i64 er])) w' := ⟨none, 0, rfl, World.ownsRow_nil _ _ _ _, hb⟩

/-- A path further in. -/
def cutP (d : ByteArray) (f : Fl) : Fl := ⟨f.pa.extract (d.size + 1) f.pa.size, f.tx, f.rn⟩
def undF (L : List Fl) (d : ByteArray) : List Fl := (L.filter fun f => inB f.pa d).map (cutP d)
theorem undF_snoc (L : List Fl) (d : ByteArray) (f : Fl) : undF (L ++ [f]) d = if inB f.pa d = true then undF L d ++ [cutP d f] else undF L d := by
  unfold undF
  rw [List.filter_append, List.map_append]
  by_cases h : inB f.pa d = true
  · rw [if_pos h]; simp [h]
  · rw [if_neg h]; simp [h]
theorem undF_len (L : List Fl) (d : ByteArray) : (undF L d).length ≤ L.length := by
  unfold undF
  rw [List.length_map]
  exact List.length_filter_le _ _
theorem inB_lt {p d : ByteArray} (h : inB p d = true) : d.size < p.size := by
  unfold inB at h
  rw [Bool.and_eq_true, Bool.and_eq_true] at h
  exact of_decide_eq_true h.1.1
def unE (L : List Fl) (d : ByteArray) : Int := if chF L ≠ 0 then chF L else if pathOk d = false then 1 else if undF L d = [] then 5 else 0
def unL (L : List Fl) (d : ByteArray) : List Fl := if unE L d = 0 then undF L d else []

set_option maxHeartbeats 8000000 in
set_option maxRecDepth 100000 in
theorem Under_any (ao : Option Addr) (cap : Nat) (L : List Fl) (d : ByteArray) (w : World) (hl : IsFl w ao L) (hm : MaxIs w) :
    Calls Tryz.prog 6 #[.slice ao L.length cap, .string d] w (RsP (unE L d) (unL L d) w) := by
  have HC : Hid (Calls Tryz.prog 9 #[.slice ao L.length cap] w fun e w' => e = .returned (.int .i64 (chF L)) ∧ Below w.heap.size w w') := Check_any ao cap L w hl hm
  by_cases h0 : chF L = 0
  · rw [h0] at HC
    have hok := okT_of h0
    have HP : Hid (∀ W, Below w.heap.size w W → Calls Tryz.prog 20 #[.string d] W fun e w' => e = .returned (.bool (pathOk d)) ∧ Below W.heap.size W w') := fun W hW => IsPath_any d W (hm.up hW)
    by_cases hp : pathOk d = true
    · rw [hp] at HP
      have HE : Hid (unE L d = if undF L d = [] then 5 else 0) := by
        show _ = _
        unfold unE
        rw [if_neg (by simp [h0]), if_neg (by rw [hp]; decide)]
      have HI : Hid (∀ (x : ByteArray) (W : World), Calls Tryz.prog 21 #[.string x, .string d] W fun e w' => e = .returned (.bool (inB x d)) ∧ w' = W) := fun x W => isInside_any x d W
      have HL : Hid (IsFl w ao L) := hl
      have hn1 : (L.length : Int) ≤ 60 := by have := hok.1; omega
      have hds : d.size ≤ 100 := pathOk_size hp
      have hds2 : (d.size : Int) ≤ 100 := by omega
      clear hl hm h0 hp hok
      go_enter Tryz.func6, Tryz.ntmps6
      go_wp2_with fail
      refine HC.out.mono ?_
      rintro e w1 ⟨rfl, hb1⟩
      go_wp2_with fail
      refine (HP.out _ hb1).mono ?_
      rintro e w2 ⟨rfl, hb2⟩
      have hB2 : Below w.heap.size w w2 := hb1.trans (hb2.mono hb1.size)
      have HB2 : Hid (Below w.heap.size w w2) := hB2
      clear hb1 hb2 hB2 HC HP
      go_wp2
      go_loopw [7, 20] (fun uv i wr => ∃ k : Nat, k ≤ L.length ∧ i = .int .i64 k ∧ wr.ownsRow w.heap.size 25 3 uv (undF (L.take k) d).length (flCells (undF (L.take k) d)) ∧ Below w.heap.size w wr) (fun _ i _ => L.length - (intOf i).toNat)
      case atStart => exact ⟨0, by omega, rfl, World.ownsRow_nil _ _ _ _, HB2.out⟩
      case round =>
        obtain ⟨k, hk, rfl, hrow, hb⟩ := hrel
        have hsz := hb.size
        by_cases hlt : k < L.length
        · rcases HL.out.below hb (Nat.le_refl _) with h | ⟨g, o, rfl, hg, hc⟩
          · exfalso; rw [h] at hlt; exact absurd hlt (by simp)
          obtain ⟨c0, c1, c2⟩ := hc k hlt
          have htk : L.take (k + 1) = L.take k ++ [L[k]] := List.take_succ_eq_append_getElem hlt
          have hul := undF_len (L.take k) d
          have hkl : (L.take k).length ≤ 60 := by rw [List.length_take]; omega
          have HRow : Hid (wr.ownsRow w.heap.size 25 3 u7 (undF (L.take k) d).length (flCells (undF (L.take k) d))) := hrow
          have HB : Hid (Below w.heap.size w wr) := hb
          have HU : Hid (undF (L.take (k + 1)) d = if inB L[k].pa d = true then undF (L.take k) d ++ [cutP d L[k]] else undF (L.take k) d) := by
            show _ = _
            rw [htk, undF_snoc]
          clear hc htk
          generalize L[k] = x at *
          generalize undF (L.take k) d = U at *
          have hAx := heap_alloc_new wr (.cells #[.string x.pa, .string x.tx, .bool x.rn] 25)
          have hAz : (wr.alloc (.cells #[.string x.pa, .string x.tx, .bool x.rn] 25)).heap.size = wr.heap.size + 1 := World.size_alloc _ _
          have hA : Below w.heap.size w (wr.alloc (.cells #[.string x.pa, .string x.tx, .bool x.rn] 25)) := hb.alloc hsz _
          have HIx : Hid (∀ W, Calls Tryz.prog 21 #[.string x.pa, .string d] W fun e w' => e = .returned (.bool (inB x.pa d)) ∧ w' = W) := HI.out x.pa
          cases hin : inB x.pa d with
          | false =>
            rw [hin] at HIx HU
            have HA : Hid (Below w.heap.size w (wr.alloc (.cells #[.string x.pa, .string x.tx, .bool x.rn] 25))) := hA
            have HRow2 : Hid ((wr.alloc (.cells #[.string x.pa, .string x.tx, .bool x.rn] 25)).ownsRow w.heap.size 25 3 u7 U.length (flCells U)) := HRow.out.alloc _
            clear hAx hAz hA hin hrow hb
            go_wp2_with fail
            refine (HIx.out _).mono ?_
            rintro e w3 ⟨rfl, rfl⟩
            go_wp2
            refine ⟨⟨k + 1, by omega, by go_num, ?_, HA.out⟩, by simp [intOf]; omega⟩
            rw [HU.out, if_neg (by decide)]
            exact HRow2.out
          | true =>
            rw [hin] at HIx HU
            have hdl := inB_lt hin
            have hdl2 : (d.size : Int) + 1 ≤ (x.pa.size : Int) := by omega
            have hW : (wr.alloc (.cells #[.string (x.pa.extract (d.size + 1) x.pa.size), .string x.tx, .bool x.rn] 25)).heap.size = wr.heap.size + 1 := World.size_alloc _ _
            obtain ⟨G, C, w4, hap, hrow4, hb4⟩ := rowF_add (w := wr.alloc (.cells #[.string (x.pa.extract (d.size + 1) x.pa.size), .string x.tx, .bool x.rn] 25)) (HRow.out.alloc _) (by omega) (cutP d x) (by omega) 0
            rw [hW] at hap
            have hap2 : (appS #[22, 22] 22 #[u7, .slice (some ⟨wr.heap.size + 1, 0, none⟩) 1 1]).run Tryz.prog ((wr.alloc (.cells #[.string (x.pa.extract (d.size + 1) x.pa.size), .string x.tx, .bool x.rn] 25)).alloc (.cells #[.string (x.pa.extract (d.size + 1) x.pa.size), .string x.tx, .bool x.rn] 25)) = .ok (.slice (some ⟨G, 0, none⟩) (U.length + 1) C) w4 := hap
            have HR4 : Hid (w4.ownsRow w.heap.size 25 3 (.slice (some ⟨G, 0, none⟩) (U.length + 1) C) (U ++ [cutP d x]).length (flCells (U ++ [cutP d x])) ∧ Below w.heap.size w w4) := ⟨hrow4, (HB.out.alloc hsz _).trans hb4⟩
            clear hAx hAz hA hin hrow hb hW hap hrow4 hb4
            go_wp2_with fail
            refine (HIx.out _).mono ?_
            rintro e w3 ⟨rfl, rfl⟩
            go_wp2
            refine ⟨⟨k + 1, by omega, by go_num, ?_, HR4.out.2⟩, by simp [intOf]; omega⟩
            rw [HU.out, if_pos trivial]
            exact HR4.out.1
        · obtain rfl : k = L.length := by omega
          have hki : ¬ (L.length : Int) < (L.length : Int) := by omega
          rw [List.take_length] at hrow
          have HB : Hid (Below w.heap.size w wr) := hb
          obtain ⟨ua, uc, rfl⟩ := own_shape hrow
          have HRow : Hid (wr.ownsRow w.heap.size 25 3 (.slice ua (undF L d).length uc) (undF L d).length (flCells (undF L d))) := hrow
          clear hrow hb
          by_cases hu : undF L d = []
          · have HZ : Hid (unE L d = 5 ∧ unL L d = []) := by
              have e : unE L d = 5 := by rw [HE.out, if_pos hu]
              exact ⟨e, by unfold unL; rw [e, if_neg (by decide)]⟩
            have hul : (undF L d).length = 0 := by rw [hu]; rfl
            clear hu
            go_wp2
            refine bodyPost_ret (v := .tuple #[.slice none 0 0, .int .i64 5]) (by simp [results, Tryz.results6, go_sem]) rfl ?_
            rw [HZ.out.1, HZ.out.2]
            exact RsP_nil 5 HB.out
          · have HZ : Hid (unE L d = 0 ∧ unL L d = undF L d) := by
              have e : unE L d = 0 := by rw [HE.out, if_neg hu]
              exact ⟨e, by unfold unL; rw [e, if_pos rfl]⟩
            have hul : ((undF L d).length : Int) ≠ 0 := by
              intro e
              exact hu (List.length_eq_zero_iff.1 (by omega))
            clear hu
            go_wp2
            refine bodyPost_ret (v := .tuple #[.slice ua (undF L d).length uc, .int .i64 0]) (by simp [results, Tryz.results6, go_sem]) rfl ?_
            rw [HZ.out.1, HZ.out.2]
            exact ⟨ua, uc, rfl, HRow.out, HB.out⟩
    · have hp' : pathOk d = false := by simpa using hp
      rw [hp'] at HP
      have HZ : Hid (unE L d = 1 ∧ unL L d = []) := by
        have e : unE L d = 1 := by unfold unE; rw [if_neg (by simp [h0]), if_pos hp']
        exact ⟨e, by unfold unL; rw [e, if_neg (by decide)]⟩
      clear hl hm h0 hp hp' hok
      go_enter Tryz.func6, Tryz.ntmps6
      go_wp2_with fail
      refine HC.out.mono ?_
      rintro e w1 ⟨rfl, hb1⟩
      go_wp2_with fail
      refine (HP.out _ hb1).mono ?_
      rintro e w2 ⟨rfl, hb2⟩
      have HB : Hid (Below w.heap.size w w2) := hb1.trans (hb2.mono hb1.size)
      clear hb1 hb2
      go_wp2
      refine bodyPost_ret (v := .tuple #[.slice none 0 0, .int .i64 1]) (by simp [results, Tryz.results6, go_sem]) rfl ?_
      rw [HZ.out.1, HZ.out.2]
      exact RsP_nil 1 HB.out
  · have HZ : Hid (unE L d = chF L ∧ unL L d = []) := by
      have e : unE L d = chF L := by unfold unE; rw [if_pos h0]
      exact ⟨e, by unfold unL; rw [e, if_neg h0]⟩
    clear hl hm
    rw [HZ.out.1, HZ.out.2]
    generalize chF L = c at *
    have h0' : (c != 0) = true := by simpa using h0
    clear h0 HZ
    go_enter Tryz.func6, Tryz.ntmps6
    go_wp2_with fail
    refine HC.out.mono ?_
    rintro e w1 ⟨rfl, hb1⟩
    have HB : Hid (Below w.heap.size w w1) := hb1
    clear hb1
    go_wp2
    refine bodyPost_ret (v := .tuple #[.slice none 0 0, .int .i64 c]) (by simp [results, Tryz.results6, go_sem]) rfl ?_
    exact RsP_nil c HB.out
end Go.Proofs.YtkmlooepakinfaaGreatDoor
