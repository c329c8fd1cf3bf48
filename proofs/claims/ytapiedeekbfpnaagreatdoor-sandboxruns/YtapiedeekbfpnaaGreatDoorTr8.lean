/- A slice of texts that came in as an argument. -/
import Derived.ProofKit
import Derived.OpenShut
import Derived.ShutString
import Derived.ChangeOld
import Derived.SliceStrings
import Derived.Below
import Derived.Lib.SmallJoins
import Derived.Lib.LaidTab
import Derived.Deep.QuietTactic
import Derived.BigQuiet
import Derived.BigRegion
import Derived.Test.YtapiedeekbfpnaaGreatDoorTr7
namespace Go.Proofs.YtapiedeekbfpnaaGreatDoor
open Go.ChangeShapes Go.WideShapes Go.ChangeAt Go.RowKit Go.Shelf
open Go.ChangeMaps (open_string shut_string)

theorem own : ownKnob Tryz.prog.godebug = none := by kernel_rfl
theorem laidOut : laidOutB Tryz.prog = true := by kernel_rfl
theorem bytesS : Tryz.prog.bytesOf 9 = 16 := by kernel_rfl
set_option maxRecDepth 100000 in
/-- A slice of texts that came in. -/
theorem arg_texts {H : Type} {enc : TypeId × Value → H} {W : World} {v : Value} {d : DataW H} {p : List MemPlace} {base : Nat}
    (hv : Value.okWide Tryz.prog W .any base 23 v) (h : DataW.Trod enc Tryz.prog W 0 (fun _ => true) true 23 v d p) (hr : ∀ elems sp, d = .slice elems sp → elems.length ≤ 4611686018427387904) : ∃ ss, IsTexts W v ss := by
  obtain ⟨a, len, cap, rfl⟩ := okWide_slice Tryz.underlying23 hv
  obtain ⟨fuel, hf⟩ := h
  rcases open_strings Tryz.underlying23 Tryz.underlying9 (by kernel_rfl) hf with ⟨hcs, _⟩ | ⟨x, l, c, ss, hcs, _, hl, hm, hz, hx, hcell, hws⟩
  · simp [Value.cells] at hcs
    obtain ⟨rfl, rfl, rfl⟩ := hcs
    exact ⟨[], by decide, none, 0, rfl, Or.inl rfl⟩
  · simp [Value.cells] at hcs
    obtain ⟨rfl, rfl, rfl⟩ := hcs
    have hz' : ss.length = cap := by simpa using hz
    have hlen : (ss.take len).length = len := by rw [List.length_take]; omega
    have hb : len ≤ 4611686018427387904 := by
      have := hr _ _ (congrArg Prod.fst hx)
      simp [Go.ChangeShapes.strs] at this
      omega
    refine ⟨ss.take len, by rw [hlen]; exact hb, some x, cap, by rw [hlen], ?_⟩
    by_cases h0 : len = 0
    · exact Or.inl (by rw [h0]; rfl)
    · obtain ⟨b, off, spot⟩ := x
      have hspot : spot = none := by simpa [Addr.add] using World.cell?_spot (hcell 0 (by omega))
      subst hspot
      refine Or.inr ⟨b, off, rfl, fun j hj => ?_⟩
      rw [hlen] at hj
      rw [← Go.WideShapes.add_plain, hcell j (by omega)]
      simp [List.getD, List.getElem?_eq_getElem (show j < ss.length by omega)]

theorem arg_len {H : Type} {ts : List TypeId} {ds : List (DataW H)} (hsz : (DataW.weightsEach Tryz.prog ts ds).all (· ≤ reachBytes) = true) (j : Nat) (d : DataW H) (ht : ts[j]? = some 23) (hd : ds[j]? = some d) :
    ∀ elems sp, d = .slice elems sp → elems.length ≤ 4611686018427387904 := fun elems sp he => by
  have h1 := sized_slice hsz (j := j) (t := 23) ht (by rw [hd, he]) Tryz.underlying23
  have h2 := reachBytes_lt
  rw [bytesS] at h1
  omega
end Go.Proofs.YtapiedeekbfpnaaGreatDoor

/- Files that came in as an argument. -/
namespace Go.Proofs.YtapiedeekbfpnaaGreatDoor
open Go.ChangeShapes Go.WideShapes Go.ChangeAt Go.RowKit Go.Shelf Go.Joins
open Go.Deep (trod_struct3)

theorem bytesFl : Tryz.prog.bytesOf 35 = 40 := by kernel_rfl
theorem addr_addF (b off j : Nat) : (⟨b, off, none⟩ : Addr).add j = ⟨b, off + j, none⟩ := by
  unfold Addr.add
  split <;> simp_all
theorem cellsFl : Tryz.prog.cellsOf 35 = 3 := by kernel_rfl

set_option maxRecDepth 100000 in
theorem arg_file {H : Type} {enc : TypeId × Value → H} {W : World} {cs : List Value} {n : Nat} {y : DataW H × List MemPlace} (hl : cs.length = 3)
    (h : DataW.trod enc Tryz.prog W 0 (fun _ => true) true n 35 cs = some y) : ∃ nd : Fl, cs = [.string nd.pa, .string nd.tx, .bool nd.rn] ∧ nd.pa.size ≤ maxLen ∧ nd.tx.size ≤ maxLen := by
  match cs, hl with
  | [c0, c1, c2], _ =>
    obtain ⟨y0, y1, y2, m, hx, _, h0, h1, h2⟩ := trod_struct3 Tryz.underlying35 h
    have k1 : Tryz.prog.cellsOf 9 = 1 := by kernel_rfl
    have k2 : Tryz.prog.cellsOf 4 = 1 := by kernel_rfl
    simp [k1, k2] at h0 h1 h2
    obtain ⟨s, e0, _, z0⟩ := DataW.trod_string Tryz.underlying9 h0
    obtain ⟨t, e1, _, z2⟩ := DataW.trod_string Tryz.underlying9 h1
    obtain ⟨a, e2, _⟩ := DataW.trod_bool Tryz.underlying4 h2
    simp at e0 e1 e2
    subst e0 e1 e2
    exact ⟨⟨s, t, a⟩, rfl, z0, z2⟩

set_option maxRecDepth 100000 in
/-- A slice of nodes that came in. -/
theorem arg_files {H : Type} {enc : TypeId × Value → H} {W : World} {v : Value} {d : DataW H} {p : List MemPlace} {base : Nat}
    (hv : Value.okWide Tryz.prog W .any base 22 v) (h : DataW.Trod enc Tryz.prog W 0 (fun _ => true) true 22 v d p) (hr : ∀ elems sp, d = .slice elems sp → elems.length ≤ 4611686018427387904) : ∃ (L : List Fl) (ao : Option Addr) (cap : Nat), v = .slice ao L.length cap ∧ IsFl W ao L ∧ L.length ≤ 4611686018427387904 := by
  obtain ⟨a, len, cap, rfl⟩ := okWide_slice Tryz.underlying22 hv
  obtain ⟨fuel, hf⟩ := h
  rcases DataW.trod_slice Tryz.underlying22 hf with ⟨hcs, _⟩ | ⟨x, l, c, elems, rest, n, _, hcs, hx, _, _, _, hlen, hel, _, _⟩
  · simp [Value.cells] at hcs
    obtain ⟨rfl, rfl, rfl⟩ := hcs
    exact ⟨[], none, 0, rfl, Or.inl rfl, by decide⟩
  · simp [Value.cells] at hcs
    obtain ⟨rfl, rfl, rfl⟩ := hcs
    have hb : len ≤ 4611686018427387904 := by
      have := hr _ _ (congrArg Prod.fst hx)
      simp at this
      omega
    have each : ∀ i : Fin len, ∃ nd : Fl, (nd.pa.size ≤ maxLen ∧ nd.tx.size ≤ maxLen) ∧ W.cell? (x.add (i.val * 3)) = some (.string nd.pa) ∧ W.cell? ((x.add (i.val * 3)).add 1) = some (.string nd.tx) ∧ W.cell? ((x.add (i.val * 3)).add 2) = some (.bool nd.rn) := by
      intro i
      have h1 := hel i.val i.isLt
      rw [cellsFl, List.getElem?_eq_getElem (by omega : i.val < elems.length), Option.bind_eq_some_iff] at h1
      obtain ⟨cs', hc, hy⟩ := h1
      have hs := World.cells?_some hc
      obtain ⟨nd, rfl, z⟩ := arg_file (by simpa using hs.2.1) hy
      refine ⟨nd, z, ?_, ?_, ?_⟩
      · have := hs.2.2 0 (by omega); simpa [Addr.add] using this
      · have := hs.2.2 1 (by omega); simpa using this
      · have := hs.2.2 2 (by omega); simpa using this
    obtain ⟨f, hf2⟩ := Classical.axiomOfChoice each
    have hlen2 : (List.ofFn f).length = len := by simp
    refine ⟨List.ofFn f, some x, cap, by rw [hlen2], ?_, by rw [hlen2]; exact hb⟩
    by_cases h0 : len = 0
    · exact Or.inl (List.length_eq_zero_iff.1 (hlen2.trans h0))
    · obtain ⟨b, off, spot⟩ := x
      have c0 := (hf2 ⟨0, by omega⟩).2.1
      have hspot : spot = none := by simpa [Addr.add] using World.cell?_spot c0
      subst hspot
      refine Or.inr ⟨b, off, rfl, by simpa [Addr.add] using World.block_lt_of_cell? W _ c0, fun j hj => ?_⟩
      rw [hlen2] at hj
      rw [List.getElem_ofFn]
      have k := (hf2 ⟨j, hj⟩).2
      rw [addr_addF, addr_addF, addr_addF] at k
      exact k
end Go.Proofs.YtapiedeekbfpnaaGreatDoor

/- What the row of a statement on commands lays: the digest's numbers, the powers of ten; the world's shape. -/
namespace Go.Proofs.YtapiedeekbfpnaaGreatDoor
open Go.ChangeShapes Go.WideShapes Go.ChangeAt Go.RowKit Go.Shelf

theorem laid_ints {W : World} {name : String} {l : List Int} {rest : List (String × DataW Unit)} {ps : List MemPlace} {g0 T n : Nat} (h : DataW.LaidVars Tryz.prog W ((name, .agg (l.map fun n => .lit (.int .u32 n))) :: rest) ps)
    (hg0 : Tryz.prog.globalNamed name = some g0) (ht0 : (Tryz.prog.globals[g0]?).map (·.type) = some T) (hT : Tryz.prog.underlying T = some (.array n 126)) (hn : l.length = n) : LaidAt g0 W l ∧ ∃ q, DataW.LaidVars Tryz.prog W rest q := by
  obtain ⟨g, t, cs, fuel, p, q, hg, ht, hv, hd, hrest, _⟩ := h
  obtain rfl := Option.some.inj (hg0.symm.trans hg)
  obtain rfl := Option.some.inj (ht0.symm.trans ht)
  refine ⟨fun r hr => ?_, q, hrest⟩
  obtain ⟨xs, m, _, ex, _, hl, hel⟩ := DataW.trod_array hT hd
  have c5 : Tryz.prog.cellsOf 126 = 1 := by kernel_rfl
  have e3 : (xs.map (·.1)) = l.map fun n => .lit (.int .u32 n) := (DataW.agg.inj (Prod.mk.inj ex).1).symm
  have hxl : xs.length = l.length := by have := congrArg List.length e3; simpa using this
  have hE := hel r (by omega)
  rw [c5, Nat.mul_one, List.getElem?_eq_getElem (by omega)] at hE
  obtain ⟨z, e1, e2, _⟩ := DataW.trod_int Tryz.underlying126 hE
  have e4 : (xs.map (·.1))[r]? = (l.map fun n => (DataW.lit (.int .u32 n) : DataW Unit))[r]? := by rw [e3]
  rw [List.getElem?_map, List.getElem?_map, List.getElem?_eq_getElem (by omega : r < xs.length), List.getElem?_eq_getElem hr, e2] at e4
  have hz : z = l[r] := by
    simpa only [Option.map_some, Option.some.injEq, DataW.lit.injEq, Lit.int.injEq, true_and] using e4
  rw [World.var?_cell hg hv r, ← hz]
  have : cs.toList[r]? = some (.int .u32 z) := by
    have h0 : ((cs.toList.drop r).take 1)[0]? = some (.int .u32 z) := by rw [e1]; rfl
    simpa using h0
  simpa using this

theorem tab_laid {W : World} {rest : List (String × DataW Unit)} {ps : List MemPlace} (h : DataW.LaidVars Tryz.prog W (("internal/strconv.uint64pow10", Rows.laid_internal_strconv_uint64pow10) :: rest) ps) : Lib.TabIs Tryz.prog W "internal/strconv.uint64pow10" .u64 Lib.pow10Tab := by
  rw [show Rows.laid_internal_strconv_uint64pow10 = Lib.tabData .u64 Lib.pow10Tab by kernel_rfl] at h
  obtain ⟨g, t, cs, fuel, p, q, hg, ht, hvar, hd, _, _⟩ := h
  have hg0 : Tryz.prog.globalNamed "internal/strconv.uint64pow10" = some 3 := by kernel_rfl
  obtain rfl := Option.some.inj (hg0.symm.trans hg)
  have ht0 : (Tryz.prog.globals[3]?).map (·.type) = some 171 := by kernel_rfl
  obtain rfl := Option.some.inj (ht0.symm.trans ht)
  unfold Lib.TabIs
  rw [hvar, ← Lib.cells_of_tab Tryz.underlying171 Tryz.underlying142 (by kernel_rfl) (by kernel_rfl) hd]

theorem env_of {W : World} (h : laidMetH Tryz.prog [("math/bits.deBruijn32tab", Rows.laid_math_bits_deBruijn32tab), ("math/bits.deBruijn64tab", Rows.laid_math_bits_deBruijn64tab), ("internal/strconv.uint64pow10", Rows.laid_internal_strconv_uint64pow10), ("unicode/utf8.acceptRanges", Rows.laid_unicode_utf8_acceptRanges), ("foundry/digest.squareRoots", Rows.laid_foundry_digest_squareRoots), ("foundry/digest.cubeRoots", Rows.laid_foundry_digest_cubeRoots), ("unicode/utf8.first", Rows.laid_unicode_utf8_first)] W) (hs : W.ShapedOpen Tryz.prog) : Env W := by
  rw [MakeChecks.laidMetH_plain _ _ _ (by kernel_rfl)] at h
  obtain ⟨ps, hv, _, _⟩ := h
  obtain ⟨_, _, _, _, _, q0, _, _, _, _, hv0, _⟩ := hv
  obtain ⟨_, _, _, _, _, q1, _, _, _, _, hv1, _⟩ := hv0
  have htab := tab_laid hv1
  obtain ⟨_, _, _, _, _, q2, _, _, _, _, hv2, _⟩ := hv1
  obtain ⟨_, _, _, _, _, q3, _, _, _, _, hv3, _⟩ := hv2
  rw [sqL_eq, cuL_eq] at hv3
  obtain ⟨h1, q, hq⟩ := laid_ints (T := 127) hv3 (g0 := 0) (by kernel_rfl) (by kernel_rfl) Tryz.underlying127 sqL_len
  obtain ⟨h2, _⟩ := laid_ints (T := 139) hq (g0 := 1) (by kernel_rfl) (by kernel_rfl) Tryz.underlying139 cuL_len
  exact ⟨max_of_shaped hs, ⟨by rw [sq8_l]; exact h1, h2⟩, htab⟩
/-- A slice of files that came in is not too long. -/
theorem arg_lenF {H : Type} {ts : List TypeId} {ds : List (DataW H)} (hsz : (DataW.weightsEach Tryz.prog ts ds).all (· ≤ reachBytes) = true) (j : Nat) (d : DataW H) (ht : ts[j]? = some 22) (hd : ds[j]? = some d) :
    ∀ elems sp, d = .slice elems sp → elems.length ≤ 4611686018427387904 := fun elems sp he => by
  have h1 := sized_slice hsz (j := j) (t := 22) ht (by rw [hd, he]) Tryz.underlying22
  have h2 := reachBytes_lt
  rw [bytesFl] at h1
  omega
end Go.Proofs.YtapiedeekbfpnaaGreatDoor

/- The document's AddFile where there was none; of whatever files that came in. -/
namespace Go.Proofs.YtapiedeekbfpnaaGreatDoor
open Go.ChangeShapes Go.WideShapes Go.ChangeAt Go.RowKit Go.Shelf Go.Maps Go.WideMaps Go.Sort
attribute [local go_sem ↓] appS_eq

theorem appE (g n c c2 : Nat) (A : Option Addr) (hc : n ≤ c) (W : World) : (appS #[22, 22] 22 #[.slice (some ⟨g, 0, none⟩) n c, .slice A 0 c2]).run Tryz.prog W = .ok (.slice (some ⟨g, 0, none⟩) n c) W := by
  obtain ⟨i0, hi, hz0, hz1, hz2⟩ := info_p infF
  show (Builtin.append_ #[22, 22] 22 #[.slice (some ⟨g, 0, none⟩) n c, .slice A 0 c2]).run Tryz.prog W = _
  cases A <;> simp [Builtin.append_, run_underlying Tryz.underlying22, sizeOf, typeInfo, hi, Builtin.lenOf, Builtin.firstCells, hc, storeCells, loadCells, loadCellsFrom]

theorem appO (ao : Option Addr) (f : Fl) (Y : World) (gX B : Nat) (hB : B ≤ gX) (hY : Y.heap[gX]? = some (.cells #[.string f.pa, .string f.tx, .bool f.rn] 35 (0, 0))) : ∃ g2 c2 w2, (appS #[22, 22] 22 #[.slice ao 0 0, .slice (some ⟨gX, 0, none⟩) 1 1]).run Tryz.prog Y = .ok (.slice (some ⟨g2, 0, none⟩) 1 c2) w2 ∧
    w2.ownsRow B 35 3 (.slice (some ⟨g2, 0, none⟩) 1 c2) 1 (flCells [f]) ∧ Below Y.heap.size Y w2 ∧ Y.heap.size ≤ g2 := by
  obtain ⟨i0, hi, hz0, hz1, hz2⟩ := info_p infF
  have hlt : gX < Y.heap.size := (Array.getElem?_eq_some_iff.1 hY).1
  have hsrc : ∀ j u, ([.string f.pa, .string f.tx, .bool f.rn] : List Value)[j]? = some u → Y.cell? ((⟨gX, 0, none⟩ : Addr).add j) = some u := fun j u hu => by
    rw [add0, Lib.cell_of_heap hY]
    simpa using hu
  cases ao with
  | none =>
    obtain ⟨v2, w2, hr, ho, hg, _⟩ := run_append_own (P := Tryz.prog) Y Y.heap.size 22 22 35 i0 (.agg #[.string ⟨#[]⟩, .string ⟨#[]⟩, .bool false]) 3 40 Tryz.underlying22 hi hz0 hz1 hz2 rfl (by decide) (.slice none 0 0) 0 [] ⟨rfl, .inl ⟨rfl, rfl⟩⟩ ⟨gX, 0, none⟩ 1 1 [.string f.pa, .string f.tx, .bool f.rn] rfl hsrc (fun u hu => by simp at hu; rcases hu with rfl | rfl | rfl <;> rfl) (by decide) (by decide) (Nat.le_refl _)
    obtain ⟨g2, c2, hv2, hg5, _⟩ := ho.form (by omega)
    subst hv2
    exact ⟨g2, c2, w2, hr, row_low ho (by omega), ⟨hg.os, hg.tape, hg.output, hg.size, fun k hk => hg.block k hk (fun e => by cases e)⟩, hg5⟩
  | some x =>
    obtain ⟨v2, w2, hr, ho, hg⟩ := run_append_arg_grows (P := Tryz.prog) Y 22 22 35 i0 (.agg #[.string ⟨#[]⟩, .string ⟨#[]⟩, .bool false]) 3 40 Tryz.underlying22 hi hz0 hz1 hz2 rfl (by decide) x 0 0 [] rfl (fun j u hu => by simp at hu) ⟨gX, 0, none⟩ 1 1 [.string f.pa, .string f.tx, .bool f.rn] rfl hsrc (by omega) (by decide) (by decide)
    obtain ⟨g2, c2, hv2, hg5, _⟩ := ho.form (by omega)
    subst hv2
    exact ⟨g2, c2, w2, hr, row_low ho (by omega), ⟨hg.os, hg.tape, hg.output, hg.size, fun k hk => hg.block k hk (fun e => by cases e)⟩, hg5⟩

set_option maxHeartbeats 8000000 in
set_option maxRecDepth 100000 in
theorem AddFile_e (ao : Option Addr) (cap : Nat) (f : Fl) (w : World) (h0 : ao = none → cap = 0) :
    Calls Tryz.prog 18 #[.slice ao 0 cap, encF f] w (AfP w.heap.size [f] w) := by
  obtain ⟨fp, ft, fr⟩ := f
  obtain ⟨X, hX⟩ : ∃ X, X = w.alloc (.cells #[.string fp, .string ft, .bool fr] 35) := ⟨_, rfl⟩
  have hbX : Below w.heap.size w X := by rw [hX]; exact (Below.refl _ w).alloc (Nat.le_refl _) _
  have hzX : X.heap.size = w.heap.size + 1 := by rw [hX]; exact World.size_alloc _ _
  have x0 : X.cell? ⟨w.heap.size, 0, none⟩ = some (.string fp) := by rw [hX]; exact Lib.cell_of_heap (heap_alloc_new w _) 0
  have x1 : X.cell? ⟨w.heap.size, 1, none⟩ = some (.string ft) := by rw [hX]; exact Lib.cell_of_heap (heap_alloc_new w _) 1
  have x2 : X.cell? ⟨w.heap.size, 2, none⟩ = some (.bool fr) := by rw [hX]; exact Lib.cell_of_heap (heap_alloc_new w _) 2
  have HAp : Hid (∀ n : Nat, ∃ g2 c2 w2, (appS #[22, 22] 22 #[.slice ao 0 0, .slice (some ⟨X.heap.size, 0, none⟩) 1 1]).run Tryz.prog ((X.drewN n).alloc (.cells #[.string fp, .string ft, .bool fr] 35)) = .ok (.slice (some ⟨g2, 0, none⟩) 1 c2) w2 ∧ Hid (AfP w.heap.size [⟨fp, ft, fr⟩] w (.returned (.slice (some ⟨g2, 0, none⟩) 1 c2)) w2)) := fun n => by
    have hn : ((X.drewN n).alloc (.cells #[.string fp, .string ft, .bool fr] 35)).heap[X.heap.size]? = some (.cells #[.string fp, .string ft, .bool fr] 35 (0, 0)) := heap_alloc_new (X.drewN n) _
    obtain ⟨g2, c2, w2, h1, h2, h3, h4⟩ := appO ao ⟨fp, ft, fr⟩ _ X.heap.size w.heap.size hbX.size hn
    have hb2 : Below X.heap.size X ((X.drewN n).alloc (.cells #[.string fp, .string ft, .bool fr] 35)) := ⟨rfl, rfl, rfl, by rw [World.size_alloc]; exact Nat.le_succ _, ((Below.refl X.heap.size (X.drewN n)).alloc (Nat.le_refl _) _).block⟩
    have hs2 := hb2.size
    exact ⟨g2, c2, w2, h1, g2, c2, rfl, h2, below_low hbX (below_low hb2 h3 hb2.size) hbX.size, by omega⟩
  have ha1 : ∀ (A : Option Addr) (c : Nat) (W : World), (appS #[22, 22] 22 #[.slice (some ⟨X.heap.size, 0, none⟩) 1 1, .slice A 0 c]).run Tryz.prog W = .ok (.slice (some ⟨X.heap.size, 0, none⟩) 1 1) W := fun A c W => appE X.heap.size 1 1 c A (Nat.le_refl _) W
  unfold encF
  simp only
  clear hbX hzX
  cases ao with
  | none =>
    obtain rfl := h0 rfl
    clear h0
    go_enter Tryz.func18, Tryz.ntmps18
    go_wp2
    rw [← hX]
    clear hX
    refine wp_loop_rounds 1 ?_
    rw [rounds_succ]
    go_wp2
    go_quiet (fail)
    obtain ⟨g2, c2, w2, ha2, HF⟩ := HAp.out (nq + 1)
    go_wp2
    go_region
    all_goals
      go_wp2
      go_ret
      exact HF.out
  | some x =>
    clear h0
    go_enter Tryz.func18, Tryz.ntmps18
    go_wp2
    rw [← hX]
    clear hX
    refine wp_loop_rounds 1 ?_
    rw [rounds_succ]
    go_wp2
    go_quiet (fail)
    obtain ⟨g2, c2, w2, ha2, HF⟩ := HAp.out (nq + 1)
    go_wp2
    go_region
    all_goals
      go_wp2
      go_ret
      exact HF.out

/-- A file among others that came in. -/
theorem AddFileC (ao : Option Addr) (cap : Nat) (F : List Fl) (f : Fl) (w : World) (hl : IsFl w ao F) (hn : F.length ≤ 1000) (hc : F.length ≤ cap) (h0 : ao = none → cap = 0) :
    Calls Tryz.prog 18 #[.slice ao F.length cap, encF f] w (AfP w.heap.size (insF f F) w) := by
  rcases hl with h | ⟨g, o, rfl, hg, hf⟩
  · subst h
    exact AddFile_e ao cap f w h0
  · exact AddFile_o w.heap.size g o cap F f w hf hc hg hn (Nat.le_refl _)
theorem arg_capF {H : Type} {enc : TypeId × Value → H} {W : World} {ao : Option Addr} {n cap : Nat} {d : DataW H} {p : List MemPlace} (h : DataW.Trod enc Tryz.prog W 0 (fun _ => true) true 22 (.slice ao n cap) d p) : n ≤ cap ∧ (ao = none → cap = 0) := by
  obtain ⟨fuel, hf⟩ := h
  rcases DataW.trod_slice Tryz.underlying22 hf with ⟨hcs, _⟩ | ⟨x, l, c, elems, rest, m, _, hcs, _, _, hlc, _⟩
  · simp [Value.cells] at hcs
    obtain ⟨rfl, rfl, rfl⟩ := hcs
    exact ⟨Nat.le_refl _, fun _ => rfl⟩
  · simp [Value.cells] at hcs
    obtain ⟨rfl, rfl, rfl⟩ := hcs
    exact ⟨hlc, fun e => by cases e⟩
end Go.Proofs.YtapiedeekbfpnaaGreatDoor

/- The document's OverTree. -/
namespace Go.Proofs.YtapiedeekbfpnaaGreatDoor
open Go.RowKit Go.Shelf Go.Maps Go.WideMaps Go.Sort
attribute [local go_sem ↓] appS_eq

/-- A copy of files, laid behind a list with nothing in it. -/
theorem copyF {ao : Option Addr} {ac : Nat} {L : List Fl} {w : World} (hl : IsFl w ao L) (hn : L.length ≤ 10000000) :
    ∃ g c w', (appS #[22, 22] 22 #[.slice (some ⟨w.heap.size, 0, none⟩) 0 0, .slice ao L.length ac]).run Tryz.prog (w.alloc (.cells #[] 35)) = .ok (.slice (some ⟨g, 0, none⟩) L.length c) w' ∧
      w'.ownsRow w.heap.size 35 3 (.slice (some ⟨g, 0, none⟩) L.length c) L.length (flCells L) ∧ Below w.heap.size w w' := by
  obtain ⟨i0, hi, hz0, hz1, hz2⟩ := info_p infF
  have hb : Below w.heap.size w (w.alloc (.cells #[] 35)) := (Below.refl _ w).alloc (Nat.le_refl _) _
  have hown0 : (w.alloc (.cells #[] 35)).ownsRow w.heap.size 35 3 (.slice (some ⟨w.heap.size, 0, none⟩) 0 0) 0 [] :=
    ⟨rfl, .inr ⟨w.heap.size, 0, #[], rfl, Nat.le_refl _, heap_alloc_new w _, Nat.le_refl _, by decide, rfl, rfl⟩⟩
  cases ao with
  | none =>
    have hL : L = [] := by
      rcases hl with h | ⟨g, o, e, _⟩
      · exact h
      · cases e
    subst hL
    refine ⟨w.heap.size, 0, w.alloc (.cells #[] 35), ?_, hown0, hb⟩
    unfold appS
    simp [Builtin.append_, run_underlying Tryz.underlying22, sizeOf, typeInfo, hi, Builtin.lenOf, Builtin.firstCells, storeCells]
  | some ad =>
    have hsrc : ∀ j u, (flCells L)[j]? = some u → (w.alloc (.cells #[] 35)).cell? (ad.add j) = some u := fun j u hu => by
      rcases hl.below hb (Nat.le_refl _) with h | ⟨g, o, e, hg, hc⟩
      · subst h; simp [flCells] at hu
      · obtain rfl := Option.some.inj e
        rw [Addr.add_lit]
        exact flAt_cells hc j u hu
    obtain ⟨v1, w1, hr1, ho1, hg1', hnil⟩ := run_append_own (P := Tryz.prog) (w.alloc (.cells #[] 35)) w.heap.size 22 22 35 i0 (.agg #[.string ⟨#[]⟩, .string ⟨#[]⟩, .bool false]) 3 40 Tryz.underlying22 hi hz0 hz1 hz2 rfl (by decide) (.slice (some ⟨w.heap.size, 0, none⟩) 0 0) 0 [] hown0 ad L.length ac (flCells L) (flCells_len L) hsrc (flCells_one _) (by unfold maxLen; omega) (by omega) hb.size
    rw [Nat.zero_add, List.nil_append] at ho1
    rcases ho1.2 with ⟨e, _⟩ | ⟨g1, c1, cur, e, _⟩
    · have := (hnil.1 e).1
      cases this
    · subst e
      exact ⟨g1, c1, w1, hr1, ho1, hb.grown hg1' hb.size fun k hk => by simp [Value.ownBlock] at hk; omega⟩
/-- A file in the place of another. -/
theorem flCells_set (F : List Fl) (f : Fl) (k : Nat) (hk : k < F.length) : flCells (F.set k f) = ((((flCells F).set (k * 3) (.string f.pa)).set (k * 3 + 1) (.string f.tx)).set (k * 3 + 2) (.bool f.rn)) := by
  induction F generalizing k with
  | nil => simp at hk
  | cons g l ih =>
    have e : flCells (g :: l) = .string g.pa :: .string g.tx :: .bool g.rn :: flCells l := rfl
    cases k with
    | zero => rw [e]; rfl
    | succ k =>
      have e2 : flCells ((g :: l).set (k + 1) f) = .string g.pa :: .string g.tx :: .bool g.rn :: flCells (l.set k f) := rfl
      rw [e2, e, ih k (by simpa using hk)]
      have a1 : (k + 1) * 3 = k * 3 + 1 + 1 + 1 := by omega
      rw [a1]
      rfl
theorem setRow {B g c : Nat} {F : List Fl} {w : World} (h : w.ownsRow B 35 3 (.slice (some ⟨g, 0, none⟩) F.length c) F.length (flCells F)) (f : Fl) (k : Nat) (hk : k < F.length) :
    ((((w.setCell ⟨g, k * 3, none⟩ (.string f.pa)).setCell ⟨g, k * 3 + 1, none⟩ (.string f.tx)).setCell ⟨g, k * 3 + 2, none⟩ (.bool f.rn))).ownsRow B 35 3 (.slice (some ⟨g, 0, none⟩) F.length c) F.length (flCells (F.set k f)) := by
  rcases h.2 with ⟨e, _⟩ | ⟨g', c', cur, e, hbase, hb, h1, h2, h3, h4⟩
  · cases e
  · injection e with e1 _ e2
    injection e1 with e1
    injection e1 with e1
    subst e1 e2
    refine ⟨by rw [flCells_len, List.length_set], .inr ⟨g, c, ((cur.setIfInBounds (k * 3) (.string f.pa)).setIfInBounds (k * 3 + 1) (.string f.tx)).setIfInBounds (k * 3 + 2) (.bool f.rn), rfl, hbase, ?_, h1, h2, by simpa using h3, ?_⟩⟩
    · simp only [World.setCell, Array.getElem?_modify, hb]
      rfl
    · rw [flCells_set F f k hk, ← h4]
      simp only [Array.toList_setIfInBounds]
      rw [List.take_set, List.take_set, List.take_set]
end Go.Proofs.YtapiedeekbfpnaaGreatDoor

/- The document's RunCommand, behind its first switch: a file is made. -/
namespace Go.Proofs.YtapiedeekbfpnaaGreatDoor
open Go.RowKit Go.Shelf Go.Maps Go.WideMaps Go.Sort
variable {A0 A1 A2 A3 A4 A5 A6 A7 A8 A9 B0 B1 B2 B3 B4 B5 B6 B7 B8 B9 C0 C1 C2 C3 C4 C5 C6 C7 C8 C9 D0 D1 D2 D3 D4 D5 D6 D7 D8 D9 E0 E1 E2 E3 E4 E5 E6 E7 E8 E9 G0 G1 G2 G3 G4 G5 G6 G7 G8 G9 H0 H1 H2 H3 H4 H5 H6 H7 H8 H9 I0 I1 I2 I3 I4 I5 I6 I7 I8 I9 J0 J1 J2 J3 J4 J5 J6 J7 J8 J9 K0 K1 K2 K3 K4 K5 K6 K7 K8 K9 M0 M1 M2 M3 M4 M5 M6 M7 M8 M9 N0 N1 N2 N3 N4 N5 N6 N7 N8 N9 O0 O1 O2 O3 O4 O5 O6 O7 O8 O9 P0 P1 P2 P3 P4 P5 P6 P7 P8 P9 R0 R1 R2 R3 R4 R5 R6 R7 R8 R9 S0 S1 S2 S3 S4 S5 S6 S7 S8 S9 T0 T1 T2 T3 T4 T5 T6 T7 T8 T9 U0 U1 U2 U3 U4 U5 U6 U7 U8 U9 V0 V1 V2 V3 V4 V5 V6 V7 V8 V9 W0 W1 W2 W3 W4 W5 W6 W7 W8 W9 X0 X1 X2 X3 X4 X5 X6 X7 X8 X9 Y0 Y1 Y2 Y3 Y4 Y5 Y6 Y7 Y8 Y9 Z0 Z1 Z2 Z3 Z4 Z5 Z6 Z7 Z8 Z9 j0 j1 j2 j3 j4 j5 j6 j7 j8 j9 o0 o1 o2 o3 o4 o5 o6 o7 o8 o9 y0 y1 y2 y3 y4 y5 y6 y7 y8 y9 z0 z1 z2 z3 z4 z5 z6 z7 z8 z9 x0 x1 x2 x3 x4 x5 x6 x7 x8 x9 i0 i1 i2 i3 i4 i5 i6 i7 i8 i9 d0 d1 d2 d3 d4 d5 d6 d7 d8 d9 e0 e1 e2 e3 e4 e5 e6 e7 e8 e9 f0 f1 f2 f3 f4 f5 f6 f7 f8 f9 p0 p1 p2 p3 p4 p5 p6 p7 p8 p9 v0 v1 v2 v3 v4 v5 v6 v7 v8 : Value}

attribute [local go_sem ↓] appS_eq
/-- Files that were made lie somewhere new. -/
structure MdOk (w w' : World) (ra : Option Addr) (rc : Nat) (L : List Fl) : Prop where
  bel : Below w.heap.size w w'
  fl : IsFl w' ra L
  cap : L.length ≤ rc
  nil : ra = none → rc = 0
  new : ∀ x, ra = some x → w.heap.size ≤ x.block
theorem set_map0 {L : List Fl} (f : Fl) (hn : (L.map pth).Nodup) (j : Nat) (hj : j < L.length) (h : pth L[j] = pth f) : (L.map fun g => if pth g = pth f then f else g) = L.set j f := by
  refine List.ext_getElem (by simp) fun i h1 h2 => ?_
  have hi : i < L.length := by simpa using h1
  rw [List.getElem_map, List.getElem_set]
  by_cases e : j = i
  · subst e
    rw [if_pos h, if_pos rfl]
  · rw [if_neg e, if_neg]
    intro e2
    have hp := List.pairwise_iff_getElem.1 hn
    rcases Nat.lt_trichotomy i j with hij | hij | hij
    · exact absurd (by rw [List.getElem_map, List.getElem_map, e2, h]) (hp i j (by simpa using hi) (by simpa using hj) hij)
    · exact e hij.symm
    · exact absurd (by rw [List.getElem_map, List.getElem_map, e2, h]) (hp j i (by simpa using hj) (by simpa using hi) hij)
theorem putF_yes0 {L : List Fl} {f : Fl} (h : L.Pairwise fun a b => pth a < pth b) (j : Nat) (hj : j < L.length) (he : pth L[j] = pth f) : putF L f = L.set j f := by
  unfold putF
  rw [if_pos ((hasP_iff L _).2 ⟨L[j], List.getElem_mem hj, he⟩)]
  exact set_map0 f (List.pairwise_map.2 (h.imp fun hh e => by rw [e] at hh; exact List.lt_irrefl _ hh)) j hj he
theorem putF_no0 {L : List Fl} {f : Fl} (h : ∀ g ∈ L, pth g ≠ pth f) : putF L f = insF f L := by
  unfold putF
  rw [if_neg]
  intro h2
  obtain ⟨g, hg, e⟩ := (hasP_iff L _).1 h2
  exact h g hg e
theorem flAt_own0 {w : World} {B g n c : Nat} {F : List Fl} (h : w.ownsRow B 35 3 (.slice (some ⟨g, 0, none⟩) n c) n (flCells F)) (hn : n = F.length) : FlAt g 0 F w := fun j hj => by
  obtain ⟨k0, k1, k2⟩ := flCells_get F j hj
  simp only [Nat.zero_add]
  exact ⟨(h.cellAt _ (by omega)).trans k0, (h.cellAt _ (by omega)).trans k1, (h.cellAt _ (by omega)).trans k2⟩
theorem own_fz0 {w : World} {B g n c : Nat} {e : TypeId} {s : Nat} {xs : List Value} (h : w.ownsRow B e s (.slice (some ⟨g, 0, none⟩) n c) n xs) (j : Nat) : w.frozen? ⟨g, j, none⟩ = false := by
  rcases h.2 with ⟨e, _⟩ | ⟨g', c', cur, e, _, hb, _⟩
  · cases e
  · injection e with e1 _ _
    injection e1 with e1
    injection e1 with e1
    subst e1
    exact Lib.frozen_of_heap hb j
theorem md_own {w w' : World} {B g c : Nat} {L : List Fl} (h : w'.ownsRow B 35 3 (.slice (some ⟨g, 0, none⟩) L.length c) L.length (flCells L)) (hb : Below w.heap.size w w') (hB : w.heap.size ≤ B) : MdOk w w' (some ⟨g, 0, none⟩) c L := by
  refine ⟨hb, own_files h rfl, ?_, (fun e => by cases e), (fun x e => ?_)⟩
  · rcases h.2 with ⟨e, _⟩ | ⟨g', c', cur, e, _, _, h1, _⟩
    · cases e
    · injection e with _ _ e2
      omega
  · obtain rfl := Option.some.inj e
    exact Nat.le_trans hB (h.lt g rfl).1

set_option maxHeartbeats 8000000 in
set_option maxRecDepth 100000 in
theorem makeT (mo : Option Addr) (mc pw g n cap fu lf l1 q : Nat) (L : List Fl) (t p wd : ByteArray) (b : Bool) (w : World) (hpw : w.cell? ⟨pw, 0, none⟩ = some (.slice (some ⟨g, 0, none⟩) n cap)) (hn : 0 < n) (h0 : w.cell? ⟨g, 0, none⟩ = some (.string wd)) (b1 : (wd.toList == [115, 97, 109, 101]) = false) (b2 : (wd.toList == [108, 101, 115, 115]) = false) (b3 : (wd.toList == [103, 111, 116, 111]) = false) (b4 : (wd.toList == [101, 120, 105, 116]) = false) (b5 : (wd.toList == [114, 117, 110]) = b) (hp : (p.toList == []) = false)
    (hL : IsFl w mo L) (hL2 : L.length ≤ mc) (hL3 : mo = none → mc = 0) (hln : L.length ≤ 60) (hup : L.Pairwise fun f g => pth f < pth g)
    (hf : fu ≤ 100000) (hl : lf ≤ fu) (ht : t.size ≤ 100000) (hq : q = t.size / 16) (hl1 : 1 + q ≤ lf → l1 = lf - (1 + q)) (Q0 : Exit → Act → World → Prop)
    (HO : Hid (lf < 1 + q → ∀ (Aw Bc Bf Bv Bw Rj Rk Rm Rq Rt Rv Rw Rx Ry Rz Sb Sc Sf Sg Sh Sj Sk Sm Sq St Sv Sw Sx Sy Sz Tb Tc Tf Tg Th Tj Tk Tm Tq Tt Tv Tw Tx Ty Tz Ub Uc Uf Ug Uh Uj Uk Um Uq Ut Uv Uw Ux Uy Uz Vb Vc Vf Vg Vh Vj Vk Vm Vq Vt Vv Vw Vx Vy Vz Wb Wc Wf Wg Wh Wj Wk Wm Wq Wt Wv Ww Wx Wy Wz Xb Xc Xf Xg Xh Xj Xk Xm Xq Xt Xv Xw Xx Xy Xz Yb Yc Yf Yg Yh Yj Yk Ym Yq Yt Yv Yw Yx Yy Yz Zb Zc Zf Zg Zh : Value), Q0 .ret ⟨#[A0,A1,.int .i64 (fu : Int),A3,A4,A5,.slice mo L.length mc,.int .i64 104,.int .i64 (fu : Int),A9,.slice mo L.length mc,Aw,B2,B3,.pointer (some ⟨pw, 0, none⟩),B5,Bc,Bf,.int .i64 (-1),.string t,.string p,C1,C2,C3,C4,Bv,Bw,C7,C8,C9,D0,D1,D2,D3,D4,D5,D6,D7,D8,D9,E0,E1,E2,E3,E4,E5,E6,E7,E8,E9,G0,G1,G2,G3,G4,G5,G6,G7,G8,G9,H0,H1,H2,H3,H4,H5,H6,H7,H8,H9,I0,I1,I2,I3,I4,I5,I6,I7,I8,I9,J0,J1,J2,J3,J4,J5,J6,J7,J8,J9,K0,K1,K2,K3,K4,K5,K6,K7,K8,K9,M0,M1,M2,M3,M4,M5,M6,M7,M8,M9,N0,N1,N2,N3,N4,N5,N6,N7,N8,N9,O0,O1,O2,O3,O4,O5,O6,O7,O8,O9,P0,P1,P2,P3,P4,P5,P6,P7,P8,P9,R0,R1,R2,R3,R4,R5,R6,R7,R8,R9,S0,S1,S2,S3,S4,S5,S6,S7,S8,S9,T0,T1,T2,T3,T4,T5,T6,T7,T8,T9,U0,U1,U2,U3,U4,U5,U6,U7,U8,U9,V0,V1,V2,V3,V4,V5,V6,V7,V8,V9,W0,W1,W2,W3,W4,W5,W6,W7,W8,W9,X0,X1,X2,X3,X4,X5,X6,X7,X8,X9,Y0,Y1,Y2,Y3,Y4,Rj,Rk,Rm,Rq,Rt,Rv,Rw,Rx,Ry,Rz,Sb,Sc,Sf,Sg,Sh,Sj,Sk,Sm,Sq,St,Sv,Sw,Sx,Sy,Sz,Tb,Tc,Tf,Tg,Th,Tj,Tk,Tm,Tq,Tt,Tv,Tw,Tx,Ty,Tz,Ub,Uc,Uf,Ug,Uh,Uj,Uk,Um,Uq,Ut,Uv,Uw,Ux,Uy,Uz,Vb,Vc,Vf,Vg,Vh,Vj,Vk,Vm,Vq,Vt,Vv,Vw,Vx,Vy,Vz,Wb,Wc,Wf,Wg,Wh,Wj,Wk,Wm,Wq,Wt,Wv,Ww,Wx,Wy,Wz,Xb,Xc,Xf,Xg,Xh,Xj,Xk,Xm,Xq,Xt,Xv,Xw,Xx,Xy,Xz,Yb,Yc,Yf,Yg,Yh,Yj,Yk,Ym,Yq,Yt,Yv,Yw,Yx,Yy,Yz,Zb,Zc,Zf,Zg,Zh,v5,v6,v7,v8], []⟩ w)) (HG : Hid (¬ lf < 1 + q → ∀ (Bc Bf Bv Bw Rj Rk Rm Rq Rt Rv Rw Rx Ry Rz Sb Sc Sf Sg Sh Sj Sk Sm Sq St Sv Sw Sx Sy Sz Tb Tc Tf Tg Th Tj Tk Tm Tq Tt Tv Tw Tx Ty Tz Ub Uc Uf Ug Uh Uj Uk Um Uq Ut Uv Uw Ux Uy Uz Vb Vc Vf Vg Vh Vj Vk Vm Vq Vt Vv Vw Vx Vy Vz Wb Wc Wf Wg Wh Wj Wk Wm Wq Wt Wv Ww Wx Wy Wz Xb Xc Xf Xg Xh Xj Xk Xm Xq Xt Xv Xw Xx Xy Xz Yb Yc Yf Yg Yh Yj Yk Ym Yq Yt Yv Yw Yx Yy Yz Zb Zc Zf Zg Zh : Value) (ra : Option Addr) (rc : Nat) (w' : World), Hid (MdOk w w' ra rc (putF L ⟨p, t, b⟩)) → Q0 .normal ⟨#[A0,A1,.int .i64 (fu : Int),A3,A4,A5,A6,A7,A8,A9,.slice ra (putF L ⟨p, t, b⟩).length rc,.int .i64 (l1 : Int),B2,B3,.pointer (some ⟨pw, 0, none⟩),B5,Bc,Bf,.int .i64 (-1),.string t,.string p,C1,C2,C3,C4,Bv,Bw,C7,C8,C9,D0,D1,D2,D3,D4,D5,D6,D7,D8,D9,E0,E1,E2,E3,E4,E5,E6,E7,E8,E9,G0,G1,G2,G3,G4,G5,G6,G7,G8,G9,H0,H1,H2,H3,H4,H5,H6,H7,H8,H9,I0,I1,I2,I3,I4,I5,I6,I7,I8,I9,J0,J1,J2,J3,J4,J5,J6,J7,J8,J9,K0,K1,K2,K3,K4,K5,K6,K7,K8,K9,M0,M1,M2,M3,M4,M5,M6,M7,M8,M9,N0,N1,N2,N3,N4,N5,N6,N7,N8,N9,O0,O1,O2,O3,O4,O5,O6,O7,O8,O9,P0,P1,P2,P3,P4,P5,P6,P7,P8,P9,R0,R1,R2,R3,R4,R5,R6,R7,R8,R9,S0,S1,S2,S3,S4,S5,S6,S7,S8,S9,T0,T1,T2,T3,T4,T5,T6,T7,T8,T9,U0,U1,U2,U3,U4,U5,U6,U7,U8,U9,V0,V1,V2,V3,V4,V5,V6,V7,V8,V9,W0,W1,W2,W3,W4,W5,W6,W7,W8,W9,X0,X1,X2,X3,X4,X5,X6,X7,X8,X9,Y0,Y1,Y2,Y3,Y4,Rj,Rk,Rm,Rq,Rt,Rv,Rw,Rx,Ry,Rz,Sb,Sc,Sf,Sg,Sh,Sj,Sk,Sm,Sq,St,Sv,Sw,Sx,Sy,Sz,Tb,Tc,Tf,Tg,Th,Tj,Tk,Tm,Tq,Tt,Tv,Tw,Tx,Ty,Tz,Ub,Uc,Uf,Ug,Uh,Uj,Uk,Um,Uq,Ut,Uv,Uw,Ux,Uy,Uz,Vb,Vc,Vf,Vg,Vh,Vj,Vk,Vm,Vq,Vt,Vv,Vw,Vx,Vy,Vz,Wb,Wc,Wf,Wg,Wh,Wj,Wk,Wm,Wq,Wt,Wv,Ww,Wx,Wy,Wz,Xb,Xc,Xf,Xg,Xh,Xj,Xk,Xm,Xq,Xt,Xv,Xw,Xx,Xy,Xz,Yb,Yc,Yf,Yg,Yh,Yj,Yk,Ym,Yq,Yt,Yv,Yw,Yx,Yy,Yz,Zb,Zc,Zf,Zg,Zh,v5,v6,v7,v8], []⟩ w')) :
    Code.wp Tryz.prog (subC [true, true, true, true, false, true, false, false, true, false, true, true, true, true, true, true, true, true] (Tryz.f25.body.getD .skip)) Q0 ⟨#[A0,A1,.int .i64 (fu : Int),A3,A4,A5,A6,A7,A8,A9,.slice mo L.length mc,.int .i64 (lf : Int),B2,B3,.pointer (some ⟨pw, 0, none⟩),B5,.int .i64 1,.int .i64 0,.int .i64 (-1),.string t,.string p,C1,C2,C3,C4,C5,C6,C7,C8,C9,D0,D1,D2,D3,D4,D5,D6,D7,D8,D9,E0,E1,E2,E3,E4,E5,E6,E7,E8,E9,G0,G1,G2,G3,G4,G5,G6,G7,G8,G9,H0,H1,H2,H3,H4,H5,H6,H7,H8,H9,I0,I1,I2,I3,I4,I5,I6,I7,I8,I9,J0,J1,J2,J3,J4,J5,J6,J7,J8,J9,K0,K1,K2,K3,K4,K5,K6,K7,K8,K9,M0,M1,M2,M3,M4,M5,M6,M7,M8,M9,N0,N1,N2,N3,N4,N5,N6,N7,N8,N9,O0,O1,O2,O3,O4,O5,O6,O7,O8,O9,P0,P1,P2,P3,P4,P5,P6,P7,P8,P9,R0,R1,R2,R3,R4,R5,R6,R7,R8,R9,S0,S1,S2,S3,S4,S5,S6,S7,S8,S9,T0,T1,T2,T3,T4,T5,T6,T7,T8,T9,U0,U1,U2,U3,U4,U5,U6,U7,U8,U9,V0,V1,V2,V3,V4,V5,V6,V7,V8,V9,W0,W1,W2,W3,W4,W5,W6,W7,W8,W9,X0,X1,X2,X3,X4,X5,X6,X7,X8,X9,Y0,Y1,Y2,Y3,Y4,Y5,Y6,Y7,Y8,Y9,Z0,Z1,Z2,Z3,Z4,Z5,Z6,Z7,Z8,Z9,j0,j1,j2,j3,j4,j5,j6,j7,j8,j9,o0,o1,o2,o3,o4,o5,o6,o7,o8,o9,y0,y1,y2,y3,y4,y5,y6,y7,y8,y9,z0,z1,z2,z3,z4,z5,z6,z7,z8,z9,x0,x1,x2,x3,x4,x5,x6,x7,x8,x9,i0,i1,i2,i3,i4,i5,i6,i7,i8,i9,d0,d1,d2,d3,d4,d5,d6,d7,d8,d9,e0,e1,e2,e3,e4,e5,e6,e7,e8,e9,f0,f1,f2,f3,f4,f5,f6,f7,f8,f9,p0,p1,p2,p3,p4,p5,p6,p7,p8,p9,v0,v1,v2,v3,v4,v5,v6,v7,v8], []⟩ w := by
  have k1 : ¬ (100000 : Int) < (t.size : Int) := by omega
  have kn : (0 : Int) < (n : Int) := by omega
  have k8 : (t.size : Int).tdiv 16 = (q : Int) := by rw [Int.tdiv_eq_ediv_of_nonneg (by omega)]; omega
  have k8' : (t.size : Int) / 16 = (q : Int) := by omega
  have k9 : IntKind.i64.wrap (q : Int) = (q : Int) := by rw [IntKind.wrap_i64]; omega
  obtain ⟨ct, hct⟩ : ∃ ct : Nat, ct = 1 + q := ⟨_, rfl⟩
  have k10 : (1 : Int) + (q : Int) = (ct : Int) := by omega
  have k11 : IntKind.i64.wrap (ct : Int) = (ct : Int) := by rw [IntKind.wrap_i64]; omega
  obtain ⟨X, hX⟩ : ∃ X, X = w.alloc (.cells #[.string p, .string t, .bool b] 35) := ⟨_, rfl⟩
  have hbX : Below w.heap.size w X := by rw [hX]; exact (Below.refl _ w).alloc (Nat.le_refl _) _
  have hXb : X.heap[w.heap.size]? = some (.cells #[.string p, .string t, .bool b] 35 (0, 0)) := by rw [hX]; exact heap_alloc_new w _
  have hLX := hL.below hbX (Nat.le_refl _)
  have hpb := World.block_lt_of_cell? w _ hpw
  have hgb := World.block_lt_of_cell? w _ h0
  have HW : Hid (∀ V, Below w.heap.size w V → V.cell? ⟨pw, 0, none⟩ = some (.slice (some ⟨g, 0, none⟩) n cap) ∧ V.cell? ⟨g, 0, none⟩ = some (.string wd)) := fun V hV => ⟨(World.cell?_of_block (hV.block pw hpb)).trans hpw, (World.cell?_of_block (hV.block g hgb)).trans h0⟩
  by_cases h : lf < 1 + q
  · have HH : Hid _ := h
    have k3 : (lf : Int) < (ct : Int) := by omega
    clear HG h hf hl ht hq hl1 hct hn hL hLX hup hln hX hbX hXb hpb hgb
    conv => arg 2; whnf
    dsimp only
    go_wp2
    apply HO.out HH.out
  · have HH : Hid _ := h
    have k3 : ¬ (lf : Int) < (ct : Int) := by omega
    have k4 : (lf : Int) - (ct : Int) = (l1 : Int) := by have := hl1 (by omega); omega
    have k5 : IntKind.i64.wrap (l1 : Int) = (l1 : Int) := by rw [IntKind.wrap_i64]; have := hl1 (by omega); omega
    have hlo : w.heap.size ≤ X.heap.size := hbX.size
    have x0 : X.cell? ⟨w.heap.size, 0, none⟩ = some (.string p) := by rw [Lib.cell_of_heap hXb]; rfl
    have x1 : X.cell? ⟨w.heap.size, 1, none⟩ = some (.string t) := by rw [Lib.cell_of_heap hXb]; rfl
    have x2 : X.cell? ⟨w.heap.size, 2, none⟩ = some (.bool b) := by rw [Lib.cell_of_heap hXb]; rfl
    have HFa : Hid (Calls Tryz.prog 16 #[.slice mo L.length mc, .string p] X fun e w' => ∃ i, e = .returned (.int .i64 i) ∧ FaR L p.data.toList i ∧ w' = X) := FileAt_any _ mc L p X hLX (by omega)
    have HAd : Hid (Calls Tryz.prog 18 #[.slice mo L.length mc, .agg #[.string p, .string t, .bool b]] X (AfP X.heap.size (insF ⟨p, t, b⟩ L) X)) := AddFileC mo mc L ⟨p, t, b⟩ X hLX (by omega) hL2 hL3
    obtain ⟨g0, c0, w0, hcp, hr0, hb0⟩ := copyF (ac := mc) hLX (by omega)
    have HR0 : Hid (w0.ownsRow X.heap.size 35 3 (.slice (some ⟨g0, 0, none⟩) L.length c0) L.length (flCells L) ∧ Below X.heap.size X w0) := ⟨hr0, hb0⟩
    have HBX : Hid (Below w.heap.size w X) := hbX
    have HUP : Hid (L.Pairwise fun f g => pth f < pth g) := hup
    have HNG : Hid (w.heap.size < X.heap.size) := (Array.getElem?_eq_some_iff.1 hXb).1
    have HXe : Hid (X = w.alloc (.cells #[.string p, .string t, .bool b] 35)) := hX
    clear HO h hf hl ht hq hl1 hct hn hL hLX hup hX hbX hr0 hb0 hpb hgb hXb
    have hW1 := HW.out
    conv => arg 2; whnf
    dsimp only
    go_wp2_with fail
    rw [← HXe.out]
    refine HFa.out.mono ?_
    rintro e w1 ⟨i, rfl, hfa, hw1⟩
    subst hw1
    clear HFa HXe hpw h0
    rcases hfa with ⟨rfl, hno⟩ | ⟨j, hj, rfl, hpj, _⟩
    · have HZ : Hid (putF L ⟨p, t, b⟩ = insF ⟨p, t, b⟩ L) := putF_no0 hno
      clear hno hcp HR0
      go_wp2_with fail
      refine HAd.out.mono ?_
      rintro e w2 ⟨g2, c2, rfl, hr2, hb2, hg2⟩
      have hbw : Below w.heap.size w w2 := HBX.out.trans (hb2.mono HBX.out.size)
      have HMD : Hid (MdOk w w2 (some ⟨g2, 0, none⟩) c2 (putF L ⟨p, t, b⟩)) := by
        rw [HZ.out]
        exact md_own hr2 hbw HBX.out.size
      obtain ⟨cp, cg⟩ := hW1 w2 hbw
      have HZ2 : Hid ((insF ⟨p, t, b⟩ L).length = (putF L ⟨p, t, b⟩).length) := by rw [HZ.out]; rfl
      clear hr2 hb2 hg2 hbw HAd HZ hW1
      go_wp2
      rw [HZ2.out]
      apply HG.out HH.out; exact HMD
    · have HZ : Hid (putF L ⟨p, t, b⟩ = L.set j ⟨p, t, b⟩) := putF_yes0 HUP.out j hj hpj
      have hji : (j : Int) < (L.length : Int) := by omega
      obtain ⟨e0, e1, e2⟩ := flAt_own0 HR0.out.1 rfl j hj
      simp only [Nat.zero_add] at e0 e1 e2
      have z0 := own_fz0 HR0.out.1 (j * 3)
      have z1 := own_fz0 HR0.out.1 (j * 3 + 1)
      have z2 := own_fz0 HR0.out.1 (j * 3 + 2)
      have hlo : w1.heap.size ≤ g0 := (HR0.out.1.lt g0 rfl).1
      have hb0 := HR0.out.2
      have y0 : w0.cell? ⟨w.heap.size, 0, none⟩ = some (.string p) := (World.cell?_of_block (hb0.block _ HNG.out)).trans x0
      have y1 : w0.cell? ⟨w.heap.size, 1, none⟩ = some (.string t) := (World.cell?_of_block (hb0.block _ HNG.out)).trans x1
      have y2 : w0.cell? ⟨w.heap.size, 2, none⟩ = some (.bool b) := (World.cell?_of_block (hb0.block _ HNG.out)).trans x2
      obtain ⟨V, hV⟩ : ∃ V, V = ((w0.setCell ⟨g0, j * 3, none⟩ (.string p)).setCell ⟨g0, j * 3 + 1, none⟩ (.string t)).setCell ⟨g0, j * 3 + 2, none⟩ (.bool b) := ⟨_, rfl⟩
      have hbV : Below w1.heap.size w1 V := by
        rw [hV]
        refine ⟨hb0.os, hb0.tape, hb0.output, by simpa [World.setCell] using hb0.size, fun x hx => ?_⟩
        have hxg : x ≠ g0 := by omega
        rw [Below.heap_setCell _ _ _ _ hxg, Below.heap_setCell _ _ _ _ hxg, Below.heap_setCell _ _ _ _ hxg]
        exact hb0.block x hx
      have hbw : Below w.heap.size w V := HBX.out.trans (hbV.mono HBX.out.size)
      have hrV : V.ownsRow w1.heap.size 35 3 (.slice (some ⟨g0, 0, none⟩) L.length c0) L.length (flCells (L.set j ⟨p, t, b⟩)) := by
        rw [hV]
        exact setRow HR0.out.1 ⟨p, t, b⟩ j hj
      have HMD : Hid (MdOk w V (some ⟨g0, 0, none⟩) c0 (putF L ⟨p, t, b⟩)) := by
        rw [HZ.out]
        refine md_own ?_ hbw HBX.out.size
        rw [List.length_set]
        exact hrV
      obtain ⟨cp, cg⟩ := hW1 V hbw
      rw [hV] at cp cg
      have HV : Hid (V = ((w0.setCell ⟨g0, j * 3, none⟩ (.string p)).setCell ⟨g0, j * 3 + 1, none⟩ (.string t)).setCell ⟨g0, j * 3 + 2, none⟩ (.bool b)) := hV
      have HZ2 : Hid (L.length = (putF L ⟨p, t, b⟩).length) := by rw [HZ.out, List.length_set]; rfl
      clear hb0 hbV hbw hrV HAd hW1 hpj hlo x0 x1 x2 hV
      generalize L[j] = xj at *
      clear hj
      go_wp2
      rw [← HV.out]
      rw [HZ2.out]
      apply HG.out HH.out; exact HMD
end Go.Proofs.YtapiedeekbfpnaaGreatDoor

/- The document's RunCommand: what it does at 'set'. -/
namespace Go.Proofs.YtapiedeekbfpnaaGreatDoor
open Go.RowKit Go.Shelf Go.Maps Go.WideMaps Go.Sort
variable {A0 A1 A2 A3 A4 A5 A6 A7 A8 A9 B0 B1 B2 B3 B4 B5 B6 B7 B8 B9 C0 C1 C2 C3 C4 C5 C6 C7 C8 C9 D0 D1 D2 D3 D4 D5 D6 D7 D8 D9 E0 E1 E2 E3 E4 E5 E6 E7 E8 E9 G0 G1 G2 G3 G4 G5 G6 G7 G8 G9 H0 H1 H2 H3 H4 H5 H6 H7 H8 H9 I0 I1 I2 I3 I4 I5 I6 I7 I8 I9 J0 J1 J2 J3 J4 J5 J6 J7 J8 J9 K0 K1 K2 K3 K4 K5 K6 K7 K8 K9 M0 M1 M2 M3 M4 M5 M6 M7 M8 M9 N0 N1 N2 N3 N4 N5 N6 N7 N8 N9 O0 O1 O2 O3 O4 O5 O6 O7 O8 O9 P0 P1 P2 P3 P4 P5 P6 P7 P8 P9 R0 R1 R2 R3 R4 R5 R6 R7 R8 R9 S0 S1 S2 S3 S4 S5 S6 S7 S8 S9 T0 T1 T2 T3 T4 T5 T6 T7 T8 T9 U0 U1 U2 U3 U4 U5 U6 U7 U8 U9 V0 V1 V2 V3 V4 V5 V6 V7 V8 V9 W0 W1 W2 W3 W4 W5 W6 W7 W8 W9 X0 X1 X2 X3 X4 X5 X6 X7 X8 X9 Y0 Y1 Y2 Y3 Y4 Y5 Y6 Y7 Y8 Y9 Z0 Z1 Z2 Z3 Z4 Z5 Z6 Z7 Z8 Z9 j0 j1 j2 j3 j4 j5 j6 j7 j8 j9 o0 o1 o2 o3 o4 o5 o6 o7 o8 o9 y0 y1 y2 y3 y4 y5 y6 y7 y8 y9 z0 z1 z2 z3 z4 z5 z6 z7 z8 z9 x0 x1 x2 x3 x4 x5 x6 x7 x8 x9 i0 i1 i2 i3 i4 i5 i6 i7 i8 i9 d0 d1 d2 d3 d4 d5 d6 d7 d8 d9 e0 e1 e2 e3 e4 e5 e6 e7 e8 e9 f0 f1 f2 f3 f4 f5 f6 f7 f8 f9 p0 p1 p2 p3 p4 p5 p6 p7 p8 p9 v0 v1 v2 v3 v4 v5 v6 v7 v8 : Value}

theorem cell_heap {w w' : World} (h : w'.heap = w.heap) {a : Addr} : w'.cell? a = w.cell? a := by
  unfold World.cell?
  rw [h]

set_option maxHeartbeats 8000000 in
set_option maxRecDepth 100000 in
theorem setW (pw g n cap rg : Nat) (r : Nat) (s s1 : ByteArray) (w : World) (hpw : w.cell? ⟨pw, 0, none⟩ = some (.slice (some ⟨g, 0, none⟩) n cap)) (h0 : w.cell? ⟨g, 0, none⟩ = some (.string ⟨#[115, 101, 116]⟩)) (hn : 2 < n) (h1 : w.cell? ⟨g, 1, none⟩ = some (.string s1)) (hs1 : 0 < s1.size) (hr1 : s1[0].toNat = 97 + r) (hs6 : 6 ≤ s.size) (hsz : s.size ≤ 1000000) (Q0 : Exit → Act → World → Prop)
    (HX : Hid (∀ (Bk Bm Bq Bt Cx Cy Cz Db Dc Df Dg Dh Dj Dk Dm Dq Dt Dv Dw Dx Dy Dz Eb Ec Ef Eg Eh Ej Ek Em Eq Et Ev Ew Ex Ey Ez Gb Gc Gf Gg Gh Gj Gk Gm Gq Gt Gv Gw Gx Gy Gz Hb Hc Hf Hg Hh Hj Hk Hm Hq Ht Hv Hw Hx Hy Hz Ib Ic If Ig Ih Ij Ik Im Iq It Iv Iw Ix Iy Iz Jb Jc Jf Jg Jh Jj Jk Jm Jq Jt Jv Jw Jx Jy Jz Kb Kc Kf Kg Kh Kj Kk Km Kq Kt Kv Kw Kx Ky Kz Mb Mc Mf Mg Mh Mj Mk Mm Mq Mt Mv Mw Mx My Mz Nb Nc Nf Ng Nh Nj Nk Nm Nq Nt Nv Nw Nx Ny Nz Ob Oc Of Og Oh Oj Ok Om Oq Ot Ov Ow Ox Oy Oz Pb Pc Pf Pg Ph Pj Pk Pm Pq Pt Pv Pw Px Py Pz Rb Rc Rf Rg Rh : Value) (w' : World), Hid (Below w.heap.size w w') → Q0 .normal ⟨#[A0,A1,A2,A3,A4,A5,A6,A7,A8,.slice (some ⟨rg, 0, none⟩) 8 8,B0,B1,B2,.string s,.pointer (some ⟨pw, 0, none⟩),.func (.func 45) #[] #[.pointer (some ⟨pw, 0, none⟩)],B6,.int .i64 0,.int .i64 (r : Int),.string (s.extract 6 s.size),.string ⟨#[]⟩,Bk,Bm,Bq,Bt,C5,C6,C7,C8,C9,D0,D1,D2,D3,D4,D5,D6,D7,D8,D9,E0,E1,Cx,Cy,Cz,Db,Dc,Df,Dg,Dh,Dj,Dk,Dm,Dq,Dt,Dv,Dw,Dx,Dy,Dz,Eb,Ec,Ef,Eg,Eh,Ej,Ek,Em,Eq,Et,Ev,Ew,Ex,Ey,Ez,Gb,Gc,Gf,Gg,Gh,Gj,Gk,Gm,Gq,Gt,Gv,Gw,Gx,Gy,Gz,Hb,Hc,Hf,Hg,Hh,Hj,Hk,Hm,Hq,Ht,Hv,Hw,Hx,Hy,Hz,Ib,Ic,If,Ig,Ih,Ij,Ik,Im,Iq,It,Iv,Iw,Ix,Iy,Iz,Jb,Jc,Jf,Jg,Jh,Jj,Jk,Jm,Jq,Jt,Jv,Jw,Jx,Jy,Jz,Kb,Kc,Kf,Kg,Kh,Kj,Kk,Km,Kq,Kt,Kv,Kw,Kx,Ky,Kz,Mb,Mc,Mf,Mg,Mh,Mj,Mk,Mm,Mq,Mt,Mv,Mw,Mx,My,Mz,Nb,Nc,Nf,Ng,Nh,Nj,Nk,Nm,Nq,Nt,Nv,Nw,Nx,Ny,Nz,Ob,Oc,Of,Og,Oh,Oj,Ok,Om,Oq,Ot,Ov,Ow,Ox,Oy,Oz,Pb,Pc,Pf,Pg,Ph,Pj,Pk,Pm,Pq,Pt,Pv,Pw,Px,Py,Pz,Rb,Rc,Rf,Rg,Rh,Y5,Y6,Y7,Y8,Y9,Z0,Z1,Z2,Z3,Z4,Z5,Z6,Z7,Z8,Z9,j0,j1,j2,j3,j4,j5,j6,j7,j8,j9,o0,o1,o2,o3,o4,o5,o6,o7,o8,o9,y0,y1,y2,y3,y4,y5,y6,y7,y8,y9,z0,z1,z2,z3,z4,z5,z6,z7,z8,z9,x0,x1,x2,x3,x4,x5,x6,x7,x8,x9,i0,i1,i2,i3,i4,i5,i6,i7,i8,i9,d0,d1,d2,d3,d4,d5,d6,d7,d8,d9,e0,e1,e2,e3,e4,e5,e6,e7,e8,e9,f0,f1,f2,f3,f4,f5,f6,f7,f8,f9,p0,p1,p2,p3,p4,p5,p6,p7,p8,p9,v0,v1,v2,v3,v4,v5,v6,v7,v8], []⟩ w')) :
    Code.wp Tryz.prog (subC [true, true, true, true, false, true, false, false, true, false, true, true, true, true, true, true, true, false] (Tryz.f25.body.getD .skip)) Q0 ⟨#[A0,A1,A2,A3,A4,A5,A6,A7,A8,.slice (some ⟨rg, 0, none⟩) 8 8,B0,B1,B2,.string s,.pointer (some ⟨pw, 0, none⟩),.func (.func 45) #[] #[.pointer (some ⟨pw, 0, none⟩)],B6,.int .i64 0,.int .i64 (-1),.string ⟨#[]⟩,.string ⟨#[]⟩,C1,C2,C3,C4,C5,C6,C7,C8,C9,D0,D1,D2,D3,D4,D5,D6,D7,D8,D9,E0,E1,E2,E3,E4,E5,E6,E7,E8,E9,G0,G1,G2,G3,G4,G5,G6,G7,G8,G9,H0,H1,H2,H3,H4,H5,H6,H7,H8,H9,I0,I1,I2,I3,I4,I5,I6,I7,I8,I9,J0,J1,J2,J3,J4,J5,J6,J7,J8,J9,K0,K1,K2,K3,K4,K5,K6,K7,K8,K9,M0,M1,M2,M3,M4,M5,M6,M7,M8,M9,N0,N1,N2,N3,N4,N5,N6,N7,N8,N9,O0,O1,O2,O3,O4,O5,O6,O7,O8,O9,P0,P1,P2,P3,P4,P5,P6,P7,P8,P9,R0,R1,R2,R3,R4,R5,R6,R7,R8,R9,S0,S1,S2,S3,S4,S5,S6,S7,S8,S9,T0,T1,T2,T3,T4,T5,T6,T7,T8,T9,U0,U1,U2,U3,U4,U5,U6,U7,U8,U9,V0,V1,V2,V3,V4,V5,V6,V7,V8,V9,W0,W1,W2,W3,W4,W5,W6,W7,W8,W9,X0,X1,X2,X3,X4,X5,X6,X7,X8,X9,Y0,Y1,Y2,Y3,Y4,Y5,Y6,Y7,Y8,Y9,Z0,Z1,Z2,Z3,Z4,Z5,Z6,Z7,Z8,Z9,j0,j1,j2,j3,j4,j5,j6,j7,j8,j9,o0,o1,o2,o3,o4,o5,o6,o7,o8,o9,y0,y1,y2,y3,y4,y5,y6,y7,y8,y9,z0,z1,z2,z3,z4,z5,z6,z7,z8,z9,x0,x1,x2,x3,x4,x5,x6,x7,x8,x9,i0,i1,i2,i3,i4,i5,i6,i7,i8,i9,d0,d1,d2,d3,d4,d5,d6,d7,d8,d9,e0,e1,e2,e3,e4,e5,e6,e7,e8,e9,f0,f1,f2,f3,f4,f5,f6,f7,f8,f9,p0,p1,p2,p3,p4,p5,p6,p7,p8,p9,v0,v1,v2,v3,v4,v5,v6,v7,v8], []⟩ w := by
  have HR1 : Hid (∀ W : World, W.heap = w.heap → Calls Tryz.prog 45 #[.int .i64 1, .pointer (some ⟨pw, 0, none⟩)] W fun e w' => e = .returned (.int .i64 (r : Int)) ∧ w' = W) := fun W hW => reg_call pw g 1 n cap s1 r W (by rw [cell_heap hW]; exact hpw) (by omega) (by rw [cell_heap hW]; exact h1) hs1 hr1
  have hni : (0 : Int) < (n : Int) := by omega
  have hss : (6 : Int) ≤ (s.size : Int) := by omega
  clear hn hs1 hr1 h1
  conv => arg 2; whnf
  dsimp only
  go_wp2
  go_quiet ((go_at_call 45; refine Calls.quiet_of_same (HR1.out _ rfl)))
  go_wp2
  apply HX.out; exact (below_dn w _)
end Go.Proofs.YtapiedeekbfpnaaGreatDoor

/- The document's RunCommand, behind its first switch: jumps and ends. -/
namespace Go.Proofs.YtapiedeekbfpnaaGreatDoor
open Go.RowKit Go.Shelf Go.Maps Go.WideMaps Go.Sort
variable {A0 A1 A2 A3 A4 A5 A6 A7 A8 A9 B0 B1 B2 B3 B4 B5 B6 B7 B8 B9 C0 C1 C2 C3 C4 C5 C6 C7 C8 C9 D0 D1 D2 D3 D4 D5 D6 D7 D8 D9 E0 E1 E2 E3 E4 E5 E6 E7 E8 E9 G0 G1 G2 G3 G4 G5 G6 G7 G8 G9 H0 H1 H2 H3 H4 H5 H6 H7 H8 H9 I0 I1 I2 I3 I4 I5 I6 I7 I8 I9 J0 J1 J2 J3 J4 J5 J6 J7 J8 J9 K0 K1 K2 K3 K4 K5 K6 K7 K8 K9 M0 M1 M2 M3 M4 M5 M6 M7 M8 M9 N0 N1 N2 N3 N4 N5 N6 N7 N8 N9 O0 O1 O2 O3 O4 O5 O6 O7 O8 O9 P0 P1 P2 P3 P4 P5 P6 P7 P8 P9 R0 R1 R2 R3 R4 R5 R6 R7 R8 R9 S0 S1 S2 S3 S4 S5 S6 S7 S8 S9 T0 T1 T2 T3 T4 T5 T6 T7 T8 T9 U0 U1 U2 U3 U4 U5 U6 U7 U8 U9 V0 V1 V2 V3 V4 V5 V6 V7 V8 V9 W0 W1 W2 W3 W4 W5 W6 W7 W8 W9 X0 X1 X2 X3 X4 X5 X6 X7 X8 X9 Y0 Y1 Y2 Y3 Y4 Y5 Y6 Y7 Y8 Y9 Z0 Z1 Z2 Z3 Z4 Z5 Z6 Z7 Z8 Z9 j0 j1 j2 j3 j4 j5 j6 j7 j8 j9 o0 o1 o2 o3 o4 o5 o6 o7 o8 o9 y0 y1 y2 y3 y4 y5 y6 y7 y8 y9 z0 z1 z2 z3 z4 z5 z6 z7 z8 z9 x0 x1 x2 x3 x4 x5 x6 x7 x8 x9 i0 i1 i2 i3 i4 i5 i6 i7 i8 i9 d0 d1 d2 d3 d4 d5 d6 d7 d8 d9 e0 e1 e2 e3 e4 e5 e6 e7 e8 e9 f0 f1 f2 f3 f4 f5 f6 f7 f8 f9 p0 p1 p2 p3 p4 p5 p6 p7 p8 p9 v0 v1 v2 v3 v4 v5 v6 v7 v8 : Value}

set_option maxHeartbeats 8000000 in
set_option maxRecDepth 100000 in
theorem gotoT (pw g n cap rg fu lf l1 : Nat) (k : Nat) (s1 : ByteArray) (w : World) (hpw : w.cell? ⟨pw, 0, none⟩ = some (.slice (some ⟨g, 0, none⟩) n cap)) (h0 : w.cell? ⟨g, 0, none⟩ = some (.string ⟨#[103, 111, 116, 111]⟩)) (hn : 1 < n) (h1 : w.cell? ⟨g, 1, none⟩ = some (.string s1)) (hz : s1.size ≤ 1000000) (hk : nmbF s1.data.toList ((60 : Nat) : Int) = (k : Int))
    (hf : fu ≤ 100000) (hl : lf ≤ fu) (hl1 : 1 ≤ lf → l1 = lf - 1) (Q0 : Exit → Act → World → Prop)
    (HO : Hid (lf < 1 → ∀ (Aw Bc Bf Bv Bw Rj Rk Rm Rq Rt Rv Rw Rx Ry Rz Sb Sc Sf Sg Sh Sj Sk Sm Sq St Sv Sw Sx Sy Sz Tb Tc Tf Tg Th Tj Tk Tm Tq Tt Tv Tw Tx Ty Tz Ub Uc Uf Ug Uh Uj Uk Um Uq Ut Uv Uw Ux Uy Uz Vb Vc Vf Vg Vh Vj Vk Vm Vq Vt Vv Vw Vx Vy Vz Wb Wc Wf Wg Wh Wj Wk Wm Wq Wt Wv Ww Wx Wy Wz Xb Xc Xf Xg Xh Xj Xk Xm Xq Xt Xv Xw Xx Xy Xz Yb Yc Yf Yg Yh Yj Yk Ym Yq Yt Yv Yw Yx Yy Yz Zb Zc Zf Zg Zh : Value), Q0 .ret ⟨#[A0,A1,.int .i64 (fu : Int),A3,A4,A5,B0,.int .i64 104,.int .i64 (fu : Int),.slice (some ⟨rg, 0, none⟩) 8 8,B0,Aw,B2,B3,.pointer (some ⟨pw, 0, none⟩),.func (.func 45) #[] #[.pointer (some ⟨pw, 0, none⟩)],Bc,Bf,.int .i64 (-1),B9,.string ⟨#[]⟩,C1,C2,C3,C4,Bv,Bw,C7,C8,C9,D0,D1,D2,D3,D4,D5,D6,D7,D8,D9,E0,E1,E2,E3,E4,E5,E6,E7,E8,E9,G0,G1,G2,G3,G4,G5,G6,G7,G8,G9,H0,H1,H2,H3,H4,H5,H6,H7,H8,H9,I0,I1,I2,I3,I4,I5,I6,I7,I8,I9,J0,J1,J2,J3,J4,J5,J6,J7,J8,J9,K0,K1,K2,K3,K4,K5,K6,K7,K8,K9,M0,M1,M2,M3,M4,M5,M6,M7,M8,M9,N0,N1,N2,N3,N4,N5,N6,N7,N8,N9,O0,O1,O2,O3,O4,O5,O6,O7,O8,O9,P0,P1,P2,P3,P4,P5,P6,P7,P8,P9,R0,R1,R2,R3,R4,R5,R6,R7,R8,R9,S0,S1,S2,S3,S4,S5,S6,S7,S8,S9,T0,T1,T2,T3,T4,T5,T6,T7,T8,T9,U0,U1,U2,U3,U4,U5,U6,U7,U8,U9,V0,V1,V2,V3,V4,V5,V6,V7,V8,V9,W0,W1,W2,W3,W4,W5,W6,W7,W8,W9,X0,X1,X2,X3,X4,X5,X6,X7,X8,X9,Y0,Y1,Y2,Y3,Y4,Rj,Rk,Rm,Rq,Rt,Rv,Rw,Rx,Ry,Rz,Sb,Sc,Sf,Sg,Sh,Sj,Sk,Sm,Sq,St,Sv,Sw,Sx,Sy,Sz,Tb,Tc,Tf,Tg,Th,Tj,Tk,Tm,Tq,Tt,Tv,Tw,Tx,Ty,Tz,Ub,Uc,Uf,Ug,Uh,Uj,Uk,Um,Uq,Ut,Uv,Uw,Ux,Uy,Uz,Vb,Vc,Vf,Vg,Vh,Vj,Vk,Vm,Vq,Vt,Vv,Vw,Vx,Vy,Vz,Wb,Wc,Wf,Wg,Wh,Wj,Wk,Wm,Wq,Wt,Wv,Ww,Wx,Wy,Wz,Xb,Xc,Xf,Xg,Xh,Xj,Xk,Xm,Xq,Xt,Xv,Xw,Xx,Xy,Xz,Yb,Yc,Yf,Yg,Yh,Yj,Yk,Ym,Yq,Yt,Yv,Yw,Yx,Yy,Yz,Zb,Zc,Zf,Zg,Zh,v5,v6,v7,v8], []⟩ w)) (HG : Hid (¬ lf < 1 → ∀ (Bc Bf Bv Bw Rj Rk Rm Rq Rt Rv Rw Rx Ry Rz Sb Sc Sf Sg Sh Sj Sk Sm Sq St Sv Sw Sx Sy Sz Tb Tc Tf Tg Th Tj Tk Tm Tq Tt Tv Tw Tx Ty Tz Ub Uc Uf Ug Uh Uj Uk Um Uq Ut Uv Uw Ux Uy Uz Vb Vc Vf Vg Vh Vj Vk Vm Vq Vt Vv Vw Vx Vy Vz Wb Wc Wf Wg Wh Wj Wk Wm Wq Wt Wv Ww Wx Wy Wz Xb Xc Xf Xg Xh Xj Xk Xm Xq Xt Xv Xw Xx Xy Xz Yb Yc Yf Yg Yh Yj Yk Ym Yq Yt Yv Yw Yx Yy Yz Zb Zc Zf Zg Zh : Value) (w' : World), Hid (Below w.heap.size w w') → Q0 .normal ⟨#[A0,A1,.int .i64 (fu : Int),A3,A4,A5,A6,A7,A8,.slice (some ⟨rg, 0, none⟩) 8 8,B0,.int .i64 (l1 : Int),.int .i64 (k : Int),B3,.pointer (some ⟨pw, 0, none⟩),.func (.func 45) #[] #[.pointer (some ⟨pw, 0, none⟩)],Bc,Bf,.int .i64 (-1),B9,.string ⟨#[]⟩,C1,C2,C3,C4,Bv,Bw,C7,C8,C9,D0,D1,D2,D3,D4,D5,D6,D7,D8,D9,E0,E1,E2,E3,E4,E5,E6,E7,E8,E9,G0,G1,G2,G3,G4,G5,G6,G7,G8,G9,H0,H1,H2,H3,H4,H5,H6,H7,H8,H9,I0,I1,I2,I3,I4,I5,I6,I7,I8,I9,J0,J1,J2,J3,J4,J5,J6,J7,J8,J9,K0,K1,K2,K3,K4,K5,K6,K7,K8,K9,M0,M1,M2,M3,M4,M5,M6,M7,M8,M9,N0,N1,N2,N3,N4,N5,N6,N7,N8,N9,O0,O1,O2,O3,O4,O5,O6,O7,O8,O9,P0,P1,P2,P3,P4,P5,P6,P7,P8,P9,R0,R1,R2,R3,R4,R5,R6,R7,R8,R9,S0,S1,S2,S3,S4,S5,S6,S7,S8,S9,T0,T1,T2,T3,T4,T5,T6,T7,T8,T9,U0,U1,U2,U3,U4,U5,U6,U7,U8,U9,V0,V1,V2,V3,V4,V5,V6,V7,V8,V9,W0,W1,W2,W3,W4,W5,W6,W7,W8,W9,X0,X1,X2,X3,X4,X5,X6,X7,X8,X9,Y0,Y1,Y2,Y3,Y4,Rj,Rk,Rm,Rq,Rt,Rv,Rw,Rx,Ry,Rz,Sb,Sc,Sf,Sg,Sh,Sj,Sk,Sm,Sq,St,Sv,Sw,Sx,Sy,Sz,Tb,Tc,Tf,Tg,Th,Tj,Tk,Tm,Tq,Tt,Tv,Tw,Tx,Ty,Tz,Ub,Uc,Uf,Ug,Uh,Uj,Uk,Um,Uq,Ut,Uv,Uw,Ux,Uy,Uz,Vb,Vc,Vf,Vg,Vh,Vj,Vk,Vm,Vq,Vt,Vv,Vw,Vx,Vy,Vz,Wb,Wc,Wf,Wg,Wh,Wj,Wk,Wm,Wq,Wt,Wv,Ww,Wx,Wy,Wz,Xb,Xc,Xf,Xg,Xh,Xj,Xk,Xm,Xq,Xt,Xv,Xw,Xx,Xy,Xz,Yb,Yc,Yf,Yg,Yh,Yj,Yk,Ym,Yq,Yt,Yv,Yw,Yx,Yy,Yz,Zb,Zc,Zf,Zg,Zh,v5,v6,v7,v8], []⟩ w')) :
    Code.wp Tryz.prog (subC [true, true, true, true, false, true, false, false, true, false, true, true, true, true, true, true, true, true] (Tryz.f25.body.getD .skip)) Q0 ⟨#[A0,A1,.int .i64 (fu : Int),A3,A4,A5,A6,A7,A8,.slice (some ⟨rg, 0, none⟩) 8 8,B0,.int .i64 (lf : Int),B2,B3,.pointer (some ⟨pw, 0, none⟩),.func (.func 45) #[] #[.pointer (some ⟨pw, 0, none⟩)],.int .i64 1,.int .i64 0,.int .i64 (-1),B9,.string ⟨#[]⟩,C1,C2,C3,C4,C5,C6,C7,C8,C9,D0,D1,D2,D3,D4,D5,D6,D7,D8,D9,E0,E1,E2,E3,E4,E5,E6,E7,E8,E9,G0,G1,G2,G3,G4,G5,G6,G7,G8,G9,H0,H1,H2,H3,H4,H5,H6,H7,H8,H9,I0,I1,I2,I3,I4,I5,I6,I7,I8,I9,J0,J1,J2,J3,J4,J5,J6,J7,J8,J9,K0,K1,K2,K3,K4,K5,K6,K7,K8,K9,M0,M1,M2,M3,M4,M5,M6,M7,M8,M9,N0,N1,N2,N3,N4,N5,N6,N7,N8,N9,O0,O1,O2,O3,O4,O5,O6,O7,O8,O9,P0,P1,P2,P3,P4,P5,P6,P7,P8,P9,R0,R1,R2,R3,R4,R5,R6,R7,R8,R9,S0,S1,S2,S3,S4,S5,S6,S7,S8,S9,T0,T1,T2,T3,T4,T5,T6,T7,T8,T9,U0,U1,U2,U3,U4,U5,U6,U7,U8,U9,V0,V1,V2,V3,V4,V5,V6,V7,V8,V9,W0,W1,W2,W3,W4,W5,W6,W7,W8,W9,X0,X1,X2,X3,X4,X5,X6,X7,X8,X9,Y0,Y1,Y2,Y3,Y4,Y5,Y6,Y7,Y8,Y9,Z0,Z1,Z2,Z3,Z4,Z5,Z6,Z7,Z8,Z9,j0,j1,j2,j3,j4,j5,j6,j7,j8,j9,o0,o1,o2,o3,o4,o5,o6,o7,o8,o9,y0,y1,y2,y3,y4,y5,y6,y7,y8,y9,z0,z1,z2,z3,z4,z5,z6,z7,z8,z9,x0,x1,x2,x3,x4,x5,x6,x7,x8,x9,i0,i1,i2,i3,i4,i5,i6,i7,i8,i9,d0,d1,d2,d3,d4,d5,d6,d7,d8,d9,e0,e1,e2,e3,e4,e5,e6,e7,e8,e9,f0,f1,f2,f3,f4,f5,f6,f7,f8,f9,p0,p1,p2,p3,p4,p5,p6,p7,p8,p9,v0,v1,v2,v3,v4,v5,v6,v7,v8], []⟩ w := by
  have HN : Hid (∀ W : World, Calls Tryz.prog 46 #[.string s1, .int .i64 60] W fun e w' => e = .returned (.int .i64 (k : Int)) ∧ w' = W) := fun W => (NumberOf_any s1 60 W hz).mono fun e w' ⟨q1, q2⟩ => ⟨q1.trans (by rw [← hk]), q2⟩
  have kn : (0 : Int) < (n : Int) := by omega
  have kn1 : (1 : Int) < (n : Int) := by omega
  clear hn hk hz
  by_cases h : lf < 1
  · have HH : Hid _ := h
    have k3 : (lf : Int) < 1 := by omega
    clear HG h hf hl hl1
    conv => arg 2; whnf
    dsimp only
    go_wp2
    apply HO.out HH.out
  · have HH : Hid _ := h
    have k3 : ¬ (lf : Int) < 1 := by omega
    have k4 : (lf : Int) - 1 = (l1 : Int) := by have := hl1 (by omega); omega
    have k5 : IntKind.i64.wrap (l1 : Int) = (l1 : Int) := by rw [IntKind.wrap_i64]; have := hl1 (by omega); omega
    clear HO h hf hl hl1
    conv => arg 2; whnf
    dsimp only
    go_wp2_with (first
      | (go_at_call 46; refine (HN.out _).mono ?_; rintro e w1 ⟨rfl, hw⟩; subst w1)
      | go_in)
    apply HG.out HH.out; exact (Below.refl _ w)

set_option maxHeartbeats 8000000 in
set_option maxRecDepth 100000 in
theorem exitT (pw g n cap rg fu lf l1 : Nat) (k sp : Nat) (s1 : ByteArray) (w : World) (hpw : w.cell? ⟨pw, 0, none⟩ = some (.slice (some ⟨g, 0, none⟩) n cap)) (h0 : w.cell? ⟨g, 0, none⟩ = some (.string ⟨#[101, 120, 105, 116]⟩)) (hn : 1 < n) (h1 : w.cell? ⟨g, 1, none⟩ = some (.string s1)) (hz : s1.size ≤ 1000000) (hk : nmbF s1.data.toList ((99 : Nat) : Int) = (k : Int)) (hsp : 1 ≤ lf → sp = fu - l1)
    (hf : fu ≤ 100000) (hl : lf ≤ fu) (hl1 : 1 ≤ lf → l1 = lf - 1) (Q0 : Exit → Act → World → Prop)
    (HO : Hid (lf < 1 → ∀ (Aw Bc Bf Bv Bw Rj Rk Rm Rq Rt Rv Rw Rx Ry Rz Sb Sc Sf Sg Sh Sj Sk Sm Sq St Sv Sw Sx Sy Sz Tb Tc Tf Tg Th Tj Tk Tm Tq Tt Tv Tw Tx Ty Tz Ub Uc Uf Ug Uh Uj Uk Um Uq Ut Uv Uw Ux Uy Uz Vb Vc Vf Vg Vh Vj Vk Vm Vq Vt Vv Vw Vx Vy Vz Wb Wc Wf Wg Wh Wj Wk Wm Wq Wt Wv Ww Wx Wy Wz Xb Xc Xf Xg Xh Xj Xk Xm Xq Xt Xv Xw Xx Xy Xz Yb Yc Yf Yg Yh Yj Yk Ym Yq Yt Yv Yw Yx Yy Yz Zb Zc Zf Zg Zh : Value), Q0 .ret ⟨#[A0,A1,.int .i64 (fu : Int),A3,A4,A5,B0,.int .i64 104,.int .i64 (fu : Int),.slice (some ⟨rg, 0, none⟩) 8 8,B0,Aw,B2,B3,.pointer (some ⟨pw, 0, none⟩),.func (.func 45) #[] #[.pointer (some ⟨pw, 0, none⟩)],Bc,Bf,.int .i64 (-1),B9,.string ⟨#[]⟩,C1,C2,C3,C4,Bv,Bw,C7,C8,C9,D0,D1,D2,D3,D4,D5,D6,D7,D8,D9,E0,E1,E2,E3,E4,E5,E6,E7,E8,E9,G0,G1,G2,G3,G4,G5,G6,G7,G8,G9,H0,H1,H2,H3,H4,H5,H6,H7,H8,H9,I0,I1,I2,I3,I4,I5,I6,I7,I8,I9,J0,J1,J2,J3,J4,J5,J6,J7,J8,J9,K0,K1,K2,K3,K4,K5,K6,K7,K8,K9,M0,M1,M2,M3,M4,M5,M6,M7,M8,M9,N0,N1,N2,N3,N4,N5,N6,N7,N8,N9,O0,O1,O2,O3,O4,O5,O6,O7,O8,O9,P0,P1,P2,P3,P4,P5,P6,P7,P8,P9,R0,R1,R2,R3,R4,R5,R6,R7,R8,R9,S0,S1,S2,S3,S4,S5,S6,S7,S8,S9,T0,T1,T2,T3,T4,T5,T6,T7,T8,T9,U0,U1,U2,U3,U4,U5,U6,U7,U8,U9,V0,V1,V2,V3,V4,V5,V6,V7,V8,V9,W0,W1,W2,W3,W4,W5,W6,W7,W8,W9,X0,X1,X2,X3,X4,X5,X6,X7,X8,X9,Y0,Y1,Y2,Y3,Y4,Rj,Rk,Rm,Rq,Rt,Rv,Rw,Rx,Ry,Rz,Sb,Sc,Sf,Sg,Sh,Sj,Sk,Sm,Sq,St,Sv,Sw,Sx,Sy,Sz,Tb,Tc,Tf,Tg,Th,Tj,Tk,Tm,Tq,Tt,Tv,Tw,Tx,Ty,Tz,Ub,Uc,Uf,Ug,Uh,Uj,Uk,Um,Uq,Ut,Uv,Uw,Ux,Uy,Uz,Vb,Vc,Vf,Vg,Vh,Vj,Vk,Vm,Vq,Vt,Vv,Vw,Vx,Vy,Vz,Wb,Wc,Wf,Wg,Wh,Wj,Wk,Wm,Wq,Wt,Wv,Ww,Wx,Wy,Wz,Xb,Xc,Xf,Xg,Xh,Xj,Xk,Xm,Xq,Xt,Xv,Xw,Xx,Xy,Xz,Yb,Yc,Yf,Yg,Yh,Yj,Yk,Ym,Yq,Yt,Yv,Yw,Yx,Yy,Yz,Zb,Zc,Zf,Zg,Zh,v5,v6,v7,v8], []⟩ w)) (HG : Hid (¬ lf < 1 → ∀ (Aw Bc Bf Bv Bw Rj Rk Rm Rq Rt Rv Rw Rx Ry Rz Sb Sc Sf Sg Sh Sj Sk Sm Sq St Sv Sw Sx Sy Sz Tb Tc Tf Tg Th Tj Tk Tm Tq Tt Tv Tw Tx Ty Tz Ub Uc Uf Ug Uh Uj Uk Um Uq Ut Uv Uw Ux Uy Uz Vb Vc Vf Vg Vh Vj Vk Vm Vq Vt Vv Vw Vx Vy Vz Wb Wc Wf Wg Wh Wj Wk Wm Wq Wt Wv Ww Wx Wy Wz Xb Xc Xf Xg Xh Xj Xk Xm Xq Xt Xv Xw Xx Xy Xz Yb Yc Yf Yg Yh Yj Yk Ym Yq Yt Yv Yw Yx Yy Yz Zb Zc Zf Zg Zh : Value), Q0 .ret ⟨#[A0,A1,.int .i64 (fu : Int),A3,A4,A5,B0,.int .i64 (k : Int),.int .i64 (sp : Int),.slice (some ⟨rg, 0, none⟩) 8 8,B0,Aw,B2,B3,.pointer (some ⟨pw, 0, none⟩),.func (.func 45) #[] #[.pointer (some ⟨pw, 0, none⟩)],Bc,Bf,.int .i64 (-1),B9,.string ⟨#[]⟩,C1,C2,C3,C4,Bv,Bw,C7,C8,C9,D0,D1,D2,D3,D4,D5,D6,D7,D8,D9,E0,E1,E2,E3,E4,E5,E6,E7,E8,E9,G0,G1,G2,G3,G4,G5,G6,G7,G8,G9,H0,H1,H2,H3,H4,H5,H6,H7,H8,H9,I0,I1,I2,I3,I4,I5,I6,I7,I8,I9,J0,J1,J2,J3,J4,J5,J6,J7,J8,J9,K0,K1,K2,K3,K4,K5,K6,K7,K8,K9,M0,M1,M2,M3,M4,M5,M6,M7,M8,M9,N0,N1,N2,N3,N4,N5,N6,N7,N8,N9,O0,O1,O2,O3,O4,O5,O6,O7,O8,O9,P0,P1,P2,P3,P4,P5,P6,P7,P8,P9,R0,R1,R2,R3,R4,R5,R6,R7,R8,R9,S0,S1,S2,S3,S4,S5,S6,S7,S8,S9,T0,T1,T2,T3,T4,T5,T6,T7,T8,T9,U0,U1,U2,U3,U4,U5,U6,U7,U8,U9,V0,V1,V2,V3,V4,V5,V6,V7,V8,V9,W0,W1,W2,W3,W4,W5,W6,W7,W8,W9,X0,X1,X2,X3,X4,X5,X6,X7,X8,X9,Y0,Y1,Y2,Y3,Y4,Rj,Rk,Rm,Rq,Rt,Rv,Rw,Rx,Ry,Rz,Sb,Sc,Sf,Sg,Sh,Sj,Sk,Sm,Sq,St,Sv,Sw,Sx,Sy,Sz,Tb,Tc,Tf,Tg,Th,Tj,Tk,Tm,Tq,Tt,Tv,Tw,Tx,Ty,Tz,Ub,Uc,Uf,Ug,Uh,Uj,Uk,Um,Uq,Ut,Uv,Uw,Ux,Uy,Uz,Vb,Vc,Vf,Vg,Vh,Vj,Vk,Vm,Vq,Vt,Vv,Vw,Vx,Vy,Vz,Wb,Wc,Wf,Wg,Wh,Wj,Wk,Wm,Wq,Wt,Wv,Ww,Wx,Wy,Wz,Xb,Xc,Xf,Xg,Xh,Xj,Xk,Xm,Xq,Xt,Xv,Xw,Xx,Xy,Xz,Yb,Yc,Yf,Yg,Yh,Yj,Yk,Ym,Yq,Yt,Yv,Yw,Yx,Yy,Yz,Zb,Zc,Zf,Zg,Zh,v5,v6,v7,v8], []⟩ w)) :
    Code.wp Tryz.prog (subC [true, true, true, true, false, true, false, false, true, false, true, true, true, true, true, true, true, true] (Tryz.f25.body.getD .skip)) Q0 ⟨#[A0,A1,.int .i64 (fu : Int),A3,A4,A5,A6,A7,A8,.slice (some ⟨rg, 0, none⟩) 8 8,B0,.int .i64 (lf : Int),B2,B3,.pointer (some ⟨pw, 0, none⟩),.func (.func 45) #[] #[.pointer (some ⟨pw, 0, none⟩)],.int .i64 1,.int .i64 0,.int .i64 (-1),B9,.string ⟨#[]⟩,C1,C2,C3,C4,C5,C6,C7,C8,C9,D0,D1,D2,D3,D4,D5,D6,D7,D8,D9,E0,E1,E2,E3,E4,E5,E6,E7,E8,E9,G0,G1,G2,G3,G4,G5,G6,G7,G8,G9,H0,H1,H2,H3,H4,H5,H6,H7,H8,H9,I0,I1,I2,I3,I4,I5,I6,I7,I8,I9,J0,J1,J2,J3,J4,J5,J6,J7,J8,J9,K0,K1,K2,K3,K4,K5,K6,K7,K8,K9,M0,M1,M2,M3,M4,M5,M6,M7,M8,M9,N0,N1,N2,N3,N4,N5,N6,N7,N8,N9,O0,O1,O2,O3,O4,O5,O6,O7,O8,O9,P0,P1,P2,P3,P4,P5,P6,P7,P8,P9,R0,R1,R2,R3,R4,R5,R6,R7,R8,R9,S0,S1,S2,S3,S4,S5,S6,S7,S8,S9,T0,T1,T2,T3,T4,T5,T6,T7,T8,T9,U0,U1,U2,U3,U4,U5,U6,U7,U8,U9,V0,V1,V2,V3,V4,V5,V6,V7,V8,V9,W0,W1,W2,W3,W4,W5,W6,W7,W8,W9,X0,X1,X2,X3,X4,X5,X6,X7,X8,X9,Y0,Y1,Y2,Y3,Y4,Y5,Y6,Y7,Y8,Y9,Z0,Z1,Z2,Z3,Z4,Z5,Z6,Z7,Z8,Z9,j0,j1,j2,j3,j4,j5,j6,j7,j8,j9,o0,o1,o2,o3,o4,o5,o6,o7,o8,o9,y0,y1,y2,y3,y4,y5,y6,y7,y8,y9,z0,z1,z2,z3,z4,z5,z6,z7,z8,z9,x0,x1,x2,x3,x4,x5,x6,x7,x8,x9,i0,i1,i2,i3,i4,i5,i6,i7,i8,i9,d0,d1,d2,d3,d4,d5,d6,d7,d8,d9,e0,e1,e2,e3,e4,e5,e6,e7,e8,e9,f0,f1,f2,f3,f4,f5,f6,f7,f8,f9,p0,p1,p2,p3,p4,p5,p6,p7,p8,p9,v0,v1,v2,v3,v4,v5,v6,v7,v8], []⟩ w := by
  have HN : Hid (∀ W : World, Calls Tryz.prog 46 #[.string s1, .int .i64 99] W fun e w' => e = .returned (.int .i64 (k : Int)) ∧ w' = W) := fun W => (NumberOf_any s1 99 W hz).mono fun e w' ⟨q1, q2⟩ => ⟨q1.trans (by rw [← hk]), q2⟩
  have kn : (0 : Int) < (n : Int) := by omega
  have kn1 : (1 : Int) < (n : Int) := by omega
  clear hn hk hz
  by_cases h : lf < 1
  · have HH : Hid _ := h
    have k3 : (lf : Int) < 1 := by omega
    clear HG h hf hl hl1
    conv => arg 2; whnf
    dsimp only
    go_wp2
    apply HO.out HH.out
  · have HH : Hid _ := h
    have k3 : ¬ (lf : Int) < 1 := by omega
    have k4 : (lf : Int) - 1 = (l1 : Int) := by have := hl1 (by omega); omega
    have k5 : IntKind.i64.wrap (l1 : Int) = (l1 : Int) := by rw [IntKind.wrap_i64]; have := hl1 (by omega); omega
    have k6 : (fu : Int) - (l1 : Int) = (sp : Int) := by have := hsp (by omega); have := hl1 (by omega); omega
    have k7 : IntKind.i64.wrap (sp : Int) = (sp : Int) := by rw [IntKind.wrap_i64]; omega
    clear hsp
    clear HO h hf hl hl1
    conv => arg 2; whnf
    dsimp only
    go_wp2_with (first
      | (go_at_call 46; refine (HN.out _).mono ?_; rintro e w1 ⟨rfl, hw⟩; subst w1)
      | go_in)
    apply HG.out HH.out

set_option maxHeartbeats 8000000 in
set_option maxRecDepth 100000 in
theorem sameT1 (pw g n cap rg fu lf l1 : Nat) (k r v : Nat) (s1 s2 s3 t1 t2 : ByteArray) (w : World) (hpw : w.cell? ⟨pw, 0, none⟩ = some (.slice (some ⟨g, 0, none⟩) n cap)) (h0 : w.cell? ⟨g, 0, none⟩ = some (.string ⟨#[115, 97, 109, 101]⟩)) (hn : 3 < n) (h1 : w.cell? ⟨g, 1, none⟩ = some (.string s1)) (h2 : w.cell? ⟨g, 2, none⟩ = some (.string s2)) (h3 : w.cell? ⟨g, 3, none⟩ = some (.string s3)) (hs1 : 0 < s1.size) (hr1 : s1[0].toNat = 97 + r) (hs2 : 0 < s2.size) (hr2 : s2[0].toNat = 97 + v) (hr : r < 8) (hv : v < 8) (ht1 : w.cell? ⟨rg, r, none⟩ = some (.string t1)) (ht2 : w.cell? ⟨rg, v, none⟩ = some (.string t2)) (hz : s3.size ≤ 1000000) (hk : nmbF s3.data.toList ((60 : Nat) : Int) = (k : Int)) (hb : (t1.toList == t2.toList) = true)
    (hf : fu ≤ 100000) (hl : lf ≤ fu) (hl1 : 1 ≤ lf → l1 = lf - 1) (Q0 : Exit → Act → World → Prop)
    (HO : Hid (lf < 1 → ∀ (Aw Bc Bf Bv Bw Rj Rk Rm Rq Rt Rv Rw Rx Ry Rz Sb Sc Sf Sg Sh Sj Sk Sm Sq St Sv Sw Sx Sy Sz Tb Tc Tf Tg Th Tj Tk Tm Tq Tt Tv Tw Tx Ty Tz Ub Uc Uf Ug Uh Uj Uk Um Uq Ut Uv Uw Ux Uy Uz Vb Vc Vf Vg Vh Vj Vk Vm Vq Vt Vv Vw Vx Vy Vz Wb Wc Wf Wg Wh Wj Wk Wm Wq Wt Wv Ww Wx Wy Wz Xb Xc Xf Xg Xh Xj Xk Xm Xq Xt Xv Xw Xx Xy Xz Yb Yc Yf Yg Yh Yj Yk Ym Yq Yt Yv Yw Yx Yy Yz Zb Zc Zf Zg Zh : Value), Q0 .ret ⟨#[A0,A1,.int .i64 (fu : Int),A3,A4,A5,B0,.int .i64 104,.int .i64 (fu : Int),.slice (some ⟨rg, 0, none⟩) 8 8,B0,Aw,B2,B3,.pointer (some ⟨pw, 0, none⟩),.func (.func 45) #[] #[.pointer (some ⟨pw, 0, none⟩)],Bc,Bf,.int .i64 (-1),B9,.string ⟨#[]⟩,C1,C2,C3,C4,Bv,Bw,C7,C8,C9,D0,D1,D2,D3,D4,D5,D6,D7,D8,D9,E0,E1,E2,E3,E4,E5,E6,E7,E8,E9,G0,G1,G2,G3,G4,G5,G6,G7,G8,G9,H0,H1,H2,H3,H4,H5,H6,H7,H8,H9,I0,I1,I2,I3,I4,I5,I6,I7,I8,I9,J0,J1,J2,J3,J4,J5,J6,J7,J8,J9,K0,K1,K2,K3,K4,K5,K6,K7,K8,K9,M0,M1,M2,M3,M4,M5,M6,M7,M8,M9,N0,N1,N2,N3,N4,N5,N6,N7,N8,N9,O0,O1,O2,O3,O4,O5,O6,O7,O8,O9,P0,P1,P2,P3,P4,P5,P6,P7,P8,P9,R0,R1,R2,R3,R4,R5,R6,R7,R8,R9,S0,S1,S2,S3,S4,S5,S6,S7,S8,S9,T0,T1,T2,T3,T4,T5,T6,T7,T8,T9,U0,U1,U2,U3,U4,U5,U6,U7,U8,U9,V0,V1,V2,V3,V4,V5,V6,V7,V8,V9,W0,W1,W2,W3,W4,W5,W6,W7,W8,W9,X0,X1,X2,X3,X4,X5,X6,X7,X8,X9,Y0,Y1,Y2,Y3,Y4,Rj,Rk,Rm,Rq,Rt,Rv,Rw,Rx,Ry,Rz,Sb,Sc,Sf,Sg,Sh,Sj,Sk,Sm,Sq,St,Sv,Sw,Sx,Sy,Sz,Tb,Tc,Tf,Tg,Th,Tj,Tk,Tm,Tq,Tt,Tv,Tw,Tx,Ty,Tz,Ub,Uc,Uf,Ug,Uh,Uj,Uk,Um,Uq,Ut,Uv,Uw,Ux,Uy,Uz,Vb,Vc,Vf,Vg,Vh,Vj,Vk,Vm,Vq,Vt,Vv,Vw,Vx,Vy,Vz,Wb,Wc,Wf,Wg,Wh,Wj,Wk,Wm,Wq,Wt,Wv,Ww,Wx,Wy,Wz,Xb,Xc,Xf,Xg,Xh,Xj,Xk,Xm,Xq,Xt,Xv,Xw,Xx,Xy,Xz,Yb,Yc,Yf,Yg,Yh,Yj,Yk,Ym,Yq,Yt,Yv,Yw,Yx,Yy,Yz,Zb,Zc,Zf,Zg,Zh,v5,v6,v7,v8], []⟩ w)) (HG : Hid (¬ lf < 1 → ∀ (Bc Bf Bv Bw Rj Rk Rm Rq Rt Rv Rw Rx Ry Rz Sb Sc Sf Sg Sh Sj Sk Sm Sq St Sv Sw Sx Sy Sz Tb Tc Tf Tg Th Tj Tk Tm Tq Tt Tv Tw Tx Ty Tz Ub Uc Uf Ug Uh Uj Uk Um Uq Ut Uv Uw Ux Uy Uz Vb Vc Vf Vg Vh Vj Vk Vm Vq Vt Vv Vw Vx Vy Vz Wb Wc Wf Wg Wh Wj Wk Wm Wq Wt Wv Ww Wx Wy Wz Xb Xc Xf Xg Xh Xj Xk Xm Xq Xt Xv Xw Xx Xy Xz Yb Yc Yf Yg Yh Yj Yk Ym Yq Yt Yv Yw Yx Yy Yz Zb Zc Zf Zg Zh : Value) (w' : World), Hid (Below w.heap.size w w') → Q0 .normal ⟨#[A0,A1,.int .i64 (fu : Int),A3,A4,A5,A6,A7,A8,.slice (some ⟨rg, 0, none⟩) 8 8,B0,.int .i64 (l1 : Int),.int .i64 (k : Int),B3,.pointer (some ⟨pw, 0, none⟩),.func (.func 45) #[] #[.pointer (some ⟨pw, 0, none⟩)],Bc,Bf,.int .i64 (-1),B9,.string ⟨#[]⟩,C1,C2,C3,C4,Bv,Bw,C7,C8,C9,D0,D1,D2,D3,D4,D5,D6,D7,D8,D9,E0,E1,E2,E3,E4,E5,E6,E7,E8,E9,G0,G1,G2,G3,G4,G5,G6,G7,G8,G9,H0,H1,H2,H3,H4,H5,H6,H7,H8,H9,I0,I1,I2,I3,I4,I5,I6,I7,I8,I9,J0,J1,J2,J3,J4,J5,J6,J7,J8,J9,K0,K1,K2,K3,K4,K5,K6,K7,K8,K9,M0,M1,M2,M3,M4,M5,M6,M7,M8,M9,N0,N1,N2,N3,N4,N5,N6,N7,N8,N9,O0,O1,O2,O3,O4,O5,O6,O7,O8,O9,P0,P1,P2,P3,P4,P5,P6,P7,P8,P9,R0,R1,R2,R3,R4,R5,R6,R7,R8,R9,S0,S1,S2,S3,S4,S5,S6,S7,S8,S9,T0,T1,T2,T3,T4,T5,T6,T7,T8,T9,U0,U1,U2,U3,U4,U5,U6,U7,U8,U9,V0,V1,V2,V3,V4,V5,V6,V7,V8,V9,W0,W1,W2,W3,W4,W5,W6,W7,W8,W9,X0,X1,X2,X3,X4,X5,X6,X7,X8,X9,Y0,Y1,Y2,Y3,Y4,Rj,Rk,Rm,Rq,Rt,Rv,Rw,Rx,Ry,Rz,Sb,Sc,Sf,Sg,Sh,Sj,Sk,Sm,Sq,St,Sv,Sw,Sx,Sy,Sz,Tb,Tc,Tf,Tg,Th,Tj,Tk,Tm,Tq,Tt,Tv,Tw,Tx,Ty,Tz,Ub,Uc,Uf,Ug,Uh,Uj,Uk,Um,Uq,Ut,Uv,Uw,Ux,Uy,Uz,Vb,Vc,Vf,Vg,Vh,Vj,Vk,Vm,Vq,Vt,Vv,Vw,Vx,Vy,Vz,Wb,Wc,Wf,Wg,Wh,Wj,Wk,Wm,Wq,Wt,Wv,Ww,Wx,Wy,Wz,Xb,Xc,Xf,Xg,Xh,Xj,Xk,Xm,Xq,Xt,Xv,Xw,Xx,Xy,Xz,Yb,Yc,Yf,Yg,Yh,Yj,Yk,Ym,Yq,Yt,Yv,Yw,Yx,Yy,Yz,Zb,Zc,Zf,Zg,Zh,v5,v6,v7,v8], []⟩ w')) :
    Code.wp Tryz.prog (subC [true, true, true, true, false, true, false, false, true, false, true, true, true, true, true, true, true, true] (Tryz.f25.body.getD .skip)) Q0 ⟨#[A0,A1,.int .i64 (fu : Int),A3,A4,A5,A6,A7,A8,.slice (some ⟨rg, 0, none⟩) 8 8,B0,.int .i64 (lf : Int),B2,B3,.pointer (some ⟨pw, 0, none⟩),.func (.func 45) #[] #[.pointer (some ⟨pw, 0, none⟩)],.int .i64 1,.int .i64 0,.int .i64 (-1),B9,.string ⟨#[]⟩,C1,C2,C3,C4,C5,C6,C7,C8,C9,D0,D1,D2,D3,D4,D5,D6,D7,D8,D9,E0,E1,E2,E3,E4,E5,E6,E7,E8,E9,G0,G1,G2,G3,G4,G5,G6,G7,G8,G9,H0,H1,H2,H3,H4,H5,H6,H7,H8,H9,I0,I1,I2,I3,I4,I5,I6,I7,I8,I9,J0,J1,J2,J3,J4,J5,J6,J7,J8,J9,K0,K1,K2,K3,K4,K5,K6,K7,K8,K9,M0,M1,M2,M3,M4,M5,M6,M7,M8,M9,N0,N1,N2,N3,N4,N5,N6,N7,N8,N9,O0,O1,O2,O3,O4,O5,O6,O7,O8,O9,P0,P1,P2,P3,P4,P5,P6,P7,P8,P9,R0,R1,R2,R3,R4,R5,R6,R7,R8,R9,S0,S1,S2,S3,S4,S5,S6,S7,S8,S9,T0,T1,T2,T3,T4,T5,T6,T7,T8,T9,U0,U1,U2,U3,U4,U5,U6,U7,U8,U9,V0,V1,V2,V3,V4,V5,V6,V7,V8,V9,W0,W1,W2,W3,W4,W5,W6,W7,W8,W9,X0,X1,X2,X3,X4,X5,X6,X7,X8,X9,Y0,Y1,Y2,Y3,Y4,Y5,Y6,Y7,Y8,Y9,Z0,Z1,Z2,Z3,Z4,Z5,Z6,Z7,Z8,Z9,j0,j1,j2,j3,j4,j5,j6,j7,j8,j9,o0,o1,o2,o3,o4,o5,o6,o7,o8,o9,y0,y1,y2,y3,y4,y5,y6,y7,y8,y9,z0,z1,z2,z3,z4,z5,z6,z7,z8,z9,x0,x1,x2,x3,x4,x5,x6,x7,x8,x9,i0,i1,i2,i3,i4,i5,i6,i7,i8,i9,d0,d1,d2,d3,d4,d5,d6,d7,d8,d9,e0,e1,e2,e3,e4,e5,e6,e7,e8,e9,f0,f1,f2,f3,f4,f5,f6,f7,f8,f9,p0,p1,p2,p3,p4,p5,p6,p7,p8,p9,v0,v1,v2,v3,v4,v5,v6,v7,v8], []⟩ w := by
  obtain ⟨rf, hrf1, hrf2⟩ : ∃ rf : Int → Int, rf 1 = (r : Int) ∧ rf 2 = (v : Int) := ⟨fun i => if i = 1 then (r : Int) else (v : Int), rfl, rfl⟩
  have HR : Hid (∀ (i : Int) (W : World), W.heap = w.heap → (i = 1 ∨ i = 2) → Calls Tryz.prog 45 #[.int .i64 i, .pointer (some ⟨pw, 0, none⟩)] W fun e w' => e = .returned (.int .i64 (rf i)) ∧ w' = W) := by
    rintro i W hW (rfl | rfl)
    · rw [hrf1]; exact reg_call pw g 1 n cap s1 r W (by rw [cell_heap hW]; exact hpw) (by omega) (by rw [cell_heap hW]; exact h1) hs1 hr1
    · rw [hrf2]; exact reg_call pw g 2 n cap s2 v W (by rw [cell_heap hW]; exact hpw) (by omega) (by rw [cell_heap hW]; exact h2) hs2 hr2
  have HN : Hid (∀ W : World, Calls Tryz.prog 46 #[.string s3, .int .i64 60] W fun e w' => e = .returned (.int .i64 (k : Int)) ∧ w' = W) := fun W => (NumberOf_any s3 60 W hz).mono fun e w' ⟨q1, q2⟩ => ⟨q1.trans (by rw [← hk]), q2⟩
  have kn : (0 : Int) < (n : Int) := by omega
  have kn3 : (3 : Int) < (n : Int) := by omega
  have kr : (r : Int) < 8 := by omega
  have kv : (v : Int) < 8 := by omega
  clear hn hk hz hs1 hr1 hs2 hr2 h1 h2 hr hv
  by_cases h : lf < 1
  · have HH : Hid _ := h
    have k3 : (lf : Int) < 1 := by omega
    clear HG h hf hl hl1
    conv => arg 2; whnf
    dsimp only
    go_wp2
    apply HO.out HH.out
  · have HH : Hid _ := h
    have k3 : ¬ (lf : Int) < 1 := by omega
    have k4 : (lf : Int) - 1 = (l1 : Int) := by have := hl1 (by omega); omega
    have k5 : IntKind.i64.wrap (l1 : Int) = (l1 : Int) := by rw [IntKind.wrap_i64]; have := hl1 (by omega); omega
    clear HO h hf hl hl1
    conv => arg 2; whnf
    dsimp only
    go_wp2
    go_quiet ((go_at_call 45; refine Calls.quiet_of_same (HR.out _ _ rfl (by decide))))
    go_wp2_with (first
      | (go_at_call 46; refine (HN.out _).mono ?_; rintro e w1 ⟨rfl, hw⟩; subst w1)
      | go_in)
    apply HG.out HH.out; exact (below_dn w _)

set_option maxHeartbeats 8000000 in
set_option maxRecDepth 100000 in
theorem sameT0 (pw g n cap rg fu lf l1 : Nat) (k r v : Nat) (s1 s2 s3 t1 t2 : ByteArray) (w : World) (hpw : w.cell? ⟨pw, 0, none⟩ = some (.slice (some ⟨g, 0, none⟩) n cap)) (h0 : w.cell? ⟨g, 0, none⟩ = some (.string ⟨#[115, 97, 109, 101]⟩)) (hn : 3 < n) (h1 : w.cell? ⟨g, 1, none⟩ = some (.string s1)) (h2 : w.cell? ⟨g, 2, none⟩ = some (.string s2)) (_h3 : w.cell? ⟨g, 3, none⟩ = some (.string s3)) (hs1 : 0 < s1.size) (hr1 : s1[0].toNat = 97 + r) (hs2 : 0 < s2.size) (hr2 : s2[0].toNat = 97 + v) (hr : r < 8) (hv : v < 8) (ht1 : w.cell? ⟨rg, r, none⟩ = some (.string t1)) (ht2 : w.cell? ⟨rg, v, none⟩ = some (.string t2)) (hz : s3.size ≤ 1000000) (hk : nmbF s3.data.toList ((60 : Nat) : Int) = (k : Int)) (hb : (t1.toList == t2.toList) = false)
    (hf : fu ≤ 100000) (hl : lf ≤ fu) (hl1 : 1 ≤ lf → l1 = lf - 1) (Q0 : Exit → Act → World → Prop)
    (HO : Hid (lf < 1 → ∀ (Aw Bc Bf Bv Bw Rj Rk Rm Rq Rt Rv Rw Rx Ry Rz Sb Sc Sf Sg Sh Sj Sk Sm Sq St Sv Sw Sx Sy Sz Tb Tc Tf Tg Th Tj Tk Tm Tq Tt Tv Tw Tx Ty Tz Ub Uc Uf Ug Uh Uj Uk Um Uq Ut Uv Uw Ux Uy Uz Vb Vc Vf Vg Vh Vj Vk Vm Vq Vt Vv Vw Vx Vy Vz Wb Wc Wf Wg Wh Wj Wk Wm Wq Wt Wv Ww Wx Wy Wz Xb Xc Xf Xg Xh Xj Xk Xm Xq Xt Xv Xw Xx Xy Xz Yb Yc Yf Yg Yh Yj Yk Ym Yq Yt Yv Yw Yx Yy Yz Zb Zc Zf Zg Zh : Value), Q0 .ret ⟨#[A0,A1,.int .i64 (fu : Int),A3,A4,A5,B0,.int .i64 104,.int .i64 (fu : Int),.slice (some ⟨rg, 0, none⟩) 8 8,B0,Aw,B2,B3,.pointer (some ⟨pw, 0, none⟩),.func (.func 45) #[] #[.pointer (some ⟨pw, 0, none⟩)],Bc,Bf,.int .i64 (-1),B9,.string ⟨#[]⟩,C1,C2,C3,C4,Bv,Bw,C7,C8,C9,D0,D1,D2,D3,D4,D5,D6,D7,D8,D9,E0,E1,E2,E3,E4,E5,E6,E7,E8,E9,G0,G1,G2,G3,G4,G5,G6,G7,G8,G9,H0,H1,H2,H3,H4,H5,H6,H7,H8,H9,I0,I1,I2,I3,I4,I5,I6,I7,I8,I9,J0,J1,J2,J3,J4,J5,J6,J7,J8,J9,K0,K1,K2,K3,K4,K5,K6,K7,K8,K9,M0,M1,M2,M3,M4,M5,M6,M7,M8,M9,N0,N1,N2,N3,N4,N5,N6,N7,N8,N9,O0,O1,O2,O3,O4,O5,O6,O7,O8,O9,P0,P1,P2,P3,P4,P5,P6,P7,P8,P9,R0,R1,R2,R3,R4,R5,R6,R7,R8,R9,S0,S1,S2,S3,S4,S5,S6,S7,S8,S9,T0,T1,T2,T3,T4,T5,T6,T7,T8,T9,U0,U1,U2,U3,U4,U5,U6,U7,U8,U9,V0,V1,V2,V3,V4,V5,V6,V7,V8,V9,W0,W1,W2,W3,W4,W5,W6,W7,W8,W9,X0,X1,X2,X3,X4,X5,X6,X7,X8,X9,Y0,Y1,Y2,Y3,Y4,Rj,Rk,Rm,Rq,Rt,Rv,Rw,Rx,Ry,Rz,Sb,Sc,Sf,Sg,Sh,Sj,Sk,Sm,Sq,St,Sv,Sw,Sx,Sy,Sz,Tb,Tc,Tf,Tg,Th,Tj,Tk,Tm,Tq,Tt,Tv,Tw,Tx,Ty,Tz,Ub,Uc,Uf,Ug,Uh,Uj,Uk,Um,Uq,Ut,Uv,Uw,Ux,Uy,Uz,Vb,Vc,Vf,Vg,Vh,Vj,Vk,Vm,Vq,Vt,Vv,Vw,Vx,Vy,Vz,Wb,Wc,Wf,Wg,Wh,Wj,Wk,Wm,Wq,Wt,Wv,Ww,Wx,Wy,Wz,Xb,Xc,Xf,Xg,Xh,Xj,Xk,Xm,Xq,Xt,Xv,Xw,Xx,Xy,Xz,Yb,Yc,Yf,Yg,Yh,Yj,Yk,Ym,Yq,Yt,Yv,Yw,Yx,Yy,Yz,Zb,Zc,Zf,Zg,Zh,v5,v6,v7,v8], []⟩ w)) (HG : Hid (¬ lf < 1 → ∀ (Bc Bf Bv Bw Rj Rk Rm Rq Rt Rv Rw Rx Ry Rz Sb Sc Sf Sg Sh Sj Sk Sm Sq St Sv Sw Sx Sy Sz Tb Tc Tf Tg Th Tj Tk Tm Tq Tt Tv Tw Tx Ty Tz Ub Uc Uf Ug Uh Uj Uk Um Uq Ut Uv Uw Ux Uy Uz Vb Vc Vf Vg Vh Vj Vk Vm Vq Vt Vv Vw Vx Vy Vz Wb Wc Wf Wg Wh Wj Wk Wm Wq Wt Wv Ww Wx Wy Wz Xb Xc Xf Xg Xh Xj Xk Xm Xq Xt Xv Xw Xx Xy Xz Yb Yc Yf Yg Yh Yj Yk Ym Yq Yt Yv Yw Yx Yy Yz Zb Zc Zf Zg Zh : Value) (w' : World), Hid (Below w.heap.size w w') → Q0 .normal ⟨#[A0,A1,.int .i64 (fu : Int),A3,A4,A5,A6,A7,A8,.slice (some ⟨rg, 0, none⟩) 8 8,B0,.int .i64 (l1 : Int),B2,B3,.pointer (some ⟨pw, 0, none⟩),.func (.func 45) #[] #[.pointer (some ⟨pw, 0, none⟩)],Bc,Bf,.int .i64 (-1),B9,.string ⟨#[]⟩,C1,C2,C3,C4,Bv,Bw,C7,C8,C9,D0,D1,D2,D3,D4,D5,D6,D7,D8,D9,E0,E1,E2,E3,E4,E5,E6,E7,E8,E9,G0,G1,G2,G3,G4,G5,G6,G7,G8,G9,H0,H1,H2,H3,H4,H5,H6,H7,H8,H9,I0,I1,I2,I3,I4,I5,I6,I7,I8,I9,J0,J1,J2,J3,J4,J5,J6,J7,J8,J9,K0,K1,K2,K3,K4,K5,K6,K7,K8,K9,M0,M1,M2,M3,M4,M5,M6,M7,M8,M9,N0,N1,N2,N3,N4,N5,N6,N7,N8,N9,O0,O1,O2,O3,O4,O5,O6,O7,O8,O9,P0,P1,P2,P3,P4,P5,P6,P7,P8,P9,R0,R1,R2,R3,R4,R5,R6,R7,R8,R9,S0,S1,S2,S3,S4,S5,S6,S7,S8,S9,T0,T1,T2,T3,T4,T5,T6,T7,T8,T9,U0,U1,U2,U3,U4,U5,U6,U7,U8,U9,V0,V1,V2,V3,V4,V5,V6,V7,V8,V9,W0,W1,W2,W3,W4,W5,W6,W7,W8,W9,X0,X1,X2,X3,X4,X5,X6,X7,X8,X9,Y0,Y1,Y2,Y3,Y4,Rj,Rk,Rm,Rq,Rt,Rv,Rw,Rx,Ry,Rz,Sb,Sc,Sf,Sg,Sh,Sj,Sk,Sm,Sq,St,Sv,Sw,Sx,Sy,Sz,Tb,Tc,Tf,Tg,Th,Tj,Tk,Tm,Tq,Tt,Tv,Tw,Tx,Ty,Tz,Ub,Uc,Uf,Ug,Uh,Uj,Uk,Um,Uq,Ut,Uv,Uw,Ux,Uy,Uz,Vb,Vc,Vf,Vg,Vh,Vj,Vk,Vm,Vq,Vt,Vv,Vw,Vx,Vy,Vz,Wb,Wc,Wf,Wg,Wh,Wj,Wk,Wm,Wq,Wt,Wv,Ww,Wx,Wy,Wz,Xb,Xc,Xf,Xg,Xh,Xj,Xk,Xm,Xq,Xt,Xv,Xw,Xx,Xy,Xz,Yb,Yc,Yf,Yg,Yh,Yj,Yk,Ym,Yq,Yt,Yv,Yw,Yx,Yy,Yz,Zb,Zc,Zf,Zg,Zh,v5,v6,v7,v8], []⟩ w')) :
    Code.wp Tryz.prog (subC [true, true, true, true, false, true, false, false, true, false, true, true, true, true, true, true, true, true] (Tryz.f25.body.getD .skip)) Q0 ⟨#[A0,A1,.int .i64 (fu : Int),A3,A4,A5,A6,A7,A8,.slice (some ⟨rg, 0, none⟩) 8 8,B0,.int .i64 (lf : Int),B2,B3,.pointer (some ⟨pw, 0, none⟩),.func (.func 45) #[] #[.pointer (some ⟨pw, 0, none⟩)],.int .i64 1,.int .i64 0,.int .i64 (-1),B9,.string ⟨#[]⟩,C1,C2,C3,C4,C5,C6,C7,C8,C9,D0,D1,D2,D3,D4,D5,D6,D7,D8,D9,E0,E1,E2,E3,E4,E5,E6,E7,E8,E9,G0,G1,G2,G3,G4,G5,G6,G7,G8,G9,H0,H1,H2,H3,H4,H5,H6,H7,H8,H9,I0,I1,I2,I3,I4,I5,I6,I7,I8,I9,J0,J1,J2,J3,J4,J5,J6,J7,J8,J9,K0,K1,K2,K3,K4,K5,K6,K7,K8,K9,M0,M1,M2,M3,M4,M5,M6,M7,M8,M9,N0,N1,N2,N3,N4,N5,N6,N7,N8,N9,O0,O1,O2,O3,O4,O5,O6,O7,O8,O9,P0,P1,P2,P3,P4,P5,P6,P7,P8,P9,R0,R1,R2,R3,R4,R5,R6,R7,R8,R9,S0,S1,S2,S3,S4,S5,S6,S7,S8,S9,T0,T1,T2,T3,T4,T5,T6,T7,T8,T9,U0,U1,U2,U3,U4,U5,U6,U7,U8,U9,V0,V1,V2,V3,V4,V5,V6,V7,V8,V9,W0,W1,W2,W3,W4,W5,W6,W7,W8,W9,X0,X1,X2,X3,X4,X5,X6,X7,X8,X9,Y0,Y1,Y2,Y3,Y4,Y5,Y6,Y7,Y8,Y9,Z0,Z1,Z2,Z3,Z4,Z5,Z6,Z7,Z8,Z9,j0,j1,j2,j3,j4,j5,j6,j7,j8,j9,o0,o1,o2,o3,o4,o5,o6,o7,o8,o9,y0,y1,y2,y3,y4,y5,y6,y7,y8,y9,z0,z1,z2,z3,z4,z5,z6,z7,z8,z9,x0,x1,x2,x3,x4,x5,x6,x7,x8,x9,i0,i1,i2,i3,i4,i5,i6,i7,i8,i9,d0,d1,d2,d3,d4,d5,d6,d7,d8,d9,e0,e1,e2,e3,e4,e5,e6,e7,e8,e9,f0,f1,f2,f3,f4,f5,f6,f7,f8,f9,p0,p1,p2,p3,p4,p5,p6,p7,p8,p9,v0,v1,v2,v3,v4,v5,v6,v7,v8], []⟩ w := by
  obtain ⟨rf, hrf1, hrf2⟩ : ∃ rf : Int → Int, rf 1 = (r : Int) ∧ rf 2 = (v : Int) := ⟨fun i => if i = 1 then (r : Int) else (v : Int), rfl, rfl⟩
  have HR : Hid (∀ (i : Int) (W : World), W.heap = w.heap → (i = 1 ∨ i = 2) → Calls Tryz.prog 45 #[.int .i64 i, .pointer (some ⟨pw, 0, none⟩)] W fun e w' => e = .returned (.int .i64 (rf i)) ∧ w' = W) := by
    rintro i W hW (rfl | rfl)
    · rw [hrf1]; exact reg_call pw g 1 n cap s1 r W (by rw [cell_heap hW]; exact hpw) (by omega) (by rw [cell_heap hW]; exact h1) hs1 hr1
    · rw [hrf2]; exact reg_call pw g 2 n cap s2 v W (by rw [cell_heap hW]; exact hpw) (by omega) (by rw [cell_heap hW]; exact h2) hs2 hr2
  have HN : Hid (∀ W : World, Calls Tryz.prog 46 #[.string s3, .int .i64 60] W fun e w' => e = .returned (.int .i64 (k : Int)) ∧ w' = W) := fun W => (NumberOf_any s3 60 W hz).mono fun e w' ⟨q1, q2⟩ => ⟨q1.trans (by rw [← hk]), q2⟩
  have kn : (0 : Int) < (n : Int) := by omega
  have kn3 : (3 : Int) < (n : Int) := by omega
  have kr : (r : Int) < 8 := by omega
  have kv : (v : Int) < 8 := by omega
  clear hn hk hz hs1 hr1 hs2 hr2 h1 h2 hr hv
  clear HN
  by_cases h : lf < 1
  · have HH : Hid _ := h
    have k3 : (lf : Int) < 1 := by omega
    clear HG h hf hl hl1
    conv => arg 2; whnf
    dsimp only
    go_wp2
    apply HO.out HH.out
  · have HH : Hid _ := h
    have k3 : ¬ (lf : Int) < 1 := by omega
    have k4 : (lf : Int) - 1 = (l1 : Int) := by have := hl1 (by omega); omega
    have k5 : IntKind.i64.wrap (l1 : Int) = (l1 : Int) := by rw [IntKind.wrap_i64]; have := hl1 (by omega); omega
    clear HO h hf hl hl1
    conv => arg 2; whnf
    dsimp only
    go_wp2
    go_quiet ((go_at_call 45; refine Calls.quiet_of_same (HR.out _ _ rfl (by decide))))
    go_wp2
    apply HG.out HH.out; exact (below_dn w _)

set_option maxHeartbeats 8000000 in
set_option maxRecDepth 100000 in
theorem lessT1 (pw g n cap rg fu lf l1 : Nat) (k r v : Nat) (s1 s2 s3 t1 t2 : ByteArray) (w : World) (hpw : w.cell? ⟨pw, 0, none⟩ = some (.slice (some ⟨g, 0, none⟩) n cap)) (h0 : w.cell? ⟨g, 0, none⟩ = some (.string ⟨#[108, 101, 115, 115]⟩)) (hn : 3 < n) (h1 : w.cell? ⟨g, 1, none⟩ = some (.string s1)) (h2 : w.cell? ⟨g, 2, none⟩ = some (.string s2)) (h3 : w.cell? ⟨g, 3, none⟩ = some (.string s3)) (hs1 : 0 < s1.size) (hr1 : s1[0].toNat = 97 + r) (hs2 : 0 < s2.size) (hr2 : s2[0].toNat = 97 + v) (hr : r < 8) (hv : v < 8) (ht1 : w.cell? ⟨rg, r, none⟩ = some (.string t1)) (ht2 : w.cell? ⟨rg, v, none⟩ = some (.string t2)) (hz : s3.size ≤ 1000000) (hk : nmbF s3.data.toList ((60 : Nat) : Int) = (k : Int)) (hb : Op.bytesLess t1.toList t2.toList = true)
    (hf : fu ≤ 100000) (hl : lf ≤ fu) (hl1 : 1 ≤ lf → l1 = lf - 1) (Q0 : Exit → Act → World → Prop)
    (HO : Hid (lf < 1 → ∀ (Aw Bc Bf Bv Bw Rj Rk Rm Rq Rt Rv Rw Rx Ry Rz Sb Sc Sf Sg Sh Sj Sk Sm Sq St Sv Sw Sx Sy Sz Tb Tc Tf Tg Th Tj Tk Tm Tq Tt Tv Tw Tx Ty Tz Ub Uc Uf Ug Uh Uj Uk Um Uq Ut Uv Uw Ux Uy Uz Vb Vc Vf Vg Vh Vj Vk Vm Vq Vt Vv Vw Vx Vy Vz Wb Wc Wf Wg Wh Wj Wk Wm Wq Wt Wv Ww Wx Wy Wz Xb Xc Xf Xg Xh Xj Xk Xm Xq Xt Xv Xw Xx Xy Xz Yb Yc Yf Yg Yh Yj Yk Ym Yq Yt Yv Yw Yx Yy Yz Zb Zc Zf Zg Zh : Value), Q0 .ret ⟨#[A0,A1,.int .i64 (fu : Int),A3,A4,A5,B0,.int .i64 104,.int .i64 (fu : Int),.slice (some ⟨rg, 0, none⟩) 8 8,B0,Aw,B2,B3,.pointer (some ⟨pw, 0, none⟩),.func (.func 45) #[] #[.pointer (some ⟨pw, 0, none⟩)],Bc,Bf,.int .i64 (-1),B9,.string ⟨#[]⟩,C1,C2,C3,C4,Bv,Bw,C7,C8,C9,D0,D1,D2,D3,D4,D5,D6,D7,D8,D9,E0,E1,E2,E3,E4,E5,E6,E7,E8,E9,G0,G1,G2,G3,G4,G5,G6,G7,G8,G9,H0,H1,H2,H3,H4,H5,H6,H7,H8,H9,I0,I1,I2,I3,I4,I5,I6,I7,I8,I9,J0,J1,J2,J3,J4,J5,J6,J7,J8,J9,K0,K1,K2,K3,K4,K5,K6,K7,K8,K9,M0,M1,M2,M3,M4,M5,M6,M7,M8,M9,N0,N1,N2,N3,N4,N5,N6,N7,N8,N9,O0,O1,O2,O3,O4,O5,O6,O7,O8,O9,P0,P1,P2,P3,P4,P5,P6,P7,P8,P9,R0,R1,R2,R3,R4,R5,R6,R7,R8,R9,S0,S1,S2,S3,S4,S5,S6,S7,S8,S9,T0,T1,T2,T3,T4,T5,T6,T7,T8,T9,U0,U1,U2,U3,U4,U5,U6,U7,U8,U9,V0,V1,V2,V3,V4,V5,V6,V7,V8,V9,W0,W1,W2,W3,W4,W5,W6,W7,W8,W9,X0,X1,X2,X3,X4,X5,X6,X7,X8,X9,Y0,Y1,Y2,Y3,Y4,Rj,Rk,Rm,Rq,Rt,Rv,Rw,Rx,Ry,Rz,Sb,Sc,Sf,Sg,Sh,Sj,Sk,Sm,Sq,St,Sv,Sw,Sx,Sy,Sz,Tb,Tc,Tf,Tg,Th,Tj,Tk,Tm,Tq,Tt,Tv,Tw,Tx,Ty,Tz,Ub,Uc,Uf,Ug,Uh,Uj,Uk,Um,Uq,Ut,Uv,Uw,Ux,Uy,Uz,Vb,Vc,Vf,Vg,Vh,Vj,Vk,Vm,Vq,Vt,Vv,Vw,Vx,Vy,Vz,Wb,Wc,Wf,Wg,Wh,Wj,Wk,Wm,Wq,Wt,Wv,Ww,Wx,Wy,Wz,Xb,Xc,Xf,Xg,Xh,Xj,Xk,Xm,Xq,Xt,Xv,Xw,Xx,Xy,Xz,Yb,Yc,Yf,Yg,Yh,Yj,Yk,Ym,Yq,Yt,Yv,Yw,Yx,Yy,Yz,Zb,Zc,Zf,Zg,Zh,v5,v6,v7,v8], []⟩ w)) (HG : Hid (¬ lf < 1 → ∀ (Bc Bf Bv Bw Rj Rk Rm Rq Rt Rv Rw Rx Ry Rz Sb Sc Sf Sg Sh Sj Sk Sm Sq St Sv Sw Sx Sy Sz Tb Tc Tf Tg Th Tj Tk Tm Tq Tt Tv Tw Tx Ty Tz Ub Uc Uf Ug Uh Uj Uk Um Uq Ut Uv Uw Ux Uy Uz Vb Vc Vf Vg Vh Vj Vk Vm Vq Vt Vv Vw Vx Vy Vz Wb Wc Wf Wg Wh Wj Wk Wm Wq Wt Wv Ww Wx Wy Wz Xb Xc Xf Xg Xh Xj Xk Xm Xq Xt Xv Xw Xx Xy Xz Yb Yc Yf Yg Yh Yj Yk Ym Yq Yt Yv Yw Yx Yy Yz Zb Zc Zf Zg Zh : Value) (w' : World), Hid (Below w.heap.size w w') → Q0 .normal ⟨#[A0,A1,.int .i64 (fu : Int),A3,A4,A5,A6,A7,A8,.slice (some ⟨rg, 0, none⟩) 8 8,B0,.int .i64 (l1 : Int),.int .i64 (k : Int),B3,.pointer (some ⟨pw, 0, none⟩),.func (.func 45) #[] #[.pointer (some ⟨pw, 0, none⟩)],Bc,Bf,.int .i64 (-1),B9,.string ⟨#[]⟩,C1,C2,C3,C4,Bv,Bw,C7,C8,C9,D0,D1,D2,D3,D4,D5,D6,D7,D8,D9,E0,E1,E2,E3,E4,E5,E6,E7,E8,E9,G0,G1,G2,G3,G4,G5,G6,G7,G8,G9,H0,H1,H2,H3,H4,H5,H6,H7,H8,H9,I0,I1,I2,I3,I4,I5,I6,I7,I8,I9,J0,J1,J2,J3,J4,J5,J6,J7,J8,J9,K0,K1,K2,K3,K4,K5,K6,K7,K8,K9,M0,M1,M2,M3,M4,M5,M6,M7,M8,M9,N0,N1,N2,N3,N4,N5,N6,N7,N8,N9,O0,O1,O2,O3,O4,O5,O6,O7,O8,O9,P0,P1,P2,P3,P4,P5,P6,P7,P8,P9,R0,R1,R2,R3,R4,R5,R6,R7,R8,R9,S0,S1,S2,S3,S4,S5,S6,S7,S8,S9,T0,T1,T2,T3,T4,T5,T6,T7,T8,T9,U0,U1,U2,U3,U4,U5,U6,U7,U8,U9,V0,V1,V2,V3,V4,V5,V6,V7,V8,V9,W0,W1,W2,W3,W4,W5,W6,W7,W8,W9,X0,X1,X2,X3,X4,X5,X6,X7,X8,X9,Y0,Y1,Y2,Y3,Y4,Rj,Rk,Rm,Rq,Rt,Rv,Rw,Rx,Ry,Rz,Sb,Sc,Sf,Sg,Sh,Sj,Sk,Sm,Sq,St,Sv,Sw,Sx,Sy,Sz,Tb,Tc,Tf,Tg,Th,Tj,Tk,Tm,Tq,Tt,Tv,Tw,Tx,Ty,Tz,Ub,Uc,Uf,Ug,Uh,Uj,Uk,Um,Uq,Ut,Uv,Uw,Ux,Uy,Uz,Vb,Vc,Vf,Vg,Vh,Vj,Vk,Vm,Vq,Vt,Vv,Vw,Vx,Vy,Vz,Wb,Wc,Wf,Wg,Wh,Wj,Wk,Wm,Wq,Wt,Wv,Ww,Wx,Wy,Wz,Xb,Xc,Xf,Xg,Xh,Xj,Xk,Xm,Xq,Xt,Xv,Xw,Xx,Xy,Xz,Yb,Yc,Yf,Yg,Yh,Yj,Yk,Ym,Yq,Yt,Yv,Yw,Yx,Yy,Yz,Zb,Zc,Zf,Zg,Zh,v5,v6,v7,v8], []⟩ w')) :
    Code.wp Tryz.prog (subC [true, true, true, true, false, true, false, false, true, false, true, true, true, true, true, true, true, true] (Tryz.f25.body.getD .skip)) Q0 ⟨#[A0,A1,.int .i64 (fu : Int),A3,A4,A5,A6,A7,A8,.slice (some ⟨rg, 0, none⟩) 8 8,B0,.int .i64 (lf : Int),B2,B3,.pointer (some ⟨pw, 0, none⟩),.func (.func 45) #[] #[.pointer (some ⟨pw, 0, none⟩)],.int .i64 1,.int .i64 0,.int .i64 (-1),B9,.string ⟨#[]⟩,C1,C2,C3,C4,C5,C6,C7,C8,C9,D0,D1,D2,D3,D4,D5,D6,D7,D8,D9,E0,E1,E2,E3,E4,E5,E6,E7,E8,E9,G0,G1,G2,G3,G4,G5,G6,G7,G8,G9,H0,H1,H2,H3,H4,H5,H6,H7,H8,H9,I0,I1,I2,I3,I4,I5,I6,I7,I8,I9,J0,J1,J2,J3,J4,J5,J6,J7,J8,J9,K0,K1,K2,K3,K4,K5,K6,K7,K8,K9,M0,M1,M2,M3,M4,M5,M6,M7,M8,M9,N0,N1,N2,N3,N4,N5,N6,N7,N8,N9,O0,O1,O2,O3,O4,O5,O6,O7,O8,O9,P0,P1,P2,P3,P4,P5,P6,P7,P8,P9,R0,R1,R2,R3,R4,R5,R6,R7,R8,R9,S0,S1,S2,S3,S4,S5,S6,S7,S8,S9,T0,T1,T2,T3,T4,T5,T6,T7,T8,T9,U0,U1,U2,U3,U4,U5,U6,U7,U8,U9,V0,V1,V2,V3,V4,V5,V6,V7,V8,V9,W0,W1,W2,W3,W4,W5,W6,W7,W8,W9,X0,X1,X2,X3,X4,X5,X6,X7,X8,X9,Y0,Y1,Y2,Y3,Y4,Y5,Y6,Y7,Y8,Y9,Z0,Z1,Z2,Z3,Z4,Z5,Z6,Z7,Z8,Z9,j0,j1,j2,j3,j4,j5,j6,j7,j8,j9,o0,o1,o2,o3,o4,o5,o6,o7,o8,o9,y0,y1,y2,y3,y4,y5,y6,y7,y8,y9,z0,z1,z2,z3,z4,z5,z6,z7,z8,z9,x0,x1,x2,x3,x4,x5,x6,x7,x8,x9,i0,i1,i2,i3,i4,i5,i6,i7,i8,i9,d0,d1,d2,d3,d4,d5,d6,d7,d8,d9,e0,e1,e2,e3,e4,e5,e6,e7,e8,e9,f0,f1,f2,f3,f4,f5,f6,f7,f8,f9,p0,p1,p2,p3,p4,p5,p6,p7,p8,p9,v0,v1,v2,v3,v4,v5,v6,v7,v8], []⟩ w := by
  obtain ⟨rf, hrf1, hrf2⟩ : ∃ rf : Int → Int, rf 1 = (r : Int) ∧ rf 2 = (v : Int) := ⟨fun i => if i = 1 then (r : Int) else (v : Int), rfl, rfl⟩
  have HR : Hid (∀ (i : Int) (W : World), W.heap = w.heap → (i = 1 ∨ i = 2) → Calls Tryz.prog 45 #[.int .i64 i, .pointer (some ⟨pw, 0, none⟩)] W fun e w' => e = .returned (.int .i64 (rf i)) ∧ w' = W) := by
    rintro i W hW (rfl | rfl)
    · rw [hrf1]; exact reg_call pw g 1 n cap s1 r W (by rw [cell_heap hW]; exact hpw) (by omega) (by rw [cell_heap hW]; exact h1) hs1 hr1
    · rw [hrf2]; exact reg_call pw g 2 n cap s2 v W (by rw [cell_heap hW]; exact hpw) (by omega) (by rw [cell_heap hW]; exact h2) hs2 hr2
  have HN : Hid (∀ W : World, Calls Tryz.prog 46 #[.string s3, .int .i64 60] W fun e w' => e = .returned (.int .i64 (k : Int)) ∧ w' = W) := fun W => (NumberOf_any s3 60 W hz).mono fun e w' ⟨q1, q2⟩ => ⟨q1.trans (by rw [← hk]), q2⟩
  have kn : (0 : Int) < (n : Int) := by omega
  have kn3 : (3 : Int) < (n : Int) := by omega
  have kr : (r : Int) < 8 := by omega
  have kv : (v : Int) < 8 := by omega
  clear hn hk hz hs1 hr1 hs2 hr2 h1 h2 hr hv
  by_cases h : lf < 1
  · have HH : Hid _ := h
    have k3 : (lf : Int) < 1 := by omega
    clear HG h hf hl hl1
    conv => arg 2; whnf
    dsimp only
    go_wp2
    apply HO.out HH.out
  · have HH : Hid _ := h
    have k3 : ¬ (lf : Int) < 1 := by omega
    have k4 : (lf : Int) - 1 = (l1 : Int) := by have := hl1 (by omega); omega
    have k5 : IntKind.i64.wrap (l1 : Int) = (l1 : Int) := by rw [IntKind.wrap_i64]; have := hl1 (by omega); omega
    clear HO h hf hl hl1
    conv => arg 2; whnf
    dsimp only
    go_wp2
    go_quiet ((go_at_call 45; refine Calls.quiet_of_same (HR.out _ _ rfl (by decide))))
    go_wp2_with (first
      | (go_at_call 46; refine (HN.out _).mono ?_; rintro e w1 ⟨rfl, hw⟩; subst w1)
      | go_in)
    apply HG.out HH.out; exact (below_dn w _)

set_option maxHeartbeats 8000000 in
set_option maxRecDepth 100000 in
theorem lessT0 (pw g n cap rg fu lf l1 : Nat) (k r v : Nat) (s1 s2 s3 t1 t2 : ByteArray) (w : World) (hpw : w.cell? ⟨pw, 0, none⟩ = some (.slice (some ⟨g, 0, none⟩) n cap)) (h0 : w.cell? ⟨g, 0, none⟩ = some (.string ⟨#[108, 101, 115, 115]⟩)) (hn : 3 < n) (h1 : w.cell? ⟨g, 1, none⟩ = some (.string s1)) (h2 : w.cell? ⟨g, 2, none⟩ = some (.string s2)) (_h3 : w.cell? ⟨g, 3, none⟩ = some (.string s3)) (hs1 : 0 < s1.size) (hr1 : s1[0].toNat = 97 + r) (hs2 : 0 < s2.size) (hr2 : s2[0].toNat = 97 + v) (hr : r < 8) (hv : v < 8) (ht1 : w.cell? ⟨rg, r, none⟩ = some (.string t1)) (ht2 : w.cell? ⟨rg, v, none⟩ = some (.string t2)) (hz : s3.size ≤ 1000000) (hk : nmbF s3.data.toList ((60 : Nat) : Int) = (k : Int)) (hb : Op.bytesLess t1.toList t2.toList = false)
    (hf : fu ≤ 100000) (hl : lf ≤ fu) (hl1 : 1 ≤ lf → l1 = lf - 1) (Q0 : Exit → Act → World → Prop)
    (HO : Hid (lf < 1 → ∀ (Aw Bc Bf Bv Bw Rj Rk Rm Rq Rt Rv Rw Rx Ry Rz Sb Sc Sf Sg Sh Sj Sk Sm Sq St Sv Sw Sx Sy Sz Tb Tc Tf Tg Th Tj Tk Tm Tq Tt Tv Tw Tx Ty Tz Ub Uc Uf Ug Uh Uj Uk Um Uq Ut Uv Uw Ux Uy Uz Vb Vc Vf Vg Vh Vj Vk Vm Vq Vt Vv Vw Vx Vy Vz Wb Wc Wf Wg Wh Wj Wk Wm Wq Wt Wv Ww Wx Wy Wz Xb Xc Xf Xg Xh Xj Xk Xm Xq Xt Xv Xw Xx Xy Xz Yb Yc Yf Yg Yh Yj Yk Ym Yq Yt Yv Yw Yx Yy Yz Zb Zc Zf Zg Zh : Value), Q0 .ret ⟨#[A0,A1,.int .i64 (fu : Int),A3,A4,A5,B0,.int .i64 104,.int .i64 (fu : Int),.slice (some ⟨rg, 0, none⟩) 8 8,B0,Aw,B2,B3,.pointer (some ⟨pw, 0, none⟩),.func (.func 45) #[] #[.pointer (some ⟨pw, 0, none⟩)],Bc,Bf,.int .i64 (-1),B9,.string ⟨#[]⟩,C1,C2,C3,C4,Bv,Bw,C7,C8,C9,D0,D1,D2,D3,D4,D5,D6,D7,D8,D9,E0,E1,E2,E3,E4,E5,E6,E7,E8,E9,G0,G1,G2,G3,G4,G5,G6,G7,G8,G9,H0,H1,H2,H3,H4,H5,H6,H7,H8,H9,I0,I1,I2,I3,I4,I5,I6,I7,I8,I9,J0,J1,J2,J3,J4,J5,J6,J7,J8,J9,K0,K1,K2,K3,K4,K5,K6,K7,K8,K9,M0,M1,M2,M3,M4,M5,M6,M7,M8,M9,N0,N1,N2,N3,N4,N5,N6,N7,N8,N9,O0,O1,O2,O3,O4,O5,O6,O7,O8,O9,P0,P1,P2,P3,P4,P5,P6,P7,P8,P9,R0,R1,R2,R3,R4,R5,R6,R7,R8,R9,S0,S1,S2,S3,S4,S5,S6,S7,S8,S9,T0,T1,T2,T3,T4,T5,T6,T7,T8,T9,U0,U1,U2,U3,U4,U5,U6,U7,U8,U9,V0,V1,V2,V3,V4,V5,V6,V7,V8,V9,W0,W1,W2,W3,W4,W5,W6,W7,W8,W9,X0,X1,X2,X3,X4,X5,X6,X7,X8,X9,Y0,Y1,Y2,Y3,Y4,Rj,Rk,Rm,Rq,Rt,Rv,Rw,Rx,Ry,Rz,Sb,Sc,Sf,Sg,Sh,Sj,Sk,Sm,Sq,St,Sv,Sw,Sx,Sy,Sz,Tb,Tc,Tf,Tg,Th,Tj,Tk,Tm,Tq,Tt,Tv,Tw,Tx,Ty,Tz,Ub,Uc,Uf,Ug,Uh,Uj,Uk,Um,Uq,Ut,Uv,Uw,Ux,Uy,Uz,Vb,Vc,Vf,Vg,Vh,Vj,Vk,Vm,Vq,Vt,Vv,Vw,Vx,Vy,Vz,Wb,Wc,Wf,Wg,Wh,Wj,Wk,Wm,Wq,Wt,Wv,Ww,Wx,Wy,Wz,Xb,Xc,Xf,Xg,Xh,Xj,Xk,Xm,Xq,Xt,Xv,Xw,Xx,Xy,Xz,Yb,Yc,Yf,Yg,Yh,Yj,Yk,Ym,Yq,Yt,Yv,Yw,Yx,Yy,Yz,Zb,Zc,Zf,Zg,Zh,v5,v6,v7,v8], []⟩ w)) (HG : Hid (¬ lf < 1 → ∀ (Bc Bf Bv Bw Rj Rk Rm Rq Rt Rv Rw Rx Ry Rz Sb Sc Sf Sg Sh Sj Sk Sm Sq St Sv Sw Sx Sy Sz Tb Tc Tf Tg Th Tj Tk Tm Tq Tt Tv Tw Tx Ty Tz Ub Uc Uf Ug Uh Uj Uk Um Uq Ut Uv Uw Ux Uy Uz Vb Vc Vf Vg Vh Vj Vk Vm Vq Vt Vv Vw Vx Vy Vz Wb Wc Wf Wg Wh Wj Wk Wm Wq Wt Wv Ww Wx Wy Wz Xb Xc Xf Xg Xh Xj Xk Xm Xq Xt Xv Xw Xx Xy Xz Yb Yc Yf Yg Yh Yj Yk Ym Yq Yt Yv Yw Yx Yy Yz Zb Zc Zf Zg Zh : Value) (w' : World), Hid (Below w.heap.size w w') → Q0 .normal ⟨#[A0,A1,.int .i64 (fu : Int),A3,A4,A5,A6,A7,A8,.slice (some ⟨rg, 0, none⟩) 8 8,B0,.int .i64 (l1 : Int),B2,B3,.pointer (some ⟨pw, 0, none⟩),.func (.func 45) #[] #[.pointer (some ⟨pw, 0, none⟩)],Bc,Bf,.int .i64 (-1),B9,.string ⟨#[]⟩,C1,C2,C3,C4,Bv,Bw,C7,C8,C9,D0,D1,D2,D3,D4,D5,D6,D7,D8,D9,E0,E1,E2,E3,E4,E5,E6,E7,E8,E9,G0,G1,G2,G3,G4,G5,G6,G7,G8,G9,H0,H1,H2,H3,H4,H5,H6,H7,H8,H9,I0,I1,I2,I3,I4,I5,I6,I7,I8,I9,J0,J1,J2,J3,J4,J5,J6,J7,J8,J9,K0,K1,K2,K3,K4,K5,K6,K7,K8,K9,M0,M1,M2,M3,M4,M5,M6,M7,M8,M9,N0,N1,N2,N3,N4,N5,N6,N7,N8,N9,O0,O1,O2,O3,O4,O5,O6,O7,O8,O9,P0,P1,P2,P3,P4,P5,P6,P7,P8,P9,R0,R1,R2,R3,R4,R5,R6,R7,R8,R9,S0,S1,S2,S3,S4,S5,S6,S7,S8,S9,T0,T1,T2,T3,T4,T5,T6,T7,T8,T9,U0,U1,U2,U3,U4,U5,U6,U7,U8,U9,V0,V1,V2,V3,V4,V5,V6,V7,V8,V9,W0,W1,W2,W3,W4,W5,W6,W7,W8,W9,X0,X1,X2,X3,X4,X5,X6,X7,X8,X9,Y0,Y1,Y2,Y3,Y4,Rj,Rk,Rm,Rq,Rt,Rv,Rw,Rx,Ry,Rz,Sb,Sc,Sf,Sg,Sh,Sj,Sk,Sm,Sq,St,Sv,Sw,Sx,Sy,Sz,Tb,Tc,Tf,Tg,Th,Tj,Tk,Tm,Tq,Tt,Tv,Tw,Tx,Ty,Tz,Ub,Uc,Uf,Ug,Uh,Uj,Uk,Um,Uq,Ut,Uv,Uw,Ux,Uy,Uz,Vb,Vc,Vf,Vg,Vh,Vj,Vk,Vm,Vq,Vt,Vv,Vw,Vx,Vy,Vz,Wb,Wc,Wf,Wg,Wh,Wj,Wk,Wm,Wq,Wt,Wv,Ww,Wx,Wy,Wz,Xb,Xc,Xf,Xg,Xh,Xj,Xk,Xm,Xq,Xt,Xv,Xw,Xx,Xy,Xz,Yb,Yc,Yf,Yg,Yh,Yj,Yk,Ym,Yq,Yt,Yv,Yw,Yx,Yy,Yz,Zb,Zc,Zf,Zg,Zh,v5,v6,v7,v8], []⟩ w')) :
    Code.wp Tryz.prog (subC [true, true, true, true, false, true, false, false, true, false, true, true, true, true, true, true, true, true] (Tryz.f25.body.getD .skip)) Q0 ⟨#[A0,A1,.int .i64 (fu : Int),A3,A4,A5,A6,A7,A8,.slice (some ⟨rg, 0, none⟩) 8 8,B0,.int .i64 (lf : Int),B2,B3,.pointer (some ⟨pw, 0, none⟩),.func (.func 45) #[] #[.pointer (some ⟨pw, 0, none⟩)],.int .i64 1,.int .i64 0,.int .i64 (-1),B9,.string ⟨#[]⟩,C1,C2,C3,C4,C5,C6,C7,C8,C9,D0,D1,D2,D3,D4,D5,D6,D7,D8,D9,E0,E1,E2,E3,E4,E5,E6,E7,E8,E9,G0,G1,G2,G3,G4,G5,G6,G7,G8,G9,H0,H1,H2,H3,H4,H5,H6,H7,H8,H9,I0,I1,I2,I3,I4,I5,I6,I7,I8,I9,J0,J1,J2,J3,J4,J5,J6,J7,J8,J9,K0,K1,K2,K3,K4,K5,K6,K7,K8,K9,M0,M1,M2,M3,M4,M5,M6,M7,M8,M9,N0,N1,N2,N3,N4,N5,N6,N7,N8,N9,O0,O1,O2,O3,O4,O5,O6,O7,O8,O9,P0,P1,P2,P3,P4,P5,P6,P7,P8,P9,R0,R1,R2,R3,R4,R5,R6,R7,R8,R9,S0,S1,S2,S3,S4,S5,S6,S7,S8,S9,T0,T1,T2,T3,T4,T5,T6,T7,T8,T9,U0,U1,U2,U3,U4,U5,U6,U7,U8,U9,V0,V1,V2,V3,V4,V5,V6,V7,V8,V9,W0,W1,W2,W3,W4,W5,W6,W7,W8,W9,X0,X1,X2,X3,X4,X5,X6,X7,X8,X9,Y0,Y1,Y2,Y3,Y4,Y5,Y6,Y7,Y8,Y9,Z0,Z1,Z2,Z3,Z4,Z5,Z6,Z7,Z8,Z9,j0,j1,j2,j3,j4,j5,j6,j7,j8,j9,o0,o1,o2,o3,o4,o5,o6,o7,o8,o9,y0,y1,y2,y3,y4,y5,y6,y7,y8,y9,z0,z1,z2,z3,z4,z5,z6,z7,z8,z9,x0,x1,x2,x3,x4,x5,x6,x7,x8,x9,i0,i1,i2,i3,i4,i5,i6,i7,i8,i9,d0,d1,d2,d3,d4,d5,d6,d7,d8,d9,e0,e1,e2,e3,e4,e5,e6,e7,e8,e9,f0,f1,f2,f3,f4,f5,f6,f7,f8,f9,p0,p1,p2,p3,p4,p5,p6,p7,p8,p9,v0,v1,v2,v3,v4,v5,v6,v7,v8], []⟩ w := by
  obtain ⟨rf, hrf1, hrf2⟩ : ∃ rf : Int → Int, rf 1 = (r : Int) ∧ rf 2 = (v : Int) := ⟨fun i => if i = 1 then (r : Int) else (v : Int), rfl, rfl⟩
  have HR : Hid (∀ (i : Int) (W : World), W.heap = w.heap → (i = 1 ∨ i = 2) → Calls Tryz.prog 45 #[.int .i64 i, .pointer (some ⟨pw, 0, none⟩)] W fun e w' => e = .returned (.int .i64 (rf i)) ∧ w' = W) := by
    rintro i W hW (rfl | rfl)
    · rw [hrf1]; exact reg_call pw g 1 n cap s1 r W (by rw [cell_heap hW]; exact hpw) (by omega) (by rw [cell_heap hW]; exact h1) hs1 hr1
    · rw [hrf2]; exact reg_call pw g 2 n cap s2 v W (by rw [cell_heap hW]; exact hpw) (by omega) (by rw [cell_heap hW]; exact h2) hs2 hr2
  have HN : Hid (∀ W : World, Calls Tryz.prog 46 #[.string s3, .int .i64 60] W fun e w' => e = .returned (.int .i64 (k : Int)) ∧ w' = W) := fun W => (NumberOf_any s3 60 W hz).mono fun e w' ⟨q1, q2⟩ => ⟨q1.trans (by rw [← hk]), q2⟩
  have kn : (0 : Int) < (n : Int) := by omega
  have kn3 : (3 : Int) < (n : Int) := by omega
  have kr : (r : Int) < 8 := by omega
  have kv : (v : Int) < 8 := by omega
  clear hn hk hz hs1 hr1 hs2 hr2 h1 h2 hr hv
  clear HN
  by_cases h : lf < 1
  · have HH : Hid _ := h
    have k3 : (lf : Int) < 1 := by omega
    clear HG h hf hl hl1
    conv => arg 2; whnf
    dsimp only
    go_wp2
    apply HO.out HH.out
  · have HH : Hid _ := h
    have k3 : ¬ (lf : Int) < 1 := by omega
    have k4 : (lf : Int) - 1 = (l1 : Int) := by have := hl1 (by omega); omega
    have k5 : IntKind.i64.wrap (l1 : Int) = (l1 : Int) := by rw [IntKind.wrap_i64]; have := hl1 (by omega); omega
    clear HO h hf hl hl1
    conv => arg 2; whnf
    dsimp only
    go_wp2
    go_quiet ((go_at_call 45; refine Calls.quiet_of_same (HR.out _ _ rfl (by decide))))
    go_wp2
    apply HG.out HH.out; exact (below_dn w _)
end Go.Proofs.YtapiedeekbfpnaaGreatDoor

/- The document's RunCommand: what it does at 'read'. -/
namespace Go.Proofs.YtapiedeekbfpnaaGreatDoor
open Go.RowKit Go.Shelf Go.Maps Go.WideMaps Go.Sort
variable {A0 A1 A2 A3 A4 A5 A6 A7 A8 A9 B0 B1 B2 B3 B4 B5 B6 B7 B8 B9 C0 C1 C2 C3 C4 C5 C6 C7 C8 C9 D0 D1 D2 D3 D4 D5 D6 D7 D8 D9 E0 E1 E2 E3 E4 E5 E6 E7 E8 E9 G0 G1 G2 G3 G4 G5 G6 G7 G8 G9 H0 H1 H2 H3 H4 H5 H6 H7 H8 H9 I0 I1 I2 I3 I4 I5 I6 I7 I8 I9 J0 J1 J2 J3 J4 J5 J6 J7 J8 J9 K0 K1 K2 K3 K4 K5 K6 K7 K8 K9 M0 M1 M2 M3 M4 M5 M6 M7 M8 M9 N0 N1 N2 N3 N4 N5 N6 N7 N8 N9 O0 O1 O2 O3 O4 O5 O6 O7 O8 O9 P0 P1 P2 P3 P4 P5 P6 P7 P8 P9 R0 R1 R2 R3 R4 R5 R6 R7 R8 R9 S0 S1 S2 S3 S4 S5 S6 S7 S8 S9 T0 T1 T2 T3 T4 T5 T6 T7 T8 T9 U0 U1 U2 U3 U4 U5 U6 U7 U8 U9 V0 V1 V2 V3 V4 V5 V6 V7 V8 V9 W0 W1 W2 W3 W4 W5 W6 W7 W8 W9 X0 X1 X2 X3 X4 X5 X6 X7 X8 X9 Y0 Y1 Y2 Y3 Y4 Y5 Y6 Y7 Y8 Y9 Z0 Z1 Z2 Z3 Z4 Z5 Z6 Z7 Z8 Z9 j0 j1 j2 j3 j4 j5 j6 j7 j8 j9 o0 o1 o2 o3 o4 o5 o6 o7 o8 o9 y0 y1 y2 y3 y4 y5 y6 y7 y8 y9 z0 z1 z2 z3 z4 z5 z6 z7 z8 z9 x0 x1 x2 x3 x4 x5 x6 x7 x8 x9 i0 i1 i2 i3 i4 i5 i6 i7 i8 i9 d0 d1 d2 d3 d4 d5 d6 d7 d8 d9 e0 e1 e2 e3 e4 e5 e6 e7 e8 e9 f0 f1 f2 f3 f4 f5 f6 f7 f8 f9 p0 p1 p2 p3 p4 p5 p6 p7 p8 p9 v0 v1 v2 v3 v4 v5 v6 v7 v8 : Value}

set_option maxHeartbeats 8000000 in
set_option maxRecDepth 100000 in
theorem read1W (pw g n cap rg : Nat) (r ac j : Nat) (ao : Option Addr) (F : List Fl) (s1 s2 : ByteArray) (w : World) (hpw : w.cell? ⟨pw, 0, none⟩ = some (.slice (some ⟨g, 0, none⟩) n cap)) (h0 : w.cell? ⟨g, 0, none⟩ = some (.string ⟨#[114, 101, 97, 100]⟩)) (hn : 2 < n) (h1 : w.cell? ⟨g, 1, none⟩ = some (.string s1)) (hs1 : 0 < s1.size) (hr1 : s1[0].toNat = 97 + r) (h2 : w.cell? ⟨g, 2, none⟩ = some (.string s2)) (hF : IsFl w ao F) (hlf : F.length ≤ 4611686018427387904) (hj : j < F.length) (hpj : pth F[j] = s2.data.toList) (hno : ∀ i (hi : i < F.length), i < j → pth F[i] ≠ s2.data.toList) (Q0 : Exit → Act → World → Prop)
    (HX : Hid (∀ (Bk Bm Bq Bt Cx Cy Cz Db Dc Df Dg Dh Dj Dk Dm Dq Dt Dv Dw Dx Dy Dz Eb Ec Ef Eg Eh Ej Ek Em Eq Et Ev Ew Ex Ey Ez Gb Gc Gf Gg Gh Gj Gk Gm Gq Gt Gv Gw Gx Gy Gz Hb Hc Hf Hg Hh Hj Hk Hm Hq Ht Hv Hw Hx Hy Hz Ib Ic If Ig Ih Ij Ik Im Iq It Iv Iw Ix Iy Iz Jb Jc Jf Jg Jh Jj Jk Jm Jq Jt Jv Jw Jx Jy Jz Kb Kc Kf Kg Kh Kj Kk Km Kq Kt Kv Kw Kx Ky Kz Mb Mc Mf Mg Mh Mj Mk Mm Mq Mt Mv Mw Mx My Mz Nb Nc Nf Ng Nh Nj Nk Nm Nq Nt Nv Nw Nx Ny Nz Ob Oc Of Og Oh Oj Ok Om Oq Ot Ov Ow Ox Oy Oz Pb Pc Pf Pg Ph Pj Pk Pm Pq Pt Pv Pw Px Py Pz Rb Rc Rf Rg Rh : Value) (w' : World), Hid (Below w.heap.size w w') → Q0 .normal ⟨#[.slice ao F.length ac,A1,A2,A3,A4,A5,A6,A7,A8,.slice (some ⟨rg, 0, none⟩) 8 8,B0,B1,B2,B3,.pointer (some ⟨pw, 0, none⟩),.func (.func 45) #[] #[.pointer (some ⟨pw, 0, none⟩)],B6,.int .i64 0,.int .i64 (r : Int),.string F[j].tx,.string ⟨#[]⟩,Bk,Bm,Bq,Bt,C5,C6,C7,C8,C9,D0,D1,D2,D3,D4,D5,D6,D7,D8,D9,E0,E1,Cx,Cy,Cz,Db,Dc,Df,Dg,Dh,Dj,Dk,Dm,Dq,Dt,Dv,Dw,Dx,Dy,Dz,Eb,Ec,Ef,Eg,Eh,Ej,Ek,Em,Eq,Et,Ev,Ew,Ex,Ey,Ez,Gb,Gc,Gf,Gg,Gh,Gj,Gk,Gm,Gq,Gt,Gv,Gw,Gx,Gy,Gz,Hb,Hc,Hf,Hg,Hh,Hj,Hk,Hm,Hq,Ht,Hv,Hw,Hx,Hy,Hz,Ib,Ic,If,Ig,Ih,Ij,Ik,Im,Iq,It,Iv,Iw,Ix,Iy,Iz,Jb,Jc,Jf,Jg,Jh,Jj,Jk,Jm,Jq,Jt,Jv,Jw,Jx,Jy,Jz,Kb,Kc,Kf,Kg,Kh,Kj,Kk,Km,Kq,Kt,Kv,Kw,Kx,Ky,Kz,Mb,Mc,Mf,Mg,Mh,Mj,Mk,Mm,Mq,Mt,Mv,Mw,Mx,My,Mz,Nb,Nc,Nf,Ng,Nh,Nj,Nk,Nm,Nq,Nt,Nv,Nw,Nx,Ny,Nz,Ob,Oc,Of,Og,Oh,Oj,Ok,Om,Oq,Ot,Ov,Ow,Ox,Oy,Oz,Pb,Pc,Pf,Pg,Ph,Pj,Pk,Pm,Pq,Pt,Pv,Pw,Px,Py,Pz,Rb,Rc,Rf,Rg,Rh,Y5,Y6,Y7,Y8,Y9,Z0,Z1,Z2,Z3,Z4,Z5,Z6,Z7,Z8,Z9,j0,j1,j2,j3,j4,j5,j6,j7,j8,j9,o0,o1,o2,o3,o4,o5,o6,o7,o8,o9,y0,y1,y2,y3,y4,y5,y6,y7,y8,y9,z0,z1,z2,z3,z4,z5,z6,z7,z8,z9,x0,x1,x2,x3,x4,x5,x6,x7,x8,x9,i0,i1,i2,i3,i4,i5,i6,i7,i8,i9,d0,d1,d2,d3,d4,d5,d6,d7,d8,d9,e0,e1,e2,e3,e4,e5,e6,e7,e8,e9,f0,f1,f2,f3,f4,f5,f6,f7,f8,f9,p0,p1,p2,p3,p4,p5,p6,p7,p8,p9,v0,v1,v2,v3,v4,v5,v6,v7,v8], []⟩ w')) :
    Code.wp Tryz.prog (subC [true, true, true, true, false, true, false, false, true, false, true, true, true, true, true, true, true, false] (Tryz.f25.body.getD .skip)) Q0 ⟨#[.slice ao F.length ac,A1,A2,A3,A4,A5,A6,A7,A8,.slice (some ⟨rg, 0, none⟩) 8 8,B0,B1,B2,B3,.pointer (some ⟨pw, 0, none⟩),.func (.func 45) #[] #[.pointer (some ⟨pw, 0, none⟩)],B6,.int .i64 0,.int .i64 (-1),.string ⟨#[]⟩,.string ⟨#[]⟩,C1,C2,C3,C4,C5,C6,C7,C8,C9,D0,D1,D2,D3,D4,D5,D6,D7,D8,D9,E0,E1,E2,E3,E4,E5,E6,E7,E8,E9,G0,G1,G2,G3,G4,G5,G6,G7,G8,G9,H0,H1,H2,H3,H4,H5,H6,H7,H8,H9,I0,I1,I2,I3,I4,I5,I6,I7,I8,I9,J0,J1,J2,J3,J4,J5,J6,J7,J8,J9,K0,K1,K2,K3,K4,K5,K6,K7,K8,K9,M0,M1,M2,M3,M4,M5,M6,M7,M8,M9,N0,N1,N2,N3,N4,N5,N6,N7,N8,N9,O0,O1,O2,O3,O4,O5,O6,O7,O8,O9,P0,P1,P2,P3,P4,P5,P6,P7,P8,P9,R0,R1,R2,R3,R4,R5,R6,R7,R8,R9,S0,S1,S2,S3,S4,S5,S6,S7,S8,S9,T0,T1,T2,T3,T4,T5,T6,T7,T8,T9,U0,U1,U2,U3,U4,U5,U6,U7,U8,U9,V0,V1,V2,V3,V4,V5,V6,V7,V8,V9,W0,W1,W2,W3,W4,W5,W6,W7,W8,W9,X0,X1,X2,X3,X4,X5,X6,X7,X8,X9,Y0,Y1,Y2,Y3,Y4,Y5,Y6,Y7,Y8,Y9,Z0,Z1,Z2,Z3,Z4,Z5,Z6,Z7,Z8,Z9,j0,j1,j2,j3,j4,j5,j6,j7,j8,j9,o0,o1,o2,o3,o4,o5,o6,o7,o8,o9,y0,y1,y2,y3,y4,y5,y6,y7,y8,y9,z0,z1,z2,z3,z4,z5,z6,z7,z8,z9,x0,x1,x2,x3,x4,x5,x6,x7,x8,x9,i0,i1,i2,i3,i4,i5,i6,i7,i8,i9,d0,d1,d2,d3,d4,d5,d6,d7,d8,d9,e0,e1,e2,e3,e4,e5,e6,e7,e8,e9,f0,f1,f2,f3,f4,f5,f6,f7,f8,f9,p0,p1,p2,p3,p4,p5,p6,p7,p8,p9,v0,v1,v2,v3,v4,v5,v6,v7,v8], []⟩ w := by
  have HR1 : Hid (∀ W : World, W.heap = w.heap → Calls Tryz.prog 45 #[.int .i64 1, .pointer (some ⟨pw, 0, none⟩)] W fun e w' => e = .returned (.int .i64 (r : Int)) ∧ w' = W) := fun W hW => reg_call pw g 1 n cap s1 r W (by rw [cell_heap hW]; exact hpw) (by omega) (by rw [cell_heap hW]; exact h1) hs1 hr1
  have HFa : Hid (Calls Tryz.prog 16 #[.slice ao F.length ac, .string s2] w fun e w' => e = .returned (.int .i64 (j : Int)) ∧ w' = w) := (FileAt_any ao ac F s2 w hF hlf).mono fun e w' ⟨i, q1, q2, q3⟩ => by
    rcases q2 with ⟨_, q2⟩ | ⟨j2, hj2, q2, q4, q5⟩
    · exact absurd hpj (q2 _ (List.getElem_mem hj))
    · have e2 : j2 = j := by
        rcases Nat.lt_trichotomy j2 j with h | h | h
        · exact absurd q4 (hno j2 hj2 h)
        · exact h
        · exact absurd hpj (q5 j hj h)
      subst e2
      exact ⟨by rw [q1, q2], q3⟩
  rcases hF with h | ⟨fg, fo, rfl, hfg, hfc⟩
  · exfalso; rw [h] at hj; exact absurd hj (by simp)
  obtain ⟨_, c1, _⟩ := hfc j hj
  have hni : (0 : Int) < (n : Int) := by omega
  have hn2 : (2 : Int) < (n : Int) := by omega
  have hji : (j : Int) < (F.length : Int) := by omega
  have hj0 : ¬ (j : Int) < 0 := by omega
  clear hn hs1 hr1 h1 hpj hno hlf hfc
  generalize F[j].tx = tx at *
  conv => arg 2; whnf
  dsimp only
  go_wp2_with (first
    | (go_at_call 16; refine HFa.out.mono ?_; rintro e w1 ⟨rfl, hw⟩; subst w1)
    | go_in)
  go_quiet ((go_at_call 45; refine Calls.quiet_of_same (HR1.out _ rfl)))
  go_wp2
  apply HX.out; exact (below_dn w _)

set_option maxHeartbeats 8000000 in
set_option maxRecDepth 100000 in
theorem read0W (pw g n cap rg : Nat) (ac : Nat) (ao : Option Addr) (F : List Fl) (s2 : ByteArray) (w : World) (hpw : w.cell? ⟨pw, 0, none⟩ = some (.slice (some ⟨g, 0, none⟩) n cap)) (h0 : w.cell? ⟨g, 0, none⟩ = some (.string ⟨#[114, 101, 97, 100]⟩)) (hn : 2 < n) (h2 : w.cell? ⟨g, 2, none⟩ = some (.string s2)) (hF : IsFl w ao F) (hlf : F.length ≤ 4611686018427387904) (hno : ∀ f ∈ F, pth f ≠ s2.data.toList) (Q0 : Exit → Act → World → Prop)
    (HX : Hid (∀ (Bk Bm Bq Bt Cx Cy Cz Db Dc Df Dg Dh Dj Dk Dm Dq Dt Dv Dw Dx Dy Dz Eb Ec Ef Eg Eh Ej Ek Em Eq Et Ev Ew Ex Ey Ez Gb Gc Gf Gg Gh Gj Gk Gm Gq Gt Gv Gw Gx Gy Gz Hb Hc Hf Hg Hh Hj Hk Hm Hq Ht Hv Hw Hx Hy Hz Ib Ic If Ig Ih Ij Ik Im Iq It Iv Iw Ix Iy Iz Jb Jc Jf Jg Jh Jj Jk Jm Jq Jt Jv Jw Jx Jy Jz Kb Kc Kf Kg Kh Kj Kk Km Kq Kt Kv Kw Kx Ky Kz Mb Mc Mf Mg Mh Mj Mk Mm Mq Mt Mv Mw Mx My Mz Nb Nc Nf Ng Nh Nj Nk Nm Nq Nt Nv Nw Nx Ny Nz Ob Oc Of Og Oh Oj Ok Om Oq Ot Ov Ow Ox Oy Oz Pb Pc Pf Pg Ph Pj Pk Pm Pq Pt Pv Pw Px Py Pz Rb Rc Rf Rg Rh : Value) (w' : World), Hid (Below w.heap.size w w') → Q0 .normal ⟨#[.slice ao F.length ac,A1,A2,A3,A4,A5,A6,A7,A8,.slice (some ⟨rg, 0, none⟩) 8 8,B0,B1,B2,B3,.pointer (some ⟨pw, 0, none⟩),.func (.func 45) #[] #[.pointer (some ⟨pw, 0, none⟩)],B6,.int .i64 101,.int .i64 (-1),.string ⟨#[]⟩,.string ⟨#[]⟩,Bk,Bm,Bq,Bt,C5,C6,C7,C8,C9,D0,D1,D2,D3,D4,D5,D6,D7,D8,D9,E0,E1,Cx,Cy,Cz,Db,Dc,Df,Dg,Dh,Dj,Dk,Dm,Dq,Dt,Dv,Dw,Dx,Dy,Dz,Eb,Ec,Ef,Eg,Eh,Ej,Ek,Em,Eq,Et,Ev,Ew,Ex,Ey,Ez,Gb,Gc,Gf,Gg,Gh,Gj,Gk,Gm,Gq,Gt,Gv,Gw,Gx,Gy,Gz,Hb,Hc,Hf,Hg,Hh,Hj,Hk,Hm,Hq,Ht,Hv,Hw,Hx,Hy,Hz,Ib,Ic,If,Ig,Ih,Ij,Ik,Im,Iq,It,Iv,Iw,Ix,Iy,Iz,Jb,Jc,Jf,Jg,Jh,Jj,Jk,Jm,Jq,Jt,Jv,Jw,Jx,Jy,Jz,Kb,Kc,Kf,Kg,Kh,Kj,Kk,Km,Kq,Kt,Kv,Kw,Kx,Ky,Kz,Mb,Mc,Mf,Mg,Mh,Mj,Mk,Mm,Mq,Mt,Mv,Mw,Mx,My,Mz,Nb,Nc,Nf,Ng,Nh,Nj,Nk,Nm,Nq,Nt,Nv,Nw,Nx,Ny,Nz,Ob,Oc,Of,Og,Oh,Oj,Ok,Om,Oq,Ot,Ov,Ow,Ox,Oy,Oz,Pb,Pc,Pf,Pg,Ph,Pj,Pk,Pm,Pq,Pt,Pv,Pw,Px,Py,Pz,Rb,Rc,Rf,Rg,Rh,Y5,Y6,Y7,Y8,Y9,Z0,Z1,Z2,Z3,Z4,Z5,Z6,Z7,Z8,Z9,j0,j1,j2,j3,j4,j5,j6,j7,j8,j9,o0,o1,o2,o3,o4,o5,o6,o7,o8,o9,y0,y1,y2,y3,y4,y5,y6,y7,y8,y9,z0,z1,z2,z3,z4,z5,z6,z7,z8,z9,x0,x1,x2,x3,x4,x5,x6,x7,x8,x9,i0,i1,i2,i3,i4,i5,i6,i7,i8,i9,d0,d1,d2,d3,d4,d5,d6,d7,d8,d9,e0,e1,e2,e3,e4,e5,e6,e7,e8,e9,f0,f1,f2,f3,f4,f5,f6,f7,f8,f9,p0,p1,p2,p3,p4,p5,p6,p7,p8,p9,v0,v1,v2,v3,v4,v5,v6,v7,v8], []⟩ w')) :
    Code.wp Tryz.prog (subC [true, true, true, true, false, true, false, false, true, false, true, true, true, true, true, true, true, false] (Tryz.f25.body.getD .skip)) Q0 ⟨#[.slice ao F.length ac,A1,A2,A3,A4,A5,A6,A7,A8,.slice (some ⟨rg, 0, none⟩) 8 8,B0,B1,B2,B3,.pointer (some ⟨pw, 0, none⟩),.func (.func 45) #[] #[.pointer (some ⟨pw, 0, none⟩)],B6,.int .i64 0,.int .i64 (-1),.string ⟨#[]⟩,.string ⟨#[]⟩,C1,C2,C3,C4,C5,C6,C7,C8,C9,D0,D1,D2,D3,D4,D5,D6,D7,D8,D9,E0,E1,E2,E3,E4,E5,E6,E7,E8,E9,G0,G1,G2,G3,G4,G5,G6,G7,G8,G9,H0,H1,H2,H3,H4,H5,H6,H7,H8,H9,I0,I1,I2,I3,I4,I5,I6,I7,I8,I9,J0,J1,J2,J3,J4,J5,J6,J7,J8,J9,K0,K1,K2,K3,K4,K5,K6,K7,K8,K9,M0,M1,M2,M3,M4,M5,M6,M7,M8,M9,N0,N1,N2,N3,N4,N5,N6,N7,N8,N9,O0,O1,O2,O3,O4,O5,O6,O7,O8,O9,P0,P1,P2,P3,P4,P5,P6,P7,P8,P9,R0,R1,R2,R3,R4,R5,R6,R7,R8,R9,S0,S1,S2,S3,S4,S5,S6,S7,S8,S9,T0,T1,T2,T3,T4,T5,T6,T7,T8,T9,U0,U1,U2,U3,U4,U5,U6,U7,U8,U9,V0,V1,V2,V3,V4,V5,V6,V7,V8,V9,W0,W1,W2,W3,W4,W5,W6,W7,W8,W9,X0,X1,X2,X3,X4,X5,X6,X7,X8,X9,Y0,Y1,Y2,Y3,Y4,Y5,Y6,Y7,Y8,Y9,Z0,Z1,Z2,Z3,Z4,Z5,Z6,Z7,Z8,Z9,j0,j1,j2,j3,j4,j5,j6,j7,j8,j9,o0,o1,o2,o3,o4,o5,o6,o7,o8,o9,y0,y1,y2,y3,y4,y5,y6,y7,y8,y9,z0,z1,z2,z3,z4,z5,z6,z7,z8,z9,x0,x1,x2,x3,x4,x5,x6,x7,x8,x9,i0,i1,i2,i3,i4,i5,i6,i7,i8,i9,d0,d1,d2,d3,d4,d5,d6,d7,d8,d9,e0,e1,e2,e3,e4,e5,e6,e7,e8,e9,f0,f1,f2,f3,f4,f5,f6,f7,f8,f9,p0,p1,p2,p3,p4,p5,p6,p7,p8,p9,v0,v1,v2,v3,v4,v5,v6,v7,v8], []⟩ w := by
  have HFa : Hid (Calls Tryz.prog 16 #[.slice ao F.length ac, .string s2] w fun e w' => e = .returned (.int .i64 (-1)) ∧ w' = w) := (FileAt_any ao ac F s2 w hF hlf).mono fun e w' ⟨i, q1, q2, q3⟩ => by
    rcases q2 with ⟨q2, _⟩ | ⟨j2, hj2, _, q4, _⟩
    · exact ⟨by rw [q1, q2], q3⟩
    · exact absurd q4 (hno _ (List.getElem_mem hj2))
  have hni : (0 : Int) < (n : Int) := by omega
  have hn2 : (2 : Int) < (n : Int) := by omega
  clear hn hno hlf hF
  conv => arg 2; whnf
  dsimp only
  go_wp2_with (first
    | (go_at_call 16; refine HFa.out.mono ?_; rintro e w1 ⟨rfl, hw⟩; subst w1)
    | go_in)
  apply HX.out; exact (Below.refl _ w)
end Go.Proofs.YtapiedeekbfpnaaGreatDoor

/- The document's own Sum: one round's parts. -/
namespace Go.Proofs.YtapiedeekbfpnaaGreatDoor
open Go.RowKit
variable (A0 A1 A2 A3 A4 A5 A6 A7 A8 A9 B0 B1 B2 B3 B4 B5 B6 B7 B8 B9 C0 C1 C2 C3 C4 C5 C6 C7 C8 C9 D0 D1 D2 D3 D4 D5 D6 D7 D8 D9 E0 E1 E2 E3 E4 E5 E6 E7 E8 E9 G0 G1 G2 G3 G4 G5 G6 G7 G8 G9 H0 H1 H2 H3 H4 H5 H6 H7 H8 H9 I0 I1 I2 I3 I4 I5 I6 I7 I8 I9 J0 J1 J2 J3 J4 J5 J6 J7 J8 J9 K0 K1 K2 K3 K4 K5 K6 K7 K8 K9 M0 M1 M2 M3 M4 M5 M6 M7 M8 M9 O0 O1 O2 O3 O4 O5 O6 O7 O8 O9 P0 P1 P2 P3 P4 P5 P6 P7 P8 P9 R0 R1 R2 R3 R4 R5 R6 R7 R8 R9 S0 S1 S2 S3 S4 S5 S6 S7 S8 S9 T0 T1 T2 T3 T4 T5 T6 T7 T8 T9 U0 U1 U2 U3 U4 U5 U6 U7 U8 U9 V0 V1 V2 V3 V4 V5 V6 V7 V8 V9 W0 W1 W2 W3 W4 W5 W6 W7 W8 W9 X0 X1 X2 X3 X4 X5 X6 X7 X8 X9 Y0 Y1 Y2 Y3 Y4 Y5 Y6 Y7 Y8 Y9 Z0 Z1 Z2 Z3 Z4 Z5 Z6 Z7 Z8 Z9 j0 j1 j2 j3 j4 j5 j6 j7 j8 j9 o0 o1 o2 o3 o4 o5 o6 o7 o8 o9 y0 y1 y2 y3 y4 y5 y6 y7 y8 y9 z0 z1 z2 z3 z4 z5 z6 z7 z8 z9 x0 x1 x2 x3 x4 x5 x6 x7 x8 x9 i0 i1 i2 i3 i4 i5 i6 i7 i8 i9 v0 v1 v2 v3 : Value)

theorem Xor_2 (W : World) (b a1 a2 : Nat) (h1 : a1 < 2 ^ 32) (h2 : a2 < 2 ^ 32) (r : Nat) (hr : r = a1 ^^^ a2) (c0 : W.cell? ⟨b, 0, none⟩ = some (.int .i64 a1)) (c1 : W.cell? ⟨b, 1, none⟩ = some (.int .i64 a2)) :
    Calls Tryz.prog 101 #[.slice (some ⟨b, 0, none⟩) 2 2] W fun e w' => e = .returned (.int .i64 (r : Int)) ∧ w' = W := by
  have := Xor_any b 2 [a1, a2] W (by simp) (by simp [h1, h2]) (fun j hj => by match j, hj with | 0, _ => exact c0 | 1, _ => exact c1)
  rw [hr]
  simpa [xors] using this
theorem Xor_3 (W : World) (b a1 a2 a3 : Nat) (h1 : a1 < 2 ^ 32) (h2 : a2 < 2 ^ 32) (h3 : a3 < 2 ^ 32) (r : Nat) (hr : r = a1 ^^^ a2 ^^^ a3) (c0 : W.cell? ⟨b, 0, none⟩ = some (.int .i64 a1)) (c1 : W.cell? ⟨b, 1, none⟩ = some (.int .i64 a2)) (c2 : W.cell? ⟨b, 2, none⟩ = some (.int .i64 a3)) :
    Calls Tryz.prog 101 #[.slice (some ⟨b, 0, none⟩) 3 3] W fun e w' => e = .returned (.int .i64 (r : Int)) ∧ w' = W := by
  have := Xor_any b 3 [a1, a2, a3] W (by simp) (by simp [h1, h2, h3]) (fun j hj => by match j, hj with | 0, _ => exact c0 | 1, _ => exact c1 | 2, _ => exact c2)
  rw [hr]
  simpa [xors] using this

set_option maxHeartbeats 4000000 in
set_option maxRecDepth 100000 in
theorem r33 (w : World) (e f h g c : Nat) (he : e < 2 ^ 32) (hf : f < 2 ^ 32) (hh : h < 2 ^ 32)
    (c5 : w.cell? ⟨g, 5, none⟩ = some (.int .i64 f)) (c6 : w.cell? ⟨g, 6, none⟩ = some (.int .i64 h)) (hg : g < w.heap.size) (Q0 : Exit → Act → World → Prop)
    (HX : Hid (∀ (Mb Mc Mf Mg Mh Mj Mk Mm Mq Mt Mv Mw Mx : Value) (w' : World), Below w.heap.size w w' → Q0 .normal ⟨#[A0,A1,A2,A3,A4,A5,A6,A7,A8,A9,B0,B1,B2,B3,B4,B5,B6,.slice (some ⟨g, 0, none⟩) 8 c,B8,B9,.int .i64 e,.int .i64 (chN e f h : Nat),C2,C3,C4,C5,C6,C7,C8,C9,D0,D1,D2,D3,D4,D5,D6,D7,D8,D9,E0,E1,E2,E3,E4,E5,E6,E7,E8,E9,G0,G1,G2,G3,G4,G5,G6,G7,G8,G9,H0,H1,H2,H3,H4,H5,H6,H7,H8,H9,I0,I1,I2,I3,I4,I5,I6,I7,I8,I9,J0,J1,J2,J3,J4,J5,J6,J7,J8,J9,K0,K1,K2,K3,K4,K5,K6,K7,K8,K9,M0,M1,M2,M3,M4,M5,M6,M7,M8,M9,O0,O1,O2,O3,O4,O5,O6,O7,O8,O9,P0,P1,P2,P3,P4,P5,P6,P7,P8,P9,R0,R1,R2,R3,R4,R5,R6,R7,R8,R9,S0,S1,S2,S3,S4,S5,S6,S7,S8,S9,Mb,Mc,Mf,Mg,Mh,Mj,Mk,Mm,Mq,Mt,Mv,Mw,Mx,U3,U4,U5,U6,U7,U8,U9,V0,V1,V2,V3,V4,V5,V6,V7,V8,V9,W0,W1,W2,W3,W4,W5,W6,W7,W8,W9,X0,X1,X2,X3,X4,X5,X6,X7,X8,X9,Y0,Y1,Y2,Y3,Y4,Y5,Y6,Y7,Y8,Y9,Z0,Z1,Z2,Z3,Z4,Z5,Z6,Z7,Z8,Z9,j0,j1,j2,j3,j4,j5,j6,j7,j8,j9,o0,o1,o2,o3,o4,o5,o6,o7,o8,o9,y0,y1,y2,y3,y4,y5,y6,y7,y8,y9,z0,z1,z2,z3,z4,z5,z6,z7,z8,z9,x0,x1,x2,x3,x4,x5,x6,x7,x8,x9,i0,i1,i2,i3,i4,i5,i6,i7,i8,i9,v0,v1,v2,v3], []⟩ w')) :
    Code.wp Tryz.prog (subC [true, true, true, true, true, true, false, true, false, false, true, false, false, true, true, true, false, true, false, false, true, false, false, true, false] (Tryz.f48.body.getD .skip)) Q0 ⟨#[A0,A1,A2,A3,A4,A5,A6,A7,A8,A9,B0,B1,B2,B3,B4,B5,B6,.slice (some ⟨g, 0, none⟩) 8 c,B8,B9,.int .i64 e,C1,C2,C3,C4,C5,C6,C7,C8,C9,D0,D1,D2,D3,D4,D5,D6,D7,D8,D9,E0,E1,E2,E3,E4,E5,E6,E7,E8,E9,G0,G1,G2,G3,G4,G5,G6,G7,G8,G9,H0,H1,H2,H3,H4,H5,H6,H7,H8,H9,I0,I1,I2,I3,I4,I5,I6,I7,I8,I9,J0,J1,J2,J3,J4,J5,J6,J7,J8,J9,K0,K1,K2,K3,K4,K5,K6,K7,K8,K9,M0,M1,M2,M3,M4,M5,M6,M7,M8,M9,O0,O1,O2,O3,O4,O5,O6,O7,O8,O9,P0,P1,P2,P3,P4,P5,P6,P7,P8,P9,R0,R1,R2,R3,R4,R5,R6,R7,R8,R9,S0,S1,S2,S3,S4,S5,S6,S7,S8,S9,T0,T1,T2,T3,T4,T5,T6,T7,T8,T9,U0,U1,U2,U3,U4,U5,U6,U7,U8,U9,V0,V1,V2,V3,V4,V5,V6,V7,V8,V9,W0,W1,W2,W3,W4,W5,W6,W7,W8,W9,X0,X1,X2,X3,X4,X5,X6,X7,X8,X9,Y0,Y1,Y2,Y3,Y4,Y5,Y6,Y7,Y8,Y9,Z0,Z1,Z2,Z3,Z4,Z5,Z6,Z7,Z8,Z9,j0,j1,j2,j3,j4,j5,j6,j7,j8,j9,o0,o1,o2,o3,o4,o5,o6,o7,o8,o9,y0,y1,y2,y3,y4,y5,y6,y7,y8,y9,z0,z1,z2,z3,z4,z5,z6,z7,z8,z9,x0,x1,x2,x3,x4,x5,x6,x7,x8,x9,i0,i1,i2,i3,i4,i5,i6,i7,i8,i9,v0,v1,v2,v3], []⟩ w := by
  have HB : Hid (Below w.heap.size w w) := Below.refl _ _
  obtain ⟨ne, hne⟩ : ∃ ne, ne = 4294967295 - e := ⟨_, rfl⟩
  have hsub : (4294967295 : Int) - (e : Int) = (ne : Int) := by omega
  obtain ⟨a1, ha1⟩ : ∃ a1, a1 = e &&& f := ⟨_, rfl⟩
  obtain ⟨a2, ha2⟩ : ∃ a2, a2 = ne &&& h := ⟨_, rfl⟩
  obtain ⟨r, hr⟩ : ∃ r, r = a1 ^^^ a2 := ⟨_, rfl⟩
  have HR : Hid (chN e f h = r) := by show _ = _; unfold chN; rw [hr, ha1, ha2, hne]
  have HA1 : Hid (∀ W : World, Calls Tryz.prog 104 #[.int .i64 e, .int .i64 f] W fun e w' => e = .returned (.int .i64 (a1 : Int)) ∧ w' = W) := fun W => by rw [ha1]; exact And_any e f W he hf
  have HA2 : Hid (∀ W : World, Calls Tryz.prog 104 #[.int .i64 ne, .int .i64 h] W fun e w' => e = .returned (.int .i64 (a2 : Int)) ∧ w' = W) := fun W => by rw [ha2]; exact And_any ne h W (by omega) hh
  have HXO : Hid (∀ (W : World) (b : Nat), W.cell? ⟨b, 0, none⟩ = some (.int .i64 a1) → W.cell? ⟨b, 1, none⟩ = some (.int .i64 a2) → Calls Tryz.prog 101 #[.slice (some ⟨b, 0, none⟩) 2 2] W fun e w' => e = .returned (.int .i64 (r : Int)) ∧ w' = W) := fun W b =>
    Xor_2 W b a1 a2 (by rw [ha1]; exact Nat.and_lt_two_pow _ hf) (by rw [ha2]; exact Nat.and_lt_two_pow _ hh) r hr
  rw [HR.out] at HX
  have wn : IntKind.i64.wrap (ne : Int) = (ne : Int) := wr62 ne (by omega)
  clear hr ha1 ha2 he hf hh HR hne
  conv => arg 2; whnf
  go_region_held3 (fun w' => w'.cell? ⟨g, 5, none⟩ = some (.int .i64 f) ∧ w'.cell? ⟨g, 6, none⟩ = some (.int .i64 h) ∧ g < w'.heap.size)
    (first | (simp [go_sem, *]; done) | (simp [go_sem, c5, c6, hg]; omega))
    (first
      | (go_at_call_of 104 (Value.int IntKind.i64 (e : Int)); refine (HA1.out _).mono ?_; rintro e w' ⟨rfl, rfl⟩)
      | (go_at_call_of 104 (Value.int IntKind.i64 (ne : Int)); refine (HA2.out _).mono ?_; rintro e w' ⟨rfl, rfl⟩)
      | (go_at_call 101; refine (HXO.out _ _ (by simp [go_sem]) (by simp [go_sem])).mono ?_; rintro e w' ⟨rfl, rfl⟩)
      | fail)
  all_goals exact HX.out _ _ _ _ _ _ _ _ _ _ _ _ _ _ (HB.out.alloc (Nat.le_refl _) _).drew

theorem al_atC (W : World) (b : Nat) (cs : Array Value) (ty : TypeId) (k : Nat) (v : Value) (hb : b = W.heap.size) (hv : cs[k]? = some v) : (W.alloc (.cells cs ty)).cell? ⟨b, k, none⟩ = some v := by
  subst hb
  rw [Lib.cell_of_heap (heap_alloc_new W _)]
  exact hv
theorem bl_al {a w : World} (h : Below a.heap.size a w) (o : Obj) : Below a.heap.size a (w.alloc o) := h.alloc h.size o
theorem bl_dn {a w : World} (h : Below a.heap.size a w) (n : Nat) : Below a.heap.size a (w.drewN n) := below_drewN h n
theorem bl_dr {a w : World} (h : Below a.heap.size a w) : Below a.heap.size a w.drew := h.drew
theorem wr60 (n : Nat) (h : n < 2 ^ 40) : IntKind.i64.wrap (n : Int) = (n : Int) := by rw [IntKind.wrap_i64]; omega
theorem big_lt (x : Nat) (hx : x < 2 ^ 32) : big1N x < 2 ^ 32 ∧ big0N x < 2 ^ 32 ∧ sig0N x < 2 ^ 32 ∧ sig1N x < 2 ^ 32 := ⟨(big1_nat x hx).2, (big0_nat x hx).2, (sig0_nat x hx).2, (sig1_nat x hx).2⟩

set_option maxHeartbeats 4000000 in
set_option maxRecDepth 100000 in
theorem r34 (w : World) (e h ch kv wv g c kb kc wb wc t : Nat) (he : e < 2 ^ 32) (hh : h < 2 ^ 32) (hch : ch < 2 ^ 32) (hkv : kv < 2 ^ 32) (hwv : wv < 2 ^ 32) (ht : t < 64)
    (c7 : w.cell? ⟨g, 7, none⟩ = some (.int .i64 h)) (ck : w.cell? ⟨kb, t, none⟩ = some (.int .i64 kv)) (cw : w.cell? ⟨wb, t, none⟩ = some (.int .i64 wv)) (hg : g < w.heap.size) (hkb : kb < w.heap.size) (hwb : wb < w.heap.size) (Q0 : Exit → Act → World → Prop)
    (hexit : ∀ (My Mz Ob Oc Of Og Oh Oj Ok Om Oq Ot Ov Ow Ox Oy Oz Pb Pc Pf Pg Ph Pj Pk Pm : Value) (w' : World), Below w.heap.size w w' → Q0 .normal ⟨#[A0,A1,A2,A3,A4,A5,.slice (some ⟨kb, 0, none⟩) 64 kc,A7,A8,.slice (some ⟨wb, 0, none⟩) 64 wc,B0,B1,B2,B3,B4,B5,B6,.slice (some ⟨g, 0, none⟩) 8 c,.int .i64 t,B9,.int .i64 e,.int .i64 ch,.int .i64 ((h + big1N e + ch + kv + wv) % 4294967296 : Nat),C3,C4,C5,C6,C7,C8,C9,D0,D1,D2,D3,D4,D5,D6,D7,D8,D9,E0,E1,E2,E3,E4,E5,E6,E7,E8,E9,G0,G1,G2,G3,G4,G5,G6,G7,G8,G9,H0,H1,H2,H3,H4,H5,H6,H7,H8,H9,I0,I1,I2,I3,I4,I5,I6,I7,I8,I9,J0,J1,J2,J3,J4,J5,J6,J7,J8,J9,K0,K1,K2,K3,K4,K5,K6,K7,K8,K9,M0,M1,M2,M3,M4,M5,M6,M7,M8,M9,O0,O1,O2,O3,O4,O5,O6,O7,O8,O9,P0,P1,P2,P3,P4,P5,P6,P7,P8,P9,R0,R1,R2,R3,R4,R5,R6,R7,R8,R9,S0,S1,S2,S3,S4,S5,S6,S7,S8,S9,T0,T1,T2,T3,T4,T5,T6,T7,T8,T9,U0,U1,U2,My,Mz,Ob,Oc,Of,Og,Oh,Oj,Ok,Om,Oq,Ot,Ov,Ow,Ox,Oy,Oz,Pb,Pc,Pf,Pg,Ph,Pj,Pk,Pm,W8,W9,X0,X1,X2,X3,X4,X5,X6,X7,X8,X9,Y0,Y1,Y2,Y3,Y4,Y5,Y6,Y7,Y8,Y9,Z0,Z1,Z2,Z3,Z4,Z5,Z6,Z7,Z8,Z9,j0,j1,j2,j3,j4,j5,j6,j7,j8,j9,o0,o1,o2,o3,o4,o5,o6,o7,o8,o9,y0,y1,y2,y3,y4,y5,y6,y7,y8,y9,z0,z1,z2,z3,z4,z5,z6,z7,z8,z9,x0,x1,x2,x3,x4,x5,x6,x7,x8,x9,i0,i1,i2,i3,i4,i5,i6,i7,i8,i9,v0,v1,v2,v3], []⟩ w') :
    Code.wp Tryz.prog (subC [true, true, true, true, true, true, false, true, false, false, true, false, false, true, true, true, false, true, false, false, true, false, false, true, true, false] (Tryz.f48.body.getD .skip)) Q0 ⟨#[A0,A1,A2,A3,A4,A5,.slice (some ⟨kb, 0, none⟩) 64 kc,A7,A8,.slice (some ⟨wb, 0, none⟩) 64 wc,B0,B1,B2,B3,B4,B5,B6,.slice (some ⟨g, 0, none⟩) 8 c,.int .i64 t,B9,.int .i64 e,.int .i64 ch,C2,C3,C4,C5,C6,C7,C8,C9,D0,D1,D2,D3,D4,D5,D6,D7,D8,D9,E0,E1,E2,E3,E4,E5,E6,E7,E8,E9,G0,G1,G2,G3,G4,G5,G6,G7,G8,G9,H0,H1,H2,H3,H4,H5,H6,H7,H8,H9,I0,I1,I2,I3,I4,I5,I6,I7,I8,I9,J0,J1,J2,J3,J4,J5,J6,J7,J8,J9,K0,K1,K2,K3,K4,K5,K6,K7,K8,K9,M0,M1,M2,M3,M4,M5,M6,M7,M8,M9,O0,O1,O2,O3,O4,O5,O6,O7,O8,O9,P0,P1,P2,P3,P4,P5,P6,P7,P8,P9,R0,R1,R2,R3,R4,R5,R6,R7,R8,R9,S0,S1,S2,S3,S4,S5,S6,S7,S8,S9,T0,T1,T2,T3,T4,T5,T6,T7,T8,T9,U0,U1,U2,U3,U4,U5,U6,U7,U8,U9,V0,V1,V2,V3,V4,V5,V6,V7,V8,V9,W0,W1,W2,W3,W4,W5,W6,W7,W8,W9,X0,X1,X2,X3,X4,X5,X6,X7,X8,X9,Y0,Y1,Y2,Y3,Y4,Y5,Y6,Y7,Y8,Y9,Z0,Z1,Z2,Z3,Z4,Z5,Z6,Z7,Z8,Z9,j0,j1,j2,j3,j4,j5,j6,j7,j8,j9,o0,o1,o2,o3,o4,o5,o6,o7,o8,o9,y0,y1,y2,y3,y4,y5,y6,y7,y8,y9,z0,z1,z2,z3,z4,z5,z6,z7,z8,z9,x0,x1,x2,x3,x4,x5,x6,x7,x8,x9,i0,i1,i2,i3,i4,i5,i6,i7,i8,i9,v0,v1,v2,v3], []⟩ w := by
  have HX : Hid _ := hexit
  have HB : Hid (Below w.heap.size w w) := Below.refl _ _
  have hti : (t : Int) < 64 := by omega
  have bl := (big_lt e he).1
  have l1 := (right_lt e 6 he (by decide)).2
  have l2 := (right_lt e 11 he (by decide)).2
  have l3 := (right_lt e 25 he (by decide)).2
  have HA1 : Hid (∀ W : World, Calls Tryz.prog 102 #[.int .i64 e, .int .i64 6] W fun e' w' => e' = .returned (.int .i64 (rightN e 6 : Nat)) ∧ ∃ m, w' = W.drewN m) := fun W => Right_any e 6 W he (by decide) (by decide)
  have HA2 : Hid (∀ W : World, Calls Tryz.prog 102 #[.int .i64 e, .int .i64 11] W fun e' w' => e' = .returned (.int .i64 (rightN e 11 : Nat)) ∧ ∃ m, w' = W.drewN m) := fun W => Right_any e 11 W he (by decide) (by decide)
  have HA3 : Hid (∀ W : World, Calls Tryz.prog 102 #[.int .i64 e, .int .i64 25] W fun e' w' => e' = .returned (.int .i64 (rightN e 25 : Nat)) ∧ ∃ m, w' = W.drewN m) := fun W => Right_any e 25 W he (by decide) (by decide)
  have HXO : Hid (∀ (W : World) (b : Nat), W.cell? ⟨b, 0, none⟩ = some (.int .i64 (rightN e 6 : Nat)) → W.cell? ⟨b, 1, none⟩ = some (.int .i64 (rightN e 11 : Nat)) → W.cell? ⟨b, 2, none⟩ = some (.int .i64 (rightN e 25 : Nat)) → Calls Tryz.prog 101 #[.slice (some ⟨b, 0, none⟩) 3 3] W fun e' w' => e' = .returned (.int .i64 (big1N e : Nat)) ∧ w' = W) := fun W b => Xor_3 W b _ _ _ l1 l2 l3 _ rfl
  generalize rightN e 6 = p1 at HA1 HXO
  generalize rightN e 11 = p2 at HA2 HXO
  generalize rightN e 25 = p3 at HA3 HXO
  generalize big1N e = bg at HX HXO bl
  obtain ⟨s1, hs1⟩ : ∃ s1, s1 = h + bg := ⟨_, rfl⟩
  obtain ⟨s2, hs2⟩ : ∃ s2, s2 = s1 + ch := ⟨_, rfl⟩
  obtain ⟨s3, hs3⟩ : ∃ s3, s3 = s2 + kv := ⟨_, rfl⟩
  obtain ⟨s4, hs4⟩ : ∃ s4, s4 = s3 + wv := ⟨_, rfl⟩
  obtain ⟨u, hu⟩ : ∃ u, u = s4 % 4294967296 := ⟨_, rfl⟩
  have e1 : (h : Int) + (bg : Int) = (s1 : Int) := by omega
  have e2 : (s1 : Int) + (ch : Int) = (s2 : Int) := by omega
  have e3 : (s2 : Int) + (kv : Int) = (s3 : Int) := by omega
  have e4 : (s3 : Int) + (wv : Int) = (s4 : Int) := by omega
  have HWR : Hid (∀ W : World, Calls Tryz.prog 103 #[.int .i64 s4] W fun e w' => e = .returned (.int .i64 (u : Int)) ∧ w' = W) := fun W => by rw [hu]; exact Wrap_any s4 W
  rw [← hs1, ← hs2, ← hs3, ← hs4, ← hu] at HX
  have f1 := wr60 s1 (by omega)
  have f2 := wr60 s2 (by omega)
  have f3 := wr60 s3 (by omega)
  have f4 := wr60 s4 (by omega)
  clear hs1 hs2 hs3 hs4 hu he hh hch hkv hwv bl l1 l2 l3
  conv => arg 2; whnf
  have HS : Hid (∀ W : World, Below w.heap.size w W → W.cell? ⟨g, 7, none⟩ = some (.int .i64 h) ∧ W.cell? ⟨kb, t, none⟩ = some (.int .i64 kv) ∧ W.cell? ⟨wb, t, none⟩ = some (.int .i64 wv)) := fun W hW => ⟨(hW.cell (p := ⟨g, 7, none⟩) hg).trans c7, (hW.cell (p := ⟨kb, t, none⟩) hkb).trans ck, (hW.cell (p := ⟨wb, t, none⟩) hwb).trans cw⟩
  clear c7 ck cw hg hkb hwb
  go_region_held3 (fun w' => w'.cell? ⟨g, 7, none⟩ = some (.int .i64 h) ∧ w'.cell? ⟨kb, t, none⟩ = some (.int .i64 kv) ∧ w'.cell? ⟨wb, t, none⟩ = some (.int .i64 wv))
    (first | (refine HS.out _ ?_; repeat' (with_reducible (first | exact HB.out | refine bl_al ?_ _ | refine bl_dn ?_ _ | refine bl_dr ?_))) | fail)
    (first
      | (go_at_call_of 102 (Value.int IntKind.i64 (6 : Int)); refine (HA1.out _).mono ?_; rintro e w' ⟨rfl, m1, rfl⟩)
      | (go_at_call_of 102 (Value.int IntKind.i64 (11 : Int)); refine (HA2.out _).mono ?_; rintro e w' ⟨rfl, m2, rfl⟩)
      | (go_at_call_of 102 (Value.int IntKind.i64 (25 : Int)); refine (HA3.out _).mono ?_; rintro e w' ⟨rfl, m3, rfl⟩)
      | (go_at_call 101; refine (HXO.out _ _ (al_atC _ _ _ _ 0 _ rfl rfl) (al_atC _ _ _ _ 1 _ rfl rfl) (al_atC _ _ _ _ 2 _ rfl rfl)).mono ?_; rintro e w' ⟨rfl, rfl⟩)
      | (go_at_call 103; refine (HWR.out _).mono ?_; rintro e w' ⟨rfl, rfl⟩)
      | fail)
  all_goals exact HX.out _ _ _ _ _ _ _ _ _ _ _ _ _ _ _ _ _ _ _ _ _ _ _ _ _ _ (by repeat' (with_reducible (first | exact HB.out | refine bl_al ?_ _ | refine bl_dn ?_ _ | refine bl_dr ?_)))
end Go.Proofs.YtapiedeekbfpnaaGreatDoor
