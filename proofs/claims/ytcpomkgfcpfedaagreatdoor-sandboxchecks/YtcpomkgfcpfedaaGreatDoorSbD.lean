/- A line is taken apart. -/
import Derived.Shelf.Strings.Cut
import Derived.Test.YtcpomkgfcpfedaaGreatDoorSbC
namespace Go.Proofs.YtcpomkgfcpfedaaGreatDoor
open Go.RowKit Go.Shelf Go.Maps Go.WideMaps

def laysCt_ren : Go.Shelf.Ren := ⟨fun | 145 => 37 | 220 => 54 | 219 => 86 | 217 => 107 | 225 => 108 | 224 => 109 | 267 => 110 | 266 => 130 | 314 => 131 | n => n, fun | 9 => 9 | 4 => 4 | 59 => 64 | 3 => 3 | 5 => 5 | 46 => 120 | 146 => 141 | 51 => 112 | n => n, fun | 1 => 0 | n => n⟩
theorem laysCt : Go.Proofs.Lays.n145 Tryz.prog laysCt_ren := {
  mixed := by kernel_rfl
  f145 := Tryz.func37.trans (congrArg some (by kernel_rfl))
  f217 := Tryz.func107.trans (congrArg some (by kernel_rfl))
  f219 := Tryz.func86.trans (congrArg some (by kernel_rfl))
  f220 := Tryz.func54.trans (congrArg some (by kernel_rfl))
  f224 := Tryz.func109.trans (congrArg some (by kernel_rfl))
  f225 := Tryz.func108.trans (congrArg some (by kernel_rfl))
  f266 := Tryz.func130.trans (congrArg some (by kernel_rfl))
  f267 := Tryz.func110.trans (congrArg some (by kernel_rfl))
  f314 := Tryz.func131.trans (congrArg some (by kernel_rfl))
  t3 := Tryz.underlying3
  a3 := Tryz.isAgg3
  z3 := Tryz.sizeOf3
  v3 := Tryz.zeroValue3
  t4 := Tryz.underlying4
  a4 := Tryz.isAgg4
  z4 := Tryz.sizeOf4
  v4 := Tryz.zeroValue4
  t5 := Tryz.underlying5
  a5 := Tryz.isAgg5
  z5 := Tryz.sizeOf5
  v5 := Tryz.zeroValue5
  t9 := Tryz.underlying9
  a9 := Tryz.isAgg9
  z9 := Tryz.sizeOf9
  v9 := Tryz.zeroValue9
  t46 := Tryz.underlying120
  a46 := Tryz.isAgg120
  z46 := Tryz.sizeOf120
  v46 := Tryz.zeroValue120
  t51 := Tryz.underlying112
  a51 := Tryz.isAgg112
  z51 := Tryz.sizeOf112
  v51 := Tryz.zeroValue112
  t59 := Tryz.underlying64
  a59 := Tryz.isAgg64
  z59 := Tryz.sizeOf64
  v59 := Tryz.zeroValue64
  t146 := Tryz.underlying141
  a146 := Tryz.isAgg141
  z146 := Tryz.sizeOf141
  v146 := Tryz.zeroValue141
  g1 := by kernel_rfl }

def laysSN_ren : Ren := ⟨fun | 138 => 88 | 143 => 89 | 147 => 38 | 195 => 111 | 197 => 112 | 217 => 107 | 218 => 113 | 219 => 86 | 221 => 55 | 224 => 109 | 225 => 108 | 260 => 132 | 266 => 130 | 267 => 110 | 268 => 87 | 314 => 131 | n => n, fun | 0 => 0 | 3 => 3 | 4 => 4 | 5 => 5 | 9 => 9 | 21 => 21 | 31 => 22 | 46 => 120 | 51 => 112 | 105 => 124 | 119 => 155 | 138 => 157 | 139 => 158 | 146 => 141 | n => n, fun | 1 => 0 | 3 => 3 | 4 => 4 | n => n⟩
theorem laysSN : Go.Proofs.Lays.n147 Tryz.prog laysSN_ren := {
  mixed := by kernel_rfl
  f138 := Tryz.func88.trans (congrArg some (by kernel_rfl))
  f143 := Tryz.func89.trans (congrArg some (by kernel_rfl))
  f147 := Tryz.func38.trans (congrArg some (by kernel_rfl))
  f195 := Tryz.func111.trans (congrArg some (by kernel_rfl))
  f197 := Tryz.func112.trans (congrArg some (by kernel_rfl))
  f217 := Tryz.func107.trans (congrArg some (by kernel_rfl))
  f218 := Tryz.func113.trans (congrArg some (by kernel_rfl))
  f219 := Tryz.func86.trans (congrArg some (by kernel_rfl))
  f221 := Tryz.func55.trans (congrArg some (by kernel_rfl))
  f224 := Tryz.func109.trans (congrArg some (by kernel_rfl))
  f225 := Tryz.func108.trans (congrArg some (by kernel_rfl))
  f260 := Tryz.func132.trans (congrArg some (by kernel_rfl))
  f266 := Tryz.func130.trans (congrArg some (by kernel_rfl))
  f267 := Tryz.func110.trans (congrArg some (by kernel_rfl))
  f268 := Tryz.func87.trans (congrArg some (by kernel_rfl))
  f314 := Tryz.func131.trans (congrArg some (by kernel_rfl))
  t0 := Tryz.underlying0
  a0 := Tryz.isAgg0
  z0 := Tryz.sizeOf0
  v0 := Tryz.zeroValue0
  t3 := Tryz.underlying3
  a3 := Tryz.isAgg3
  z3 := Tryz.sizeOf3
  v3 := Tryz.zeroValue3
  t4 := Tryz.underlying4
  a4 := Tryz.isAgg4
  z4 := Tryz.sizeOf4
  v4 := Tryz.zeroValue4
  t5 := Tryz.underlying5
  a5 := Tryz.isAgg5
  z5 := Tryz.sizeOf5
  v5 := Tryz.zeroValue5
  t9 := Tryz.underlying9
  a9 := Tryz.isAgg9
  z9 := Tryz.sizeOf9
  v9 := Tryz.zeroValue9
  t21 := Tryz.underlying21
  a21 := Tryz.isAgg21
  z21 := Tryz.sizeOf21
  v21 := Tryz.zeroValue21
  t31 := Tryz.underlying22
  a31 := Tryz.isAgg22
  z31 := Tryz.sizeOf22
  v31 := Tryz.zeroValue22
  t46 := Tryz.underlying120
  a46 := Tryz.isAgg120
  z46 := Tryz.sizeOf120
  v46 := Tryz.zeroValue120
  t51 := Tryz.underlying112
  a51 := Tryz.isAgg112
  z51 := Tryz.sizeOf112
  v51 := Tryz.zeroValue112
  t105 := Tryz.underlying124
  a105 := Tryz.isAgg124
  z105 := Tryz.sizeOf124
  v105 := Tryz.zeroValue124
  t119 := Tryz.underlying155
  a119 := Tryz.isAgg155
  z119 := Tryz.sizeOf155
  t138 := Tryz.underlying157
  a138 := Tryz.isAgg157
  z138 := Tryz.sizeOf157
  v138 := Tryz.zeroValue157
  t139 := Tryz.underlying158
  a139 := Tryz.isAgg158
  z139 := Tryz.sizeOf158
  v139 := Tryz.zeroValue158
  t146 := Tryz.underlying141
  a146 := Tryz.isAgg141
  z146 := Tryz.sizeOf141
  v146 := Tryz.zeroValue141
  g1 := by kernel_rfl
  g3 := by kernel_rfl
  g4 := by kernel_rfl }

theorem omapS {H : Type} {w w' : World} {P : Program} {k : TypeId} {R : Value → Option (DataW H × List MemPlace)} {b n : Nat} {D : DataW H} (h : w.ownsMap P k R b n D) (hh : w'.heap[b]? = w.heap[b]?) : w'.ownsMap P k R b n D := by
  obtain ⟨es, clock, hb, rest⟩ := h
  exact ⟨es, clock, hh.trans hb, rest⟩
theorem dF_at (x : List UInt8) (z : DataW Unit) : ∀ (fs : List (List UInt8 × List Nat)) (bs : List Nat) (D : DataW Unit), Tidy D → fs.length = bs.length → (fs.map (·.1)).Nodup →
    (fs.lookup x = none → (dF fs bs D).atKey (.string x) z = D.atKey (.string x) z ∧ Maps.has (dF fs bs D) (.string x) = Maps.has D (.string x)) ∧
    (∀ f, fs.lookup x = some f → ∃ (j b : Nat), fs[j]? = some (x, f) ∧ bs[j]? = some b ∧ (dF fs bs D).atKey (.string x) z = .lit (.int .i64 ((4 * b + f.length : Nat) : Int)) ∧ Maps.has (dF fs bs D) (.string x) = true) := by
  intro fs
  induction fs with
  | nil =>
    intro bs D _ _ _
    refine ⟨fun _ => ?_, fun f h => by cases h⟩
    cases bs <;> exact ⟨rfl, rfl⟩
  | cons g fs ih =>
    intro bs D hD hl hn
    cases bs with
    | nil => cases hl
    | cons b bs =>
      have hD2 : Tidy (D.put (.string g.1) (.lit (.int .i64 ((4 * b + g.2.length : Nat) : Int)))) := hD.put (by exact trivial) _
      rw [List.map_cons, List.nodup_cons] at hn
      obtain ⟨i1, i2⟩ := ih bs (D.put (.string g.1) (.lit (.int .i64 ((4 * b + g.2.length : Nat) : Int)))) hD2 (by simpa using hl) hn.2
      have hlk : (g :: fs).lookup x = if x = g.1 then some g.2 else fs.lookup x := by
        obtain ⟨g1, g2⟩ := g
        rw [List.lookup_cons]
        by_cases e : x = g1
        · subst e; simp
        · rw [if_neg e, beq_eq_false_iff_ne.2 e]
      rw [hlk]
      by_cases e : x = g.1
      · rw [if_pos e]
        refine ⟨fun h => absurd h (by simp), fun f h => ?_⟩
        obtain rfl := Option.some.inj h
        have hno : fs.lookup x = none := by
          cases hq : fs.lookup x with
          | none => rfl
          | some f2 =>
            exfalso
            exact hn.1 (by rw [← e]; exact List.mem_map.2 ⟨(x, f2), lookup_mem x fs hq, rfl⟩)
        obtain ⟨k1, k2⟩ := i1 hno
        refine ⟨0, b, by rw [e]; rfl, rfl, ?_, ?_⟩
        · show (dF fs bs _).atKey _ _ = _
          rw [k1, e, atKey_put_same hD.isMap (by exact trivial)]
        · show Maps.has (dF fs bs _) _ = _
          rw [k2, e, has_put_same hD.isMap (by exact trivial)]
      · rw [if_neg e]
        refine ⟨fun h => ?_, fun f h => ?_⟩
        · obtain ⟨k1, k2⟩ := i1 h
          refine ⟨?_, ?_⟩
          · show (dF fs bs _).atKey _ _ = _
            rw [k1, atKey_put_other (fun h => e (by injection h))]
          · show Maps.has (dF fs bs _) _ = _
            rw [k2, has_put_other (fun h => e (by injection h))]
        · obtain ⟨j, b2, k1, k2, k3, k4⟩ := i2 f h
          exact ⟨j + 1, b2, k1, k2, k3, k4⟩
theorem frm_nodup : (frmL.map (·.1)).Nodup := by decide

theorem look_no {B M bn bl bp lines : Nat} {w0 w : World} {bs : List Nat} (h : FmI B M bn bl bp lines w0 bs w) (hl : bs.length = 13) (s : ByteArray) (hs : s.size ≤ maxLen) (hf : frmF s.data.toList = none) :
    ∀ W : World, W.heap[M]? = w.heap[M]? → ∃ v, (Instr.lookup 40 (.map (some M)) (.string s) true).run Tryz.prog W = .ok (.tuple #[v, .bool false]) W := by
  intro W hW
  obtain ⟨v, ps, hr, hv⟩ := (omapS h.own hW).look_ok lawSb Tryz.underlying40 (zeroL W) (zd := .lit (.int .i64 (-1))) (zp := []) rfl (keyOf_string_mk Tryz.underlying9 hs)
  have := ((dF_at s.data.toList (.lit (.int .i64 (-1))) frmL bs (.map []) tidy_empty (by rw [hl]; rfl) frm_nodup).1 hf).2
  rw [this] at hr
  exact ⟨v, hr⟩
theorem look_yes {B M bn bl bp lines : Nat} {w0 w : World} {bs : List Nat} (h : FmI B M bn bl bp lines w0 bs w) (hl : bs.length = 13) (s : ByteArray) (hs : s.size ≤ maxLen) {f : List Nat} (hf : frmF s.data.toList = some f) :
    ∃ b, w.heap[b]? = some (.cells (f.map (cvP bn bl bp)).toArray 68 (0, 0)) ∧ ∀ W : World, W.heap[M]? = w.heap[M]? → (Instr.lookup 40 (.map (some M)) (.string s) true).run Tryz.prog W = .ok (.tuple #[.slice (some ⟨b, 0, none⟩) f.length f.length, .bool true]) W := by
  obtain ⟨j, b, k1, k2, k3, k4⟩ := (dF_at s.data.toList (.lit (.int .i64 (-1))) frmL bs (.map []) tidy_empty (by rw [hl]; rfl) frm_nodup).2 f hf
  obtain ⟨f', h1, h2, h3, h4⟩ := h.rows j b k2
  obtain rfl := Option.some.inj (k1.symm.trans h1)
  refine ⟨b, h2, fun W hW => ?_⟩
  obtain ⟨v, ps, hr, hv⟩ := (omapS h.own hW).look_ok lawSb Tryz.underlying40 (zeroL W) (zd := .lit (.int .i64 (-1))) (zp := []) rfl (keyOf_string_mk Tryz.underlying9 hs)
  rw [k3] at hv
  rw [k4, slE_inv (frm_len _ (List.mem_of_getElem? k1)).1 hv] at hr
  exact hr

/-- What SplitN answers, in memory. -/
theorem splitN_any (s : ByteArray) (k : Nat) (w : World) (hs : s.size ≤ 1000000) (hk : k ≤ 3) (h3 : k ≤ s.size) (hm : MaxIs w) :
    Calls Tryz.prog 38 #[.string s, .string blank, .int .i64 ((1 + k : Nat) : Int)] w fun e w' => e = .returned (.slice (some ⟨w.heap.size, 0, none⟩) (wdN k s.data.toList).length (1 + k)) ∧ (∀ j, j < (wdN k s.data.toList).length → w'.cell? ⟨w.heap.size, j, none⟩ = some (.string (bA ((wdN k s.data.toList).getD j [])))) ∧ w.heap.size < w'.heap.size ∧ Below w.heap.size w w' := by
  obtain ⟨m, hm⟩ := hm
  have h := Any.strings_SplitN laysSN (by kernel_rfl) s blank (1 + k) m w (by omega) hm (by decide) (by omega) (by omega)
  rw [show min (1 + k) (s.size + 1) = 1 + k by omega, show 1 + k - 1 = k by omega] at h
  have hd := Lib.splitB_data blank 0 k s
  have hlen : (Lib.splitB blank 0 k s).length = (wdN k s.data.toList).length := by
    show _ = (Lib.splitK [32] 0 k s.data.toList).length
    rw [← show (Lib.splitB blank 0 k s).map (·.data.toList) = Lib.splitK [32] 0 k s.data.toList from hd, List.length_map]
  rw [hlen] at h
  refine h.mono ?_
  rintro e w' ⟨rfl, rfl⟩
  refine ⟨rfl, fun j hj => ?_, by rw [World.size_alloc]; omega, (Below.refl _ w).alloc (Nat.le_refl _) _⟩
  rw [Lib.cell_of_heap (heap_alloc_new w _)]
  unfold Lib.cellsOf
  rw [List.getElem?_toArray, List.getElem?_append_left (by rw [List.length_map]; omega), List.getElem?_map, List.getElem?_eq_getElem (by omega)]
  have e2 : (wdN k s.data.toList).getD j [] = ((Lib.splitB blank 0 k s)[j]'(by omega)).data.toList := by
    have : wdN k s.data.toList = (Lib.splitB blank 0 k s).map (·.data.toList) := hd.symm
    rw [this, List.getD_eq_getElem?_getD, List.getElem?_map, List.getElem?_eq_getElem (by omega)]
    rfl
  rw [e2, bA_data]
  rfl
theorem Cut_blank (s : ByteArray) (w : World) (hs : s.size ≤ 1000000) (hm : MaxIs w) :
    Calls Tryz.prog 37 #[.string s, .string blank] w fun e w' => ∃ r b, e = .returned (.tuple #[.string (bA (Lib.cut s.data.toList [32]).1), r, b]) ∧ ∃ n, w' = w.drewN n := by
  obtain ⟨m, hm⟩ := hm
  refine (Any.strings_Cut laysCt s blank m w (by omega) hm).mono ?_
  rintro e w' ⟨rfl, n, rfl⟩
  exact ⟨_, _, rfl, n, rfl⟩

theorem FmI.keep {B M bn bl bp lines : Nat} {w0 w w' : World} {bs : List Nat} (h : FmI B M bn bl bp lines w0 bs w) (hb : Below w.heap.size w w') (hB : B ≤ w.heap.size) : FmI B M bn bl bp lines w0 bs w' := by
  have hc : ∀ g v, w.cell? ⟨g, 0, none⟩ = some v → w'.cell? ⟨g, 0, none⟩ = some v := fun g v hc => (hb.cell (p := ⟨g, 0, none⟩) (World.block_lt_of_cell? w ⟨g, 0, none⟩ hc)).trans hc
  obtain ⟨e1, e2, e3⟩ := h.env
  refine ⟨omapS h.own (hb.block M h.lt), fun j b hj => ?_, ⟨hc _ _ e1, hc _ _ e2, hc _ _ e3⟩, h.lo, Nat.lt_of_lt_of_le h.lt hb.size, ?_⟩
  · obtain ⟨f, q1, q2, q3, q4⟩ := h.rows j b hj
    exact ⟨f, q1, (hb.block b q4).trans q2, q3, Nat.lt_of_lt_of_le q4 hb.size⟩
  · exact ⟨hb.os.trans h.bel.os, hb.tape.trans h.bel.tape, hb.output.trans h.bel.output, Nat.le_trans h.bel.size hb.size, fun g hg => (hb.block g (by omega)).trans (h.bel.block g hg)⟩

/-- What a line comes to. -/
def linV (lines : Nat) (s : List UInt8) : Array Value := match linF lines s with
  | some l => #[.agg (lnC l), .bool true]
  | none => #[.agg (lnC Ln.none), .bool false]

set_option maxHeartbeats 2000000 in
set_option maxRecDepth 100000 in
theorem lineOf_no {B M bn bl bp lines : Nat} {w0 w : World} {bs : List Nat} (h : FmI B M bn bl bp lines w0 bs w) (hl : bs.length = 13) (s : ByteArray) (hs : s.size ≤ 100000) (hm : MaxIs w) (hf : frmF (Lib.cut s.data.toList [32]).1 = none) :
    Calls Tryz.prog 14 #[.string s, .map (some M)] w fun e w' => e = .returned (.tuple (linV lines s.data.toList)) ∧ Below w.heap.size w w' := by
  have hv : linV lines s.data.toList = #[.agg (lnC Ln.none), .bool false] := by
    unfold linV linF
    rw [hf]
  rw [hv]
  have HC : Hid (Calls Tryz.prog 37 #[.string s, .string blank] (w.alloc (.cells #[.string ⟨#[]⟩, .int .i64 0, .int .i64 0, .string ⟨#[]⟩, .string ⟨#[]⟩, .int .i64 0, .int .i64 0] 43)) fun e w' => ∃ (r b : Value) (W2 : World), e = .returned (.tuple #[.string (bA (Lib.cut s.data.toList [32]).1), r, b]) ∧ w' = W2.alloc (.cells #[.string ⟨#[]⟩, .int .i64 0, .int .i64 0, .string ⟨#[]⟩, .string ⟨#[]⟩, .int .i64 0, .int .i64 0] 43) ∧ w.heap.size = W2.heap.size ∧ Hid (∀ o, Below w.heap.size w (W2.alloc o) ∧ (W2.alloc o).heap[M]? = w.heap[M]?)) := by
    refine (Cut_blank s _ (by omega) (hm.up ((Below.refl _ w).alloc (Nat.le_refl _) _))).mono ?_
    rintro e w' ⟨r, b, rfl, n, rfl⟩
    have hb : ∀ o, Below w.heap.size w ((w.drewN n).alloc o) := fun o => (below_drewN (Below.refl _ w) n).alloc (Nat.le_refl _) o
    exact ⟨r, b, w.drewN n, rfl, rfl, rfl, fun o => ⟨hb o, (hb o).block M h.lt⟩⟩
  have hcl : (bA (Lib.cut s.data.toList [32]).1).size ≤ maxLen := by
    have h1 : (Lib.cut s.data.toList [32]).1.length ≤ s.data.toList.length := by
      unfold Lib.cut
      split
      · simp only [List.length_take]; omega
      · exact Nat.le_refl _
    rw [show (bA (Lib.cut s.data.toList [32]).1).size = (Lib.cut s.data.toList [32]).1.length from size_of rfl]
    rw [show s.size = s.data.toList.length from size_of rfl] at hs
    unfold maxLen
    omega
  have HK := look_no h hl _ hcl (by show frmF _ = none; unfold bA; simpa using hf)
  generalize bA (Lib.cut s.data.toList [32]).1 = wd at *
  clear hv hf hcl hs h hm
  go_enter Tryz.func14, Tryz.ntmps14
  go_wp2_with (first
    | (go_at_call 37; refine HC.out.mono ?_; rintro e w1 ⟨r1, r2, W2, rfl, rfl, hz, HW⟩; obtain ⟨vv, hlk⟩ := HK (W2.alloc (.cells #[.string ⟨#[]⟩, .int .i64 0, .int .i64 0, .string ⟨#[]⟩, .string ⟨#[]⟩, .int .i64 0, .int .i64 0] 43)) (HW.out _).2)
    | go_in)
  refine bodyPost_ret (v := .tuple #[.agg (lnC Ln.none), .bool false]) (by simp [results, Tryz.results14, go_sem, lnC, Ln.none]) rfl ?_
  exact ⟨rfl, (HW.out _).1⟩

/-- Each part, by its kind. -/
theorem part_any (bn bl bp lines k P : Nat) : ∃ N caps, cvP bn bl bp k = .func (.func N) #[] caps ∧ (∀ args w, (callFunc N args).run Tryz.prog w = .ok (.enter N args) w) ∧
    ∀ (l : Ln) (g : ByteArray) (w : World), LnAt w P l → g.size ≤ 1000000 → MaxIs w → PrtE w bn bl bp lines → Calls Tryz.prog N (#[.pointer (some ⟨P, 0, none⟩), .string g] ++ caps) w (TkQ lines k P l g w) := by
  unfold cvP
  by_cases h0 : k = 0
  · subst h0
    exact ⟨_, _, rfl, fun args w => by kernel_rfl, fun l g w hl hg _ _ => part_r lines P l g w hl hg⟩
  by_cases h1 : k = 1
  · subst h1
    exact ⟨_, _, rfl, fun args w => by kernel_rfl, fun l g w hl hg _ _ => part_s lines P l g w hl hg⟩
  by_cases h2 : k = 2
  · subst h2
    exact ⟨_, _, rfl, fun args w => by kernel_rfl, fun l g w hl hg _ _ => part_n lines P l g w hl hg⟩
  by_cases h3 : k = 3
  · subst h3
    exact ⟨_, _, rfl, fun args w => by kernel_rfl, fun l g w hl hg _ _ => part_m lines P l g w hl hg⟩
  by_cases h4 : k = 4
  · subst h4
    exact ⟨_, _, rfl, fun args w => by kernel_rfl, fun l g w hl hg _ he => part_at lines P bn bl l g w hl hg he.1 he.2.1⟩
  by_cases h5 : k = 5
  · subst h5
    exact ⟨_, _, rfl, fun args w => by kernel_rfl, fun l g w hl hg _ he => part_end lines P bn l g w hl hg he.1⟩
  by_cases h6 : k = 6
  · subst h6
    exact ⟨_, _, rfl, fun args w => by kernel_rfl, fun l g w hl _ _ _ => part_text lines P l g w hl⟩
  by_cases h7 : k = 7
  · subst h7
    exact ⟨_, _, rfl, fun args w => by kernel_rfl, fun l g w hl _ hm _ => part_path7 lines P l g w hl hm⟩
  · rw [if_neg h0, if_neg h1, if_neg h2, if_neg h3, if_neg h4, if_neg h5, if_neg h6, if_neg h7]
    refine ⟨_, _, rfl, fun args w => by kernel_rfl, fun l g w hl _ hm he => ?_⟩
    have := part_dir lines P bp l g w hl hm he.2.2
    unfold TkQ at this ⊢
    have e : takP lines k l g.data.toList = takP lines 8 l g.data.toList := by
      unfold takP
      simp [h0, h1, h2, h3, h4, h5, h6, h7]
    rw [e]
    exact this
end Go.Proofs.YtcpomkgfcpfedaaGreatDoor
