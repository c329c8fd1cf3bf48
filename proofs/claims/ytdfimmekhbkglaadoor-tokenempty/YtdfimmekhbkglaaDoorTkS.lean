/- The splitter in memory, and its small methods. -/
import Derived.Test.YtdfimmekhbkglaaDoorTkD
import Derived.WalkSmall
import Derived.Lib.SmallJoins
import Derived.Deep.AppendLies
import Derived.Deep.DrawnRows
import Derived.Deep.QuietTactic
import Derived.BigQuiet
namespace Go.Proofs.YtdfimmekhbkglaaDoor
open Go.RowKit Go.Shelf

def tc (t : Tk) : List Value := [.int .i64 t.kind, .string (mkB t.text), .int .i64 t.num, .int .i64 t.pos]
def tcs (l : List Tk) : List Value := l.flatMap tc
theorem tcs_len (l : List Tk) : (tcs l).length = l.length * 4 := by
  induction l with
  | nil => rfl
  | cons a r ih =>
    show (tc a ++ tcs r).length = _
    rw [List.length_append, ih, List.length_cons, show (tc a).length = 4 from rfl]
    omega
theorem tcs_snoc (l : List Tk) (t : Tk) : tcs (l ++ [t]) = tcs l ++ tc t := by simp [tcs]
def ics (l : List Nat) : List Value := l.map fun n : Nat => .int .i64 (n : Int)
theorem ics_snoc (l : List Nat) (x : Nat) : ics (l ++ [x]) = ics l ++ [.int .i64 x] := by simp [ics]

/-- The splitter p of the source L lies in block P. -/
structure TS (B P : Nat) (L : List UInt8) (tv iv : Value) (w : World) (p : Sp) : Prop where
  hB : B ≤ P
  blk : w.heap[P]? = some (.cells #[.string (mkB L), .int .i64 p.pos, tv, iv, .int .i64 p.opn] 41 (0, 0))
  ot : w.ownsRow B 30 4 tv p.toks.length (tcs p.toks)
  oi : w.ownsRow B 3 1 iv p.ins.length (ics p.ins.reverse)
  nt : tv.ownBlock ≠ some P
  ni : iv.ownBlock ≠ some P
  nn : ∀ a, tv.ownBlock = some a → iv.ownBlock ≠ some a
theorem own_heap {w w' : World} {base : Nat} {e : TypeId} {size : Nat} {v : Value} {n : Nat} {xs : List Value} (h : w.ownsRow base e size v n xs) (hh : ∀ g, v.ownBlock = some g → w'.heap[g]? = w.heap[g]?) : w'.ownsRow base e size v n xs := by
  refine ⟨h.1, ?_⟩
  rcases h.2 with hn | ⟨g, cap, cur, rfl, hb, hgg, rest⟩
  · exact .inl hn
  · exact .inr ⟨g, cap, cur, rfl, hb, (hh g rfl).trans hgg, rest⟩
section
variable {B P : Nat} {L : List UInt8} {tv iv : Value} {w : World} {p : Sp}
theorem TS.lt (h : TS B P L tv iv w p) : P < w.heap.size := (Array.getElem?_eq_some_iff.1 h.blk).1
theorem TS.c0 (h : TS B P L tv iv w p) : w.cell? ⟨P, 0, none⟩ = some (.string (mkB L)) := by rw [Lib.cell_of_heap h.blk]; rfl
theorem TS.c1 (h : TS B P L tv iv w p) : w.cell? ⟨P, 1, none⟩ = some (.int .i64 p.pos) := by rw [Lib.cell_of_heap h.blk]; rfl
theorem TS.c2 (h : TS B P L tv iv w p) : w.cell? ⟨P, 2, none⟩ = some tv := by rw [Lib.cell_of_heap h.blk]; rfl
theorem TS.c3 (h : TS B P L tv iv w p) : w.cell? ⟨P, 3, none⟩ = some iv := by rw [Lib.cell_of_heap h.blk]; rfl
theorem TS.c4 (h : TS B P L tv iv w p) : w.cell? ⟨P, 4, none⟩ = some (.int .i64 p.opn) := by rw [Lib.cell_of_heap h.blk]; rfl
theorem TS.fz (h : TS B P L tv iv w p) (i : Nat) : w.frozen? ⟨P, i, none⟩ = false := Lib.frozen_of_heap h.blk i
/-- Nothing but the tape has turned, or what lies in other blocks. -/
theorem TS.keep (h : TS B P L tv iv w p) {w' : World} (hh : ∀ g, g < w.heap.size → B ≤ g → w'.heap[g]? = w.heap[g]?) : TS B P L tv iv w' p :=
  ⟨h.hB, (hh P h.lt h.hB).trans h.blk, own_heap h.ot fun g hg => hh g (h.ot.lt g hg).2 (h.ot.lt g hg).1, own_heap h.oi fun g hg => hh g (h.oi.lt g hg).2 (h.oi.lt g hg).1, h.nt, h.ni, h.nn⟩
theorem TS.drewN (h : TS B P L tv iv w p) (n : Nat) : TS B P L tv iv (w.drewN n) p := h.keep fun _ _ _ => rfl
theorem TS.up (h : TS B P L tv iv w p) {w' : World} (hb : Below w.heap.size w w') : TS B P L tv iv w' p := h.keep fun g hg _ => hb.block g hg
/-- One of its cells is written. -/
theorem TS.set (h : TS B P L tv iv w p) (i : Nat) (v : Value) {tv' iv' : Value} {q : Sp} (hc : (#[.string (mkB L), .int .i64 p.pos, tv, iv, .int .i64 p.opn] : Array Value).setIfInBounds i v = #[.string (mkB L), .int .i64 q.pos, tv', iv', .int .i64 q.opn])
    (ht : w.ownsRow B 30 4 tv' q.toks.length (tcs q.toks)) (hi : w.ownsRow B 3 1 iv' q.ins.length (ics q.ins.reverse)) (nt : tv'.ownBlock ≠ some P) (ni : iv'.ownBlock ≠ some P) (nn : ∀ a, tv'.ownBlock = some a → iv'.ownBlock ≠ some a)
    {w' : World} (hw : ∀ g : Nat, w'.heap[g]? = (w.setCell ⟨P, i, none⟩ v).heap[g]?) : TS B P L tv' iv' w' q := by
  have k : ∀ g : Nat, g ≠ P → w'.heap[g]? = w.heap[g]? := fun g hg => (hw g).trans (Below.heap_setCell w ⟨P, i, none⟩ v g hg)
  refine ⟨h.hB, ?_, own_heap ht fun g hg => k g fun e => nt (by rw [hg, e]), own_heap hi fun g hg => k g fun e => ni (by rw [hg, e]), nt, ni, nn⟩
  rw [hw P, Go.Joins.block_setCell h.blk, hc]
theorem TS.setPos (h : TS B P L tv iv w p) (x : Nat) {w' : World} (hw : ∀ g : Nat, w'.heap[g]? = (w.setCell ⟨P, 1, none⟩ (.int .i64 x)).heap[g]?) : TS B P L tv iv w' { p with pos := x } :=
  h.set 1 (.int .i64 x) (q := { p with pos := x }) rfl h.ot h.oi h.nt h.ni h.nn hw
theorem TS.setOpn (h : TS B P L tv iv w p) (x : Nat) {w' : World} (hw : ∀ g : Nat, w'.heap[g]? = (w.setCell ⟨P, 4, none⟩ (.int .i64 x)).heap[g]?) : TS B P L tv iv w' { p with opn := x } :=
  h.set 4 (.int .i64 x) (q := { p with opn := x }) rfl h.ot h.oi h.nt h.ni h.nn hw
end

theorem at_drop (L : List UInt8) (k : Nat) : (L.drop k).getD 0 0 = L.getD k 0 := by
  rw [List.getD_eq_getElem?_getD, List.getD_eq_getElem?_getD, List.getElem?_drop, Nat.add_zero]

set_option maxHeartbeats 1000000 in
theorem ended_any {B P : Nat} {L : List UInt8} {tv iv : Value} {w : World} {p : Sp} (h : TS B P L tv iv w p) :
    Calls Tryd.prog 16 #[.pointer (some ⟨P, 0, none⟩)] w fun e w' => e = .returned (.bool (decide (p.pos = L.length))) ∧ ∃ n, w' = w.drewN n := by
  have c0 := h.c0
  have c1 := h.c1
  have hsz := mk_size L
  have hq : ((p.pos : Int) == (L.length : Int)) = decide (p.pos = L.length) := by rw [Bool.eq_iff_iff]; simp; omega
  generalize decide (p.pos = L.length) = b at *
  clear h
  go_enter Tryd.func16, Tryd.ntmps16
  go_wp2
  go_region
  all_goals go_wp2
  all_goals
    go_ret
    exact ⟨rfl, 1, rfl⟩

set_option maxHeartbeats 1000000 in
theorem rest_any {B P : Nat} {L : List UInt8} {tv iv : Value} {w : World} {p : Sp} (h : TS B P L tv iv w p) (hp : p.pos ≤ L.length) :
    Calls Tryd.prog 30 #[.pointer (some ⟨P, 0, none⟩)] w fun e w' => e = .returned (.string (mkB (L.drop p.pos))) ∧ ∃ n, w' = w.drewN n := by
  have c0 := h.c0
  have c1 := h.c1
  have hsl := sl_back L p.pos _ rfl hp
  have hsz := mk_size L
  have hpi : (p.pos : Int) ≤ (L.length : Int) := by omega
  generalize mkB (L.drop p.pos) = r at *
  clear h
  go_enter Tryd.func30, Tryd.ntmps30
  go_wp2
  go_region
  all_goals go_wp2
  all_goals
    go_ret
    exact ⟨rfl, 1, rfl⟩

set_option maxHeartbeats 2000000 in
theorem sees_any {B P : Nat} {L : List UInt8} {tv iv : Value} {w : World} {p : Sp} (h : TS B P L tv iv w p) (hp : p.pos ≤ L.length) (c : Nat) (hc : c ≠ 0) :
    Calls Tryd.prog 20 #[.pointer (some ⟨P, 0, none⟩), .int .u8 c] w fun e w' => e = .returned (.bool (decide ((L.getD p.pos 0).toNat = c))) ∧ ∃ n, w' = w.drewN n := by
  have HE : Hid (∀ n, Calls Tryd.prog 16 #[.pointer (some ⟨P, 0, none⟩)] (w.drewN n) fun e w' => e = .returned (.bool (decide (p.pos = L.length))) ∧ ∃ m, w' = (w.drewN n).drewN m) := fun n => ended_any (h.drewN n)
  have c0 := h.c0
  have c1 := h.c1
  have hsz := mk_size L
  by_cases he : p.pos = L.length
  · have hb : decide ((L.getD p.pos 0).toNat = c) = false := by
      rw [List.getD_eq_getElem?_getD, List.getElem?_eq_none (by omega)]
      simp
      exact fun e => hc e.symm
    rw [hb]
    rw [show decide (p.pos = L.length) = true from by simpa using he] at HE
    clear h he hb
    go_enter Tryd.func20, Tryd.ntmps20
    go_wp2
    go_quiet ((go_at_call 16; exact Calls.quiet_of (HE.out _)))
    go_wp2
    go_ret
    exact ⟨rfl, nq, rfl⟩
  · rw [show decide (p.pos = L.length) = false from by simpa using he] at HE
    have hlt : p.pos < L.length := by omega
    have hpi : (p.pos : Int) < (L.length : Int) := by omega
    have hs0 : p.pos < (mkB L).size := by rw [hsz]; exact hlt
    have hg := mk_get L p.pos hs0
    have hq := c_eq (L.getD p.pos 0) c
    generalize decide ((L.getD p.pos 0).toNat = c) = b at *
    generalize L.getD p.pos 0 = x at *
    generalize p.pos = k at *
    clear h he
    go_enter Tryd.func20, Tryd.ntmps20
    go_wp2
    go_quiet ((go_at_call 16; exact Calls.quiet_of (HE.out _)))
    go_wp2
    go_ret
    exact ⟨rfl, nq, rfl⟩

theorem Sp.top_at (p : Sp) (h : 0 < p.ins.length) : (ics p.ins.reverse)[p.ins.length - 1]? = some (.int .i64 (p.top : Nat)) := by
  match hp : p.ins, h with
  | a :: r, _ =>
    have : p.top = a := by unfold Sp.top; rw [hp]; rfl
    rw [this]
    simp [ics]

set_option maxHeartbeats 1000000 in
theorem in_any {B P : Nat} {L : List UInt8} {tv iv : Value} {w : World} {p : Sp} (h : TS B P L tv iv w p) (h0 : 0 < p.ins.length) (h1 : p.ins.length ≤ 1000000) :
    Calls Tryd.prog 23 #[.pointer (some ⟨P, 0, none⟩)] w fun e w' => e = .returned (.int .i64 p.top) ∧ ∃ n, w' = w.drewN n := by
  have c3 := h.c3
  obtain ⟨g, cap, hv, hg1, hg2⟩ := h.oi.form h0
  subst hv
  have cx : w.cell? ⟨g, p.ins.length - 1, none⟩ = some (.int .i64 (p.top : Nat)) := (h.oi.cellAt (p.ins.length - 1) (by omega)).trans (p.top_at h0)
  generalize p.top = x at *
  generalize p.ins.length = n at *
  obtain ⟨m, rfl⟩ : ∃ m, n = m + 1 := ⟨n - 1, by omega⟩
  rw [Nat.add_sub_cancel] at cx
  have j0 : (((m + 1 : Nat) : Int) - 1) = (m : Int) := by omega
  have j1 : IntKind.i64.wrap (((m + 1 : Nat) : Int) - 1) = (m : Int) := by rw [IntKind.wrap_i64]; omega
  have j2 : (0 : Int) ≤ (m : Int) := by omega
  have j3 : (m : Int) < ((m + 1 : Nat) : Int) := by omega
  clear h
  go_enter Tryd.func23, Tryd.ntmps23
  go_wp2
  go_region
  all_goals go_wp2
  all_goals
    go_ret
    exact ⟨rfl, 1, rfl⟩

/-- A fault, as it is thrown. -/
abbrev PF (k : Int) (x : Nat) : Ending := .panicked [{ v := .iface 26 (.agg #[.int .i64 k, .int .i64 x]), recovered := false }]

set_option maxHeartbeats 1000000 in
theorem giveUp_any {B P : Nat} {L : List UInt8} {tv iv : Value} {w : World} {p : Sp} (h : TS B P L tv iv w p) (k : Int) :
    Calls Tryd.prog 24 #[.pointer (some ⟨P, 0, none⟩), .int .i64 k] w fun e w' => e = PF k p.pos ∧ w' = w := by
  have c1 := h.c1
  generalize p.pos = x at *
  clear h
  go_enter Tryd.func24, Tryd.ntmps24
  go_wp2
  exact ⟨rfl, rfl, rfl⟩

theorem infT : (Tryd.prog.info? 30).map (fun i => (i.zero, i.size, i.bytes)) = some (some (.agg #[.int .i64 0, .string ⟨#[]⟩, .int .i64 0, .int .i64 0]), 4, 40) := by kernel_rfl
theorem infI : (Tryd.prog.info? 3).map (fun i => (i.zero, i.size, i.bytes)) = some (some (.int .i64 0), 1, 8) := by kernel_rfl
theorem info_p {i : Option TypeInfo} {z : Value} {s b : Nat} (h : i.map (fun i => (i.zero, i.size, i.bytes)) = some (some z, s, b)) : ∃ i0, i = some i0 ∧ i0.zero = some z ∧ i0.size = s ∧ i0.bytes = b := by
  match i, h with
  | some i0, h =>
    simp at h
    exact ⟨i0, rfl, h.1, h.2.1, h.2.2⟩
theorem al_at (W : World) (b : Nat) (cs : Array Value) (ty : TypeId) (k : Nat) (v : Value) (hb : b = W.heap.size) (hv : cs[k]? = some v) : (W.alloc (.cells cs ty)).cell? ⟨b, k, none⟩ = some v := by
  subst hb
  rw [Lib.cell_of_heap (heap_alloc_new W _)]
  exact hv
theorem add0 (g j : Nat) : (⟨g, 0, none⟩ : Addr).add j = ⟨g, j, none⟩ := by
  unfold Addr.add
  split <;> simp_all
theorem bl_al {a w : World} {B : Nat} (h : Below B a w) (hB : B ≤ w.heap.size) (o : Obj) : Below B a (w.alloc o) := h.alloc hB o
/-- A token's cells, in a block of its own. -/
theorem new_tok (W : World) (t : Tk) : ∀ (j : Nat) (u : Value), (tc t)[j]? = some u → (W.alloc (.cells #[.int .i64 t.kind, .string (mkB t.text), .int .i64 t.num, .int .i64 t.pos] 30)).cell? ((⟨W.heap.size, 0, none⟩ : Addr).add j) = some u := by
  intro j u hj
  rw [add0]
  have hj4 : j < 4 := by
    have := (List.getElem?_eq_some_iff.1 hj).1
    exact this
  refine al_at W _ _ _ j u rfl ?_
  match j, hj4, hj with
  | 0, _, hj => exact hj
  | 1, _, hj => exact hj
  | 2, _, hj => exact hj
  | 3, _, hj => exact hj
theorem tc_one (t : Tk) : ∀ u ∈ tc t, u.oneCell' = true := by
  intro u hu
  simp [tc] at hu
  rcases hu with rfl | rfl | rfl | rfl <;> rfl
/-- Behind an append to the tokens: the splitter with one token more, once its cell is written. -/
theorem TS.put {B P : Nat} {L : List UInt8} {tv iv : Value} {w : World} {p : Sp} (h : TS B P L tv iv w p) (t : Tk) {W w1 w' : World} (hW : ∀ g : Nat, g < w.heap.size → W.heap[g]? = w.heap[g]?) (hWs : w.heap.size < W.heap.size) {g1 cap1 : Nat}
    (hown : w1.ownsRow B 30 4 (.slice (some ⟨g1, 0, none⟩) (p.toks.length + 1) cap1) (p.toks.length + 1) (tcs p.toks ++ tc t)) (hgrow : W.grownBy w1 tv.ownBlock) (hat : tv.ownBlock = some g1 ∨ g1 = W.heap.size)
    (hw : ∀ g : Nat, w'.heap[g]? = (w1.setCell ⟨P, 2, none⟩ (.slice (some ⟨g1, 0, none⟩) (p.toks.length + 1) cap1)).heap[g]?) : TS B P L (.slice (some ⟨g1, 0, none⟩) (p.toks.length + 1) cap1) iv w' { p with toks := p.toks ++ [t] } := by
  have hP := h.lt
  have hgP : g1 ≠ P := by
    rcases hat with e | e
    · exact fun e2 => h.nt (by rw [e, e2])
    · omega
  have hgi : iv.ownBlock ≠ some g1 := by
    rcases hat with e | e
    · exact h.nn g1 e
    · intro e2
      have := (h.oi.lt g1 e2).2
      omega
  have hb : w1.heap[P]? = w.heap[P]? := (hgrow.block P (by omega) (fun e => h.nt e.symm)).trans (hW P hP)
  have hoi : w1.ownsRow B 3 1 iv p.ins.length (ics p.ins.reverse) := own_heap h.oi fun g hg => (hgrow.block g (by have := (h.oi.lt g hg).2; omega) (fun e => h.nn g e.symm hg)).trans (hW g (h.oi.lt g hg).2)
  have k : ∀ g : Nat, g ≠ P → w'.heap[g]? = w1.heap[g]? := fun g hg => (hw g).trans (Below.heap_setCell w1 ⟨P, 2, none⟩ _ g hg)
  have e4 : (p.toks ++ [t]).length = p.toks.length + 1 := by simp
  refine ⟨h.hB, ?_, ?_, own_heap hoi fun g hg => k g fun e => h.ni (by rw [hg, e]), ?_, h.ni, ?_⟩
  · rw [hw P, Go.Joins.block_setCell (hb.trans h.blk)]
    rfl
  · show w'.ownsRow _ _ _ _ (p.toks ++ [t]).length (tcs (p.toks ++ [t]))
    rw [e4, tcs_snoc]
    exact own_heap hown fun g hg => k g (by simp [Value.ownBlock] at hg; subst hg; exact hgP)
  · simp [Value.ownBlock]
    exact hgP
  · intro a ha
    simp [Value.ownBlock] at ha
    subst ha
    exact hgi
end Go.Proofs.YtdfimmekhbkglaaDoor
