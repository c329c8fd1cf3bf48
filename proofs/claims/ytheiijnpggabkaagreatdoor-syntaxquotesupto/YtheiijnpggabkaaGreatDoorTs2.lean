/- The splitter in memory, and its small methods. -/
import Derived.WalkSmall
import Derived.Lib.SmallJoins
import Derived.Deep.AppendLies
import Derived.Deep.DrawnRows
import Derived.Deep.QuietTactic
import Derived.BigQuiet
import Derived.Deep.MidRow
import Derived.Test.YtheiijnpggabkaaGreatDoorTs1
namespace Go.Proofs.YtheiijnpggabkaaGreatDoor
open Go.RowKit Go.Shelf

def tc (t : Tk) : List Value := [.int .i64 t.kind, .string (mkB t.text), .int .i64 t.num, .int .i64 t.pos]
def tcs (l : List Tk) : List Value := l.flatMap tc
theorem tcs_len (l : List Tk) : (tcs l).length = l.length * 4 := by
  induction l with
  | nil => rfl
  | cons a r ih =>
    show (tc a ++ tcs r).length = _
    rw [List.length_append, ih, List.length_cons, show (tc a).length = 4 from rfl]
    omega
theorem tcs_snoc (l : List Tk) (t : Tk) : tcs (l ++ [t]) = tcs l ++ tc t := by simp [tcs]
def ics (l : List Nat) : List Value := l.map fun n : Nat => .int .i64 (n : Int)
theorem ics_snoc (l : List Nat) (x : Nat) : ics (l ++ [x]) = ics l ++ [.int .i64 x] := by simp [ics]

/-- The splitter p of the source L lies in block P. -/
structure TS (B P : Nat) (L : List UInt8) (tv iv : Value) (w : World) (p : Sp) : Prop where
  hB : B ≤ P
  blk : w.heap[P]? = some (.cells #[.string (mkB L), .int .i64 p.pos, tv, iv, .int .i64 p.opn] 64 (0, 0))
  ot : w.ownsRow B 32 4 tv p.toks.length (tcs p.toks)
  oi : w.ownsRow B 3 1 iv p.ins.length (ics p.ins.reverse)
  nt : tv.ownBlock ≠ some P
  ni : iv.ownBlock ≠ some P
  nn : ∀ a, tv.ownBlock = some a → iv.ownBlock ≠ some a
theorem own_heap {w w' : World} {base : Nat} {e : TypeId} {size : Nat} {v : Value} {n : Nat} {xs : List Value} (h : w.ownsRow base e size v n xs) (hh : ∀ g, v.ownBlock = some g → w'.heap[g]? = w.heap[g]?) : w'.ownsRow base e size v n xs := by
  refine ⟨h.1, ?_⟩
  rcases h.2 with hn | ⟨g, cap, cur, rfl, hb, hgg, rest⟩
  · exact .inl hn
  · exact .inr ⟨g, cap, cur, rfl, hb, (hh g rfl).trans hgg, rest⟩
section
variable {B P : Nat} {L : List UInt8} {tv iv : Value} {w : World} {p : Sp}
theorem TS.lt (h : TS B P L tv iv w p) : P < w.heap.size := (Array.getElem?_eq_some_iff.1 h.blk).1
theorem TS.c0 (h : TS B P L tv iv w p) : w.cell? ⟨P, 0, none⟩ = some (.string (mkB L)) := by rw [Lib.cell_of_heap h.blk]; rfl
theorem TS.c1 (h : TS B P L tv iv w p) : w.cell? ⟨P, 1, none⟩ = some (.int .i64 p.pos) := by rw [Lib.cell_of_heap h.blk]; rfl
theorem TS.c2 (h : TS B P L tv iv w p) : w.cell? ⟨P, 2, none⟩ = some tv := by rw [Lib.cell_of_heap h.blk]; rfl
theorem TS.c3 (h : TS B P L tv iv w p) : w.cell? ⟨P, 3, none⟩ = some iv := by rw [Lib.cell_of_heap h.blk]; rfl
theorem TS.c4 (h : TS B P L tv iv w p) : w.cell? ⟨P, 4, none⟩ = some (.int .i64 p.opn) := by rw [Lib.cell_of_heap h.blk]; rfl
theorem TS.fz (h : TS B P L tv iv w p) (i : Nat) : w.frozen? ⟨P, i, none⟩ = false := Lib.frozen_of_heap h.blk i
/-- Nothing but the tape has turned, or what lies in other blocks. -/
theorem TS.keep (h : TS B P L tv iv w p) {w' : World} (hh : ∀ g, g < w.heap.size → B ≤ g → w'.heap[g]? = w.heap[g]?) : TS B P L tv iv w' p :=
  ⟨h.hB, (hh P h.lt h.hB).trans h.blk, own_heap h.ot fun g hg => hh g (h.ot.lt g hg).2 (h.ot.lt g hg).1, own_heap h.oi fun g hg => hh g (h.oi.lt g hg).2 (h.oi.lt g hg).1, h.nt, h.ni, h.nn⟩
theorem TS.drewN (h : TS B P L tv iv w p) (n : Nat) : TS B P L tv iv (w.drewN n) p := h.keep fun _ _ _ => rfl
theorem TS.up (h : TS B P L tv iv w p) {w' : World} (hb : Below w.heap.size w w') : TS B P L tv iv w' p := h.keep fun g hg _ => hb.block g hg
/-- One of its cells is written. -/
theorem TS.set (h : TS B P L tv iv w p) (i : Nat) (v : Value) {tv' iv' : Value} {q : Sp} (hc : (#[.string (mkB L), .int .i64 p.pos, tv, iv, .int .i64 p.opn] : Array Value).setIfInBounds i v = #[.string (mkB L), .int .i64 q.pos, tv', iv', .int .i64 q.opn])
    (ht : w.ownsRow B 32 4 tv' q.toks.length (tcs q.toks)) (hi : w.ownsRow B 3 1 iv' q.ins.length (ics q.ins.reverse)) (nt : tv'.ownBlock ≠ some P) (ni : iv'.ownBlock ≠ some P) (nn : ∀ a, tv'.ownBlock = some a → iv'.ownBlock ≠ some a)
    {w' : World} (hw : ∀ g : Nat, w'.heap[g]? = (w.setCell ⟨P, i, none⟩ v).heap[g]?) : TS B P L tv' iv' w' q := by
  have k : ∀ g : Nat, g ≠ P → w'.heap[g]? = w.heap[g]? := fun g hg => (hw g).trans (Below.heap_setCell w ⟨P, i, none⟩ v g hg)
  refine ⟨h.hB, ?_, own_heap ht fun g hg => k g fun e => nt (by rw [hg, e]), own_heap hi fun g hg => k g fun e => ni (by rw [hg, e]), nt, ni, nn⟩
  rw [hw P, Go.Joins.block_setCell h.blk, hc]
theorem TS.setPos (h : TS B P L tv iv w p) (x : Nat) {w' : World} (hw : ∀ g : Nat, w'.heap[g]? = (w.setCell ⟨P, 1, none⟩ (.int .i64 x)).heap[g]?) : TS B P L tv iv w' { p with pos := x } :=
  h.set 1 (.int .i64 x) (q := { p with pos := x }) rfl h.ot h.oi h.nt h.ni h.nn hw
theorem TS.setOpn (h : TS B P L tv iv w p) (x : Nat) {w' : World} (hw : ∀ g : Nat, w'.heap[g]? = (w.setCell ⟨P, 4, none⟩ (.int .i64 x)).heap[g]?) : TS B P L tv iv w' { p with opn := x } :=
  h.set 4 (.int .i64 x) (q := { p with opn := x }) rfl h.ot h.oi h.nt h.ni h.nn hw
end

theorem at_drop (L : List UInt8) (k : Nat) : (L.drop k).getD 0 0 = L.getD k 0 := by
  rw [List.getD_eq_getElem?_getD, List.getD_eq_getElem?_getD, List.getElem?_drop, Nat.add_zero]

set_option maxHeartbeats 1000000 in
theorem ended_any {B P : Nat} {L : List UInt8} {tv iv : Value} {w : World} {p : Sp} (h : TS B P L tv iv w p) :
    Calls Tryz.prog 27 #[.pointer (some ⟨P, 0, none⟩)] w fun e w' => e = .returned (.bool (decide (p.pos = L.length))) ∧ ∃ n, w' = w.drewN n := by
  have c0 := h.c0
  have c1 := h.c1
  have hsz := mk_size L
  have hq : ((p.pos : Int) == (L.length : Int)) = decide (p.pos = L.length) := by rw [Bool.eq_iff_iff]; simp; omega
  generalize decide (p.pos = L.length) = b at *
  clear h
  go_enter Tryz.func27, Tryz.ntmps27
  go_wp2
  go_region
  all_goals go_wp2
  all_goals
    go_ret
    exact ⟨rfl, 1, rfl⟩

set_option maxHeartbeats 1000000 in
theorem rest_any {B P : Nat} {L : List UInt8} {tv iv : Value} {w : World} {p : Sp} (h : TS B P L tv iv w p) (hp : p.pos ≤ L.length) :
    Calls Tryz.prog 60 #[.pointer (some ⟨P, 0, none⟩)] w fun e w' => e = .returned (.string (mkB (L.drop p.pos))) ∧ ∃ n, w' = w.drewN n := by
  have c0 := h.c0
  have c1 := h.c1
  have hsl := sl_back L p.pos _ rfl hp
  have hsz := mk_size L
  have hpi : (p.pos : Int) ≤ (L.length : Int) := by omega
  generalize mkB (L.drop p.pos) = r at *
  clear h
  go_enter Tryz.func60, Tryz.ntmps60
  go_wp2
  go_region
  all_goals go_wp2
  all_goals
    go_ret
    exact ⟨rfl, 1, rfl⟩

set_option maxHeartbeats 2000000 in
theorem sees_any {B P : Nat} {L : List UInt8} {tv iv : Value} {w : World} {p : Sp} (h : TS B P L tv iv w p) (hp : p.pos ≤ L.length) (c : Nat) (hc : c ≠ 0) :
    Calls Tryz.prog 38 #[.pointer (some ⟨P, 0, none⟩), .int .u8 c] w fun e w' => e = .returned (.bool (decide ((L.getD p.pos 0).toNat = c))) ∧ ∃ n, w' = w.drewN n := by
  have HE : Hid (∀ n, Calls Tryz.prog 27 #[.pointer (some ⟨P, 0, none⟩)] (w.drewN n) fun e w' => e = .returned (.bool (decide (p.pos = L.length))) ∧ ∃ m, w' = (w.drewN n).drewN m) := fun n => ended_any (h.drewN n)
  have c0 := h.c0
  have c1 := h.c1
  have hsz := mk_size L
  by_cases he : p.pos = L.length
  · have hb : decide ((L.getD p.pos 0).toNat = c) = false := by
      rw [List.getD_eq_getElem?_getD, List.getElem?_eq_none (by omega)]
      simp
      exact fun e => hc e.symm
    rw [hb]
    rw [show decide (p.pos = L.length) = true from by simpa using he] at HE
    clear h he hb
    go_enter Tryz.func38, Tryz.ntmps38
    go_wp2
    go_quiet ((go_at_call 27; exact Calls.quiet_of (HE.out _)))
    go_wp2
    go_ret
    exact ⟨rfl, nq, rfl⟩
  · rw [show decide (p.pos = L.length) = false from by simpa using he] at HE
    have hlt : p.pos < L.length := by omega
    have hpi : (p.pos : Int) < (L.length : Int) := by omega
    have hs0 : p.pos < (mkB L).size := by rw [hsz]; exact hlt
    have hg := mk_get L p.pos hs0
    have hq := c_eq (L.getD p.pos 0) c
    generalize decide ((L.getD p.pos 0).toNat = c) = b at *
    generalize L.getD p.pos 0 = x at *
    generalize p.pos = k at *
    clear h he
    go_enter Tryz.func38, Tryz.ntmps38
    go_wp2
    go_quiet ((go_at_call 27; exact Calls.quiet_of (HE.out _)))
    go_wp2
    go_ret
    exact ⟨rfl, nq, rfl⟩

theorem Sp.top_at (p : Sp) (h : 0 < p.ins.length) : (ics p.ins.reverse)[p.ins.length - 1]? = some (.int .i64 (p.top : Nat)) := by
  match hp : p.ins, h with
  | a :: r, _ =>
    have : p.top = a := by unfold Sp.top; rw [hp]; rfl
    rw [this]
    simp [ics]

set_option maxHeartbeats 1000000 in
theorem in_any {B P : Nat} {L : List UInt8} {tv iv : Value} {w : World} {p : Sp} (h : TS B P L tv iv w p) (h0 : 0 < p.ins.length) (h1 : p.ins.length ≤ 1000000) :
    Calls Tryz.prog 41 #[.pointer (some ⟨P, 0, none⟩)] w fun e w' => e = .returned (.int .i64 p.top) ∧ ∃ n, w' = w.drewN n := by
  have c3 := h.c3
  obtain ⟨g, cap, hv, hg1, hg2⟩ := h.oi.form h0
  subst hv
  have cx : w.cell? ⟨g, p.ins.length - 1, none⟩ = some (.int .i64 (p.top : Nat)) := (h.oi.cellAt (p.ins.length - 1) (by omega)).trans (p.top_at h0)
  generalize p.top = x at *
  generalize p.ins.length = n at *
  obtain ⟨m, rfl⟩ : ∃ m, n = m + 1 := ⟨n - 1, by omega⟩
  rw [Nat.add_sub_cancel] at cx
  have j0 : (((m + 1 : Nat) : Int) - 1) = (m : Int) := by omega
  have j1 : IntKind.i64.wrap (((m + 1 : Nat) : Int) - 1) = (m : Int) := by rw [IntKind.wrap_i64]; omega
  have j2 : (0 : Int) ≤ (m : Int) := by omega
  have j3 : (m : Int) < ((m + 1 : Nat) : Int) := by omega
  clear h
  go_enter Tryz.func41, Tryz.ntmps41
  go_wp2
  go_region
  all_goals go_wp2
  all_goals
    go_ret
    exact ⟨rfl, 1, rfl⟩

/-- A fault, as it is thrown. -/
abbrev PF (k : Int) (x : Nat) : Ending := .panicked [{ v := .iface 28 (.agg #[.int .i64 k, .int .i64 x]), recovered := false }]

set_option maxHeartbeats 1000000 in
theorem giveUp_any {B P : Nat} {L : List UInt8} {tv iv : Value} {w : World} {p : Sp} (h : TS B P L tv iv w p) (k : Int) :
    Calls Tryz.prog 42 #[.pointer (some ⟨P, 0, none⟩), .int .i64 k] w fun e w' => e = PF k p.pos ∧ w' = w := by
  have c1 := h.c1
  generalize p.pos = x at *
  clear h
  go_enter Tryz.func42, Tryz.ntmps42
  go_wp2
  exact ⟨rfl, rfl, rfl⟩

theorem infT : (Tryz.prog.info? 32).map (fun i => (i.zero, i.size, i.bytes)) = some (some (.agg #[.int .i64 0, .string ⟨#[]⟩, .int .i64 0, .int .i64 0]), 4, 40) := by kernel_rfl
theorem infI : (Tryz.prog.info? 3).map (fun i => (i.zero, i.size, i.bytes)) = some (some (.int .i64 0), 1, 8) := by kernel_rfl
theorem info_p {i : Option TypeInfo} {z : Value} {s b : Nat} (h : i.map (fun i => (i.zero, i.size, i.bytes)) = some (some z, s, b)) : ∃ i0, i = some i0 ∧ i0.zero = some z ∧ i0.size = s ∧ i0.bytes = b := by
  match i, h with
  | some i0, h =>
    simp at h
    exact ⟨i0, rfl, h.1, h.2.1, h.2.2⟩
theorem al_at (W : World) (b : Nat) (cs : Array Value) (ty : TypeId) (k : Nat) (v : Value) (hb : b = W.heap.size) (hv : cs[k]? = some v) : (W.alloc (.cells cs ty)).cell? ⟨b, k, none⟩ = some v := by
  subst hb
  rw [Lib.cell_of_heap (heap_alloc_new W _)]
  exact hv
theorem add0 (g j : Nat) : (⟨g, 0, none⟩ : Addr).add j = ⟨g, j, none⟩ := by
  unfold Addr.add
  split <;> simp_all
theorem bl_al {a w : World} {B : Nat} (h : Below B a w) (hB : B ≤ w.heap.size) (o : Obj) : Below B a (w.alloc o) := h.alloc hB o
/-- A token's cells, in a block of its own. -/
theorem new_tok (W : World) (t : Tk) : ∀ (j : Nat) (u : Value), (tc t)[j]? = some u → (W.alloc (.cells #[.int .i64 t.kind, .string (mkB t.text), .int .i64 t.num, .int .i64 t.pos] 32)).cell? ((⟨W.heap.size, 0, none⟩ : Addr).add j) = some u := by
  intro j u hj
  rw [add0]
  have hj4 : j < 4 := by
    have := (List.getElem?_eq_some_iff.1 hj).1
    exact this
  refine al_at W _ _ _ j u rfl ?_
  match j, hj4, hj with
  | 0, _, hj => exact hj
  | 1, _, hj => exact hj
  | 2, _, hj => exact hj
  | 3, _, hj => exact hj
theorem tc_one (t : Tk) : ∀ u ∈ tc t, u.oneCell' = true := by
  intro u hu
  simp [tc] at hu
  rcases hu with rfl | rfl | rfl | rfl <;> rfl
/-- Behind an append to the tokens: the splitter with one token more, once its cell is written. -/
theorem TS.put {B P : Nat} {L : List UInt8} {tv iv : Value} {w : World} {p : Sp} (h : TS B P L tv iv w p) (t : Tk) {W w1 w' : World} (hW : ∀ g : Nat, g < w.heap.size → W.heap[g]? = w.heap[g]?) (hWs : w.heap.size < W.heap.size) {g1 cap1 : Nat}
    (hown : w1.ownsRow B 32 4 (.slice (some ⟨g1, 0, none⟩) (p.toks.length + 1) cap1) (p.toks.length + 1) (tcs p.toks ++ tc t)) (hgrow : W.grownBy w1 tv.ownBlock) (hat : tv.ownBlock = some g1 ∨ g1 = W.heap.size)
    (hw : ∀ g : Nat, w'.heap[g]? = (w1.setCell ⟨P, 2, none⟩ (.slice (some ⟨g1, 0, none⟩) (p.toks.length + 1) cap1)).heap[g]?) : TS B P L (.slice (some ⟨g1, 0, none⟩) (p.toks.length + 1) cap1) iv w' { p with toks := p.toks ++ [t] } := by
  have hP := h.lt
  have hgP : g1 ≠ P := by
    rcases hat with e | e
    · exact fun e2 => h.nt (by rw [e, e2])
    · omega
  have hgi : iv.ownBlock ≠ some g1 := by
    rcases hat with e | e
    · exact h.nn g1 e
    · intro e2
      have := (h.oi.lt g1 e2).2
      omega
  have hb : w1.heap[P]? = w.heap[P]? := (hgrow.block P (by omega) (fun e => h.nt e.symm)).trans (hW P hP)
  have hoi : w1.ownsRow B 3 1 iv p.ins.length (ics p.ins.reverse) := own_heap h.oi fun g hg => (hgrow.block g (by have := (h.oi.lt g hg).2; omega) (fun e => h.nn g e.symm hg)).trans (hW g (h.oi.lt g hg).2)
  have k : ∀ g : Nat, g ≠ P → w'.heap[g]? = w1.heap[g]? := fun g hg => (hw g).trans (Below.heap_setCell w1 ⟨P, 2, none⟩ _ g hg)
  have e4 : (p.toks ++ [t]).length = p.toks.length + 1 := by simp
  refine ⟨h.hB, ?_, ?_, own_heap hoi fun g hg => k g fun e => h.ni (by rw [hg, e]), ?_, h.ni, ?_⟩
  · rw [hw P, Go.Joins.block_setCell (hb.trans h.blk)]
    rfl
  · show w'.ownsRow _ _ _ _ (p.toks ++ [t]).length (tcs (p.toks ++ [t]))
    rw [e4, tcs_snoc]
    exact own_heap hown fun g hg => k g (by simp [Value.ownBlock] at hg; subst hg; exact hgP)
  · simp [Value.ownBlock]
    exact hgP
  · intro a ha
    simp [Value.ownBlock] at ha
    subst ha
    exact hgi
end Go.Proofs.YtheiijnpggabkaaGreatDoor

/- The splitter adds a token; takes bytes. -/
namespace Go.Proofs.YtheiijnpggabkaaGreatDoor
open Go.RowKit Go.Shelf

theorem heap_al (w : World) (o : Obj) (g : Nat) (hg : g < w.heap.size) : (w.alloc o).heap[g]? = w.heap[g]? := ((Below.refl w.heap.size w).alloc (Nat.le_refl _) o).block g hg

set_option maxHeartbeats 4000000 in
set_option maxRecDepth 100000 in
theorem add_any {B P : Nat} {L : List UInt8} {tv iv : Value} {w : World} {p : Sp} (h : TS B P L tv iv w p) (k : Nat) (hk : p.toks.length ≤ 100000) :
    Calls Tryz.prog 43 #[.pointer (some ⟨P, 0, none⟩), .int .i64 k] w fun e w' => e = .returned (.tuple #[]) ∧ ∃ tv', TS B P L tv' iv w' (p.add k) ∧ Below B w w' := by
  obtain ⟨i0, hi, hz0, hz1, hz2⟩ := info_p infT
  have H : Hid (TS B P L tv iv w p) := h
  have c1 := h.c1
  have c2 := h.c2
  have hPl := h.lt
  have hBl : B ≤ w.heap.size := by have := h.hB; omega
  have hadd : p.add k = { p with toks := p.toks ++ [⟨k, [], 0, p.pos⟩] } := rfl
  rw [hadd]
  have HNW : Hid (∀ (j : Nat) (u : Value), (tc ⟨k, [], 0, p.pos⟩)[j]? = some u → ((w.alloc (.cells #[.int .i64 k, .string ⟨#[]⟩, .int .i64 0, .int .i64 p.pos] 32)).drew).cell? ((⟨w.heap.size, 0, none⟩ : Addr).add j) = some u) := new_tok w ⟨k, [], 0, p.pos⟩
  have hone := tc_one ⟨k, [], 0, p.pos⟩
  have hnl : (tc ⟨k, [], 0, p.pos⟩).length = 1 * 4 := rfl
  have q1 : p.toks.length + 1 ≤ maxLen := by unfold maxLen; omega
  have q2 : (p.toks.length + 1) * 40 ≤ 140737488355328 := by omega
  have HOW : Hid (((w.alloc (.cells #[.int .i64 k, .string ⟨#[]⟩, .int .i64 0, .int .i64 p.pos] 32)).drew).ownsRow B 32 4 tv p.toks.length (tcs p.toks)) := h.ot.alloc _
  have q3 : B ≤ ((w.alloc (.cells #[.int .i64 k, .string ⟨#[]⟩, .int .i64 0, .int .i64 p.pos] 32)).drew).heap.size := by show B ≤ (w.alloc _).heap.size; rw [World.size_alloc]; omega
  have q4 : ((w.alloc (.cells #[.int .i64 k, .string ⟨#[]⟩, .int .i64 0, .int .i64 p.pos] 32)).drew).heap.size = w.heap.size + 1 := by show (w.alloc _).heap.size = _; rw [World.size_alloc]
  have HPUT : Hid (∀ {w1 w' : World} {g1 cap1 : Nat}, w1.ownsRow B 32 4 (.slice (some ⟨g1, 0, none⟩) (p.toks.length + 1) cap1) (p.toks.length + 1) (tcs p.toks ++ tc ⟨k, [], 0, p.pos⟩) → ((w.alloc (.cells #[.int .i64 k, .string ⟨#[]⟩, .int .i64 0, .int .i64 p.pos] 32)).drew).grownBy w1 tv.ownBlock → (tv.ownBlock = some g1 ∨ g1 = w.heap.size + 1) → (∀ g : Nat, w'.heap[g]? = (w1.setCell ⟨P, 2, none⟩ (.slice (some ⟨g1, 0, none⟩) (p.toks.length + 1) cap1)).heap[g]?) → TS B P L (.slice (some ⟨g1, 0, none⟩) (p.toks.length + 1) cap1) iv w' { p with toks := p.toks ++ [⟨k, [], 0, p.pos⟩] }) := by
    intro w1 w' g1 cap1 a1 a2 a3 a4
    exact H.out.put ⟨k, [], 0, p.pos⟩ (W := (w.alloc _).drew) (fun g hg => heap_al w _ g hg) (by rw [q4]; omega) a1 a2 (by rw [q4]; exact a3) a4
  have HP1 : Hid (∀ {w1 : World}, ((w.alloc (.cells #[.int .i64 k, .string ⟨#[]⟩, .int .i64 0, .int .i64 p.pos] 32)).drew).grownBy w1 tv.ownBlock → w1.cell? ⟨P, 2, none⟩ = some tv ∧ w1.frozen? ⟨P, 2, none⟩ = false ∧ Below B w w1) := by
    intro w1 hg
    have e1 : w1.heap[P]? = w.heap[P]? := (hg.block P (by rw [q4]; omega) (fun e => H.out.nt e.symm)).trans (heap_al w _ P hPl)
    exact ⟨by rw [Lib.cell_of_heap (e1.trans H.out.blk)]; rfl, Lib.frozen_of_heap (e1.trans H.out.blk) 2, (((Below.refl B w).alloc hBl _).drew).grown hg q3 (fun j hj => (H.out.ot.lt j hj).1)⟩
  generalize tc ⟨k, [], 0, p.pos⟩ = news at *
  generalize tcs p.toks = ts at *
  generalize p.pos = x at *
  generalize p.toks.length = n at *
  clear h hadd hk
  go_enter Tryz.func43, Tryz.ntmps43
  go_wp2
  go_region_law (first
      | ((refine step_append_lies ((w.alloc (.cells #[.int .i64 k, .string ⟨#[]⟩, .int .i64 0, .int .i64 x] 32)).drew) (by rfl) (Operand.tmp 8) (Operand.tmp 15) 25 (by rfl) B 32 i0 (.agg #[.int .i64 0, .string ⟨#[]⟩, .int .i64 0, .int .i64 0]) 4 40 Tryz.underlying25 hi hz0 hz1 hz2 rfl (by decide) tv n ts (by rfl) HOW.out ⟨w.heap.size, 0, none⟩ 1 1 news (by rfl) hnl HNW.out hone (by decide) q1 q2 q3 (w.heap.size + 1) q4 ?_; intro g' cap' w1 hown1 hgrow hat hltg; obtain ⟨d2, f2, hb1⟩ := HP1.out hgrow))
      | fail)
  all_goals
    have HF : Hid (w1.ownsRow B 32 4 (.slice (some ⟨g', 0, none⟩) (n + 1) cap') (n + 1) (ts ++ news) ∧ ((w.alloc (.cells #[.int .i64 k, .string ⟨#[]⟩, .int .i64 0, .int .i64 x] 32)).drew).grownBy w1 tv.ownBlock ∧ (tv.ownBlock = some g' ∨ g' = w.heap.size + 1) ∧ Below B w w1) := ⟨hown1, hgrow, hat, hb1⟩
    clear hown1 hgrow hat hb1 hltg
    go_wp2
    go_end0
    exact ⟨rfl, _, HPUT.out HF.out.1 HF.out.2.1 HF.out.2.2.1 (fun g => rfl), HF.out.2.2.2.setCell (p := ⟨P, 2, none⟩) H.out.hB _⟩

/-- Nothing but answers of the tape has gone. -/
def Dr (w W : World) : Prop := ∃ n, W = w.drewN n
theorem Dr.refl (w : World) : Dr w w := ⟨0, rfl⟩
theorem Dr.drewN {w W : World} (h : Dr w W) (m : Nat) : Dr w (W.drewN m) := by
  obtain ⟨n, rfl⟩ := h
  exact ⟨n + m, by rw [World.drewN_drewN]⟩
theorem Dr.drew {w W : World} (h : Dr w W) : Dr w W.drew := h.drewN 1
theorem Dr.trans {w W V : World} (h : Dr w W) (h' : Dr W V) : Dr w V := by
  obtain ⟨m, rfl⟩ := h'
  exact h.drewN m

set_option maxHeartbeats 4000000 in
set_option maxRecDepth 100000 in
theorem take_any {B P : Nat} {L : List UInt8} {tv iv : Value} {w : World} {p : Sp} (h : TS B P L tv iv w p) (hL : L.length ≤ 6000) (hp : p.pos ≤ L.length) (F : Nat) (hh : UInt8 → Bool) (hF : ∀ W, Dr w W → Says F #[] W hh) :
    Calls Tryz.prog 56 #[.pointer (some ⟨P, 0, none⟩), .func (.func F) #[] #[]] w fun e w' => e = .returned (.string (mkB ((L.drop p.pos).take (rch hh (L.drop p.pos))))) ∧ TS B P L tv iv w' { p with pos := p.pos + rch hh (L.drop p.pos) } ∧ Below B w w' ∧ ∀ g : Nat, g ≠ P → w'.heap[g]? = w.heap[g]? := by
  have H : Hid (TS B P L tv iv w p) := h
  have HRe : Hid (∀ W, Dr w W → Calls Tryz.prog 60 #[.pointer (some ⟨P, 0, none⟩)] W fun e w' => e = .returned (.string (mkB (L.drop p.pos))) ∧ Dr w w') := fun W hW => by
    obtain ⟨n, rfl⟩ := hW
    refine (rest_any (h.drewN n) hp).mono ?_
    rintro e w' ⟨he, m, rfl⟩
    exact ⟨he, Dr.drewN ⟨n, rfl⟩ m⟩
  have HRc : Hid (∀ W, Dr w W → Calls Tryz.prog 94 #[.string (mkB (L.drop p.pos)), .func (.func F) #[] #[]] W fun e w' => e = .returned (.int .i64 (rch hh (L.drop p.pos))) ∧ w' = W) := fun W hW => by
    have := reach_any F hh (mkB (L.drop p.pos)) W (by rw [mk_size, List.length_drop]; omega) (hF W hW)
    rwa [mk_data] at this
  have c0 := h.c0
  have c1 := h.c1
  have f1 := h.fz 1
  have hsz := mk_size L
  have hle := rch_le hh (L.drop p.pos)
  rw [List.length_drop] at hle
  have HSP : Hid (∀ w' : World, (∀ g : Nat, w'.heap[g]? = (w.setCell ⟨P, 1, none⟩ (.int .i64 ((p.pos + rch hh (L.drop p.pos) : Nat) : Int))).heap[g]?) → TS B P L tv iv w' { p with pos := p.pos + rch hh (L.drop p.pos) }) := fun w' hw => h.setPos _ hw
  have hsl := sl_mid L p.pos (p.pos + rch hh (L.drop p.pos)) _ _ rfl rfl (by omega) (by omega)
  rw [Nat.add_sub_cancel_left] at hsl
  generalize mkB ((L.drop p.pos).take (rch hh (L.drop p.pos))) = out at *
  generalize mkB (L.drop p.pos) = rs at *
  generalize rch hh (L.drop p.pos) = k at *
  have hpi : (p.pos : Int) ≤ 6000 := by omega
  have hki : (k : Int) ≤ 6000 := by omega
  have hs1 : (p.pos : Int) + (k : Int) = ((p.pos + k : Nat) : Int) := by omega
  have hs2 : ((p.pos + k : Nat) : Int) ≤ (L.length : Int) := by omega
  have hs3 : (p.pos : Int) ≤ ((p.pos + k : Nat) : Int) := by omega
  obtain ⟨y, hy⟩ : ∃ y, y = p.pos + k := ⟨_, rfl⟩
  rw [← hy] at hsl hs1 hs2 hs3 HSP
  rw [← hy]
  have hw1 : IntKind.i64.wrap (y : Int) = (y : Int) := by rw [IntKind.wrap_i64]; omega
  generalize hx : p.pos = x at *
  clear h hF hle hy
  go_enter Tryz.func56, Tryz.ntmps56
  go_wp2
  go_region_with (first
    | (go_at_call 60; refine (HRe.out _ (Dr.drew (Dr.refl _))).mono ?_; rintro e w1 ⟨rfl, n1, rfl⟩)
    | (go_at_call 94; refine (HRc.out _ ⟨_, rfl⟩).mono ?_; rintro e w' ⟨rfl, rfl⟩)
    | fail)
  all_goals
    have HT : Hid (TS B P L tv iv ((w.drewN n1).setCell ⟨P, 1, none⟩ (.int .i64 (y : Int))) { p with pos := y }) := HSP.out _ (fun g => rfl)
    have HKP : Hid (∀ g : Nat, g ≠ P → ((w.drewN n1).setCell ⟨P, 1, none⟩ (.int .i64 (y : Int))).heap[g]? = w.heap[g]?) := fun g hg => Below.heap_setCell (w.drewN n1) ⟨P, 1, none⟩ _ g hg
    have HBL : Hid (Below B w ((w.drewN n1).setCell ⟨P, 1, none⟩ (.int .i64 (y : Int)))) := (below_drewN (Below.refl B w) n1).setCell (p := ⟨P, 1, none⟩) H.out.hB _
    have d0 := HT.out.c0
    have d1 := HT.out.c1
    generalize (w.drewN n1).setCell ⟨P, 1, none⟩ (.int .i64 (y : Int)) = w2 at *
    go_wp2
    go_quiet (fail)
    go_wp2
    go_ret
    exact ⟨rfl, HT.out.drewN nq, below_drewN HBL.out nq, HKP.out⟩

set_option maxHeartbeats 4000000 in
set_option maxRecDepth 100000 in
theorem take_cap {B P : Nat} {L : List UInt8} {tv iv : Value} {w : World} {p : Sp} (h : TS B P L tv iv w p) (hL : L.length ≤ 6000) (hp : p.pos ≤ L.length) (F : Nat) (u : Value) (hh : UInt8 → Bool) (hF : ∀ W, Dr w W → Says F #[u] W hh) :
    Calls Tryz.prog 56 #[.pointer (some ⟨P, 0, none⟩), .func (.func F) #[] #[u]] w fun e w' => e = .returned (.string (mkB ((L.drop p.pos).take (rch hh (L.drop p.pos))))) ∧ TS B P L tv iv w' { p with pos := p.pos + rch hh (L.drop p.pos) } ∧ Below B w w' ∧ ∀ g : Nat, g ≠ P → w'.heap[g]? = w.heap[g]? := by
  have H : Hid (TS B P L tv iv w p) := h
  have HRe : Hid (∀ W, Dr w W → Calls Tryz.prog 60 #[.pointer (some ⟨P, 0, none⟩)] W fun e w' => e = .returned (.string (mkB (L.drop p.pos))) ∧ Dr w w') := fun W hW => by
    obtain ⟨n, rfl⟩ := hW
    refine (rest_any (h.drewN n) hp).mono ?_
    rintro e w' ⟨he, m, rfl⟩
    exact ⟨he, Dr.drewN ⟨n, rfl⟩ m⟩
  have HRc : Hid (∀ W, Dr w W → Calls Tryz.prog 94 #[.string (mkB (L.drop p.pos)), .func (.func F) #[] #[u]] W fun e w' => e = .returned (.int .i64 (rch hh (L.drop p.pos))) ∧ w' = W) := fun W hW => by
    have := reach_cap F u hh (mkB (L.drop p.pos)) W (by rw [mk_size, List.length_drop]; omega) (hF W hW)
    rwa [mk_data] at this
  have c0 := h.c0
  have c1 := h.c1
  have f1 := h.fz 1
  have hsz := mk_size L
  have hle := rch_le hh (L.drop p.pos)
  rw [List.length_drop] at hle
  have HSP : Hid (∀ w' : World, (∀ g : Nat, w'.heap[g]? = (w.setCell ⟨P, 1, none⟩ (.int .i64 ((p.pos + rch hh (L.drop p.pos) : Nat) : Int))).heap[g]?) → TS B P L tv iv w' { p with pos := p.pos + rch hh (L.drop p.pos) }) := fun w' hw => h.setPos _ hw
  have hsl := sl_mid L p.pos (p.pos + rch hh (L.drop p.pos)) _ _ rfl rfl (by omega) (by omega)
  rw [Nat.add_sub_cancel_left] at hsl
  generalize mkB ((L.drop p.pos).take (rch hh (L.drop p.pos))) = out at *
  generalize mkB (L.drop p.pos) = rs at *
  generalize rch hh (L.drop p.pos) = k at *
  have hpi : (p.pos : Int) ≤ 6000 := by omega
  have hki : (k : Int) ≤ 6000 := by omega
  have hs1 : (p.pos : Int) + (k : Int) = ((p.pos + k : Nat) : Int) := by omega
  have hs2 : ((p.pos + k : Nat) : Int) ≤ (L.length : Int) := by omega
  have hs3 : (p.pos : Int) ≤ ((p.pos + k : Nat) : Int) := by omega
  obtain ⟨y, hy⟩ : ∃ y, y = p.pos + k := ⟨_, rfl⟩
  rw [← hy] at hsl hs1 hs2 hs3 HSP
  rw [← hy]
  have hw1 : IntKind.i64.wrap (y : Int) = (y : Int) := by rw [IntKind.wrap_i64]; omega
  generalize hx : p.pos = x at *
  clear h hF hle hy
  go_enter Tryz.func56, Tryz.ntmps56
  go_wp2
  go_region_with (first
    | (go_at_call 60; refine (HRe.out _ (Dr.drew (Dr.refl _))).mono ?_; rintro e w1 ⟨rfl, n1, rfl⟩)
    | (go_at_call 94; refine (HRc.out _ ⟨_, rfl⟩).mono ?_; rintro e w' ⟨rfl, rfl⟩)
    | fail)
  all_goals
    have HT : Hid (TS B P L tv iv ((w.drewN n1).setCell ⟨P, 1, none⟩ (.int .i64 (y : Int))) { p with pos := y }) := HSP.out _ (fun g => rfl)
    have HKP : Hid (∀ g : Nat, g ≠ P → ((w.drewN n1).setCell ⟨P, 1, none⟩ (.int .i64 (y : Int))).heap[g]? = w.heap[g]?) := fun g hg => Below.heap_setCell (w.drewN n1) ⟨P, 1, none⟩ _ g hg
    have HBL : Hid (Below B w ((w.drewN n1).setCell ⟨P, 1, none⟩ (.int .i64 (y : Int)))) := (below_drewN (Below.refl B w) n1).setCell (p := ⟨P, 1, none⟩) H.out.hB _
    have d0 := HT.out.c0
    have d1 := HT.out.c1
    generalize (w.drewN n1).setCell ⟨P, 1, none⟩ (.int .i64 (y : Int)) = w2 at *
    go_wp2
    go_quiet (fail)
    go_wp2
    go_ret
    exact ⟨rfl, HT.out.drewN nq, below_drewN HBL.out nq, HKP.out⟩
end Go.Proofs.YtheiijnpggabkaaGreatDoor

/- Expressions and the parser in memory. -/
namespace Go.Proofs.YtheiijnpggabkaaGreatDoor
open Go.RowKit Go.Shelf

def Fa {α β : Type} (R : α → β → Prop) : List α → List β → Prop
  | [], [] => True
  | a :: l, b :: m => R a b ∧ Fa R l m
  | [], _ :: _ => False
  | _ :: _, [] => False
theorem Fa.mono {α β : Type} {R Q : α → β → Prop} (h : ∀ a b, R a b → Q a b) : ∀ {l : List α} {m : List β}, Fa R l m → Fa Q l m
  | [], [], _ => trivial
  | _ :: _, _ :: _, f => ⟨h _ _ f.1, Fa.mono h f.2⟩
theorem Fa.len {α β : Type} {R : α → β → Prop} : ∀ {l : List α} {m : List β}, Fa R l m → l.length = m.length
  | [], [], _ => rfl
  | _ :: _, _ :: _, f => by simp [Fa.len f.2]
theorem Fa.snoc {α β : Type} {R : α → β → Prop} {a : α} {b : β} (h : R a b) : ∀ {l : List α} {m : List β}, Fa R l m → Fa R (l ++ [a]) (m ++ [b])
  | [], [], _ => ⟨h, trivial⟩
  | _ :: _, _ :: _, f => ⟨f.1, Fa.snoc h f.2⟩
theorem Fa.get {α β : Type} {R : α → β → Prop} : ∀ {l : List α} {m : List β} (_ : Fa R l m) (i : Nat) (hi : i < l.length) (hj : i < m.length), R l[i] m[i]
  | _ :: _, _ :: _, f, 0, _, _ => f.1
  | _ :: _, _ :: _, f, i + 1, hi, hj => Fa.get f.2 i (Nat.lt_of_succ_lt_succ hi) (Nat.lt_of_succ_lt_succ hj)
theorem Fa.with_len {α β : Type} {R : α → List β → Prop} {k : Nat} (h : ∀ a b, R a b → b.length = k) : ∀ {l : List α} {m : List (List β)}, Fa R l m → m.flatten.length = l.length * k
  | [], [], _ => by simp
  | a :: l, b :: m, f => by simp [h _ _ f.1, Fa.with_len h f.2, Nat.add_mul]; omega

def sv (x : List UInt8) : Value := .string (mkB x)
/-- An expression's five cells; rows in blocks of S. -/
def ExV (w : World) (S : Nat → Prop) : Nat → Ex → List Value → Prop
  | 0, _, _ => False
  | n + 1, x, c => ∃ kv nv vs, c = [.int .i64 x.kind, .int .i64 x.num, sv x.text, kv, nv] ∧ w.ownsRow 0 41 5 kv x.kids.length vs.flatten ∧ w.ownsRow 0 9 1 nv x.names.length (x.names.map sv) ∧ (∀ g, kv.ownBlock = some g → S g) ∧ (∀ g, nv.ownBlock = some g → S g) ∧ Fa (ExV w S n) x.kids vs
theorem ExV.len {w : World} {S : Nat → Prop} : ∀ {n : Nat} {x : Ex} {c : List Value}, ExV w S n x c → c.length = 5
  | _ + 1, _, _, ⟨_, _, _, e, _⟩ => by rw [e]; rfl
theorem ExV.keep {w w' : World} {S Q : Nat → Prop} (hk : ∀ g, S g → g < w.heap.size → w'.heap[g]? = w.heap[g]?) (hs : ∀ g, S g → g < w.heap.size → Q g) : ∀ {n : Nat} {x : Ex} {c : List Value}, ExV w S n x c → ExV w' Q n x c
  | _ + 1, _, _, ⟨kv, nv, vs, e, h1, h2, h3, h4, h5⟩ => ⟨kv, nv, vs, e, own_heap h1 fun g hg => hk g (h3 g hg) (h1.lt g hg).2, own_heap h2 fun g hg => hk g (h4 g hg) (h2.lt g hg).2, fun g hg => hs g (h3 g hg) (h1.lt g hg).2, fun g hg => hs g (h4 g hg) (h2.lt g hg).2, h5.mono fun _ _ f => ExV.keep hk hs f⟩
theorem ExV.up {w : World} {S : Nat → Prop} : ∀ {n : Nat} {x : Ex} {c : List Value}, ExV w S n x c → ExV w S (n + 1) x c
  | _ + 1, _, _, ⟨kv, nv, vs, e, h1, h2, h3, h4, h5⟩ => ⟨kv, nv, vs, e, h1, h2, h3, h4, h5.mono fun _ _ f => ExV.up f⟩
theorem ExV.le {w : World} {S : Nat → Prop} {n : Nat} {x : Ex} {c : List Value} (h : ExV w S n x c) : ∀ m, n ≤ m → ExV w S m x c
  | m, hm => by
    induction m with
    | zero => obtain rfl : n = 0 := by omega
              exact h
    | succ m ih =>
      rcases Nat.lt_or_ge m n with hl | hl
      · obtain rfl : n = m + 1 := by omega
        exact h
      · exact (ih hl).up
def ExA (w : World) (S : Nat → Prop) (x : Ex) (c : List Value) : Prop := ∃ n, ExV w S n x c
section
variable {w w' : World} {S Q : Nat → Prop} {x : Ex} {c : List Value}
theorem ExA.len (h : ExA w S x c) : c.length = 5 := h.choose_spec.len
theorem ExA.keep (h : ExA w S x c) (hk : ∀ g, S g → g < w.heap.size → w'.heap[g]? = w.heap[g]?) (hs : ∀ g, S g → g < w.heap.size → Q g) : ExA w' Q x c := ⟨h.choose, h.choose_spec.keep hk hs⟩
theorem ExA.mono (h : ExA w S x c) (hs : ∀ g, S g → g < w.heap.size → Q g) : ExA w Q x c := h.keep (fun _ _ _ => rfl) hs
theorem fa_all : ∀ {l : List Ex} {vs : List (List Value)}, Fa (ExA w S) l vs → ∃ n, Fa (ExV w S n) l vs
  | [], [], _ => ⟨0, trivial⟩
  | a :: l, b :: m, f => by
    obtain ⟨n1, h1⟩ := f.1
    obtain ⟨n2, h2⟩ := fa_all f.2
    exact ⟨max n1 n2, h1.le _ (Nat.le_max_left _ _), h2.mono fun _ _ h => h.le _ (Nat.le_max_right _ _)⟩
theorem ExA.make {kv nv : Value} {vs : List (List Value)} (h1 : w.ownsRow 0 41 5 kv x.kids.length vs.flatten) (h2 : w.ownsRow 0 9 1 nv x.names.length (x.names.map sv)) (h3 : ∀ g, kv.ownBlock = some g → S g) (h4 : ∀ g, nv.ownBlock = some g → S g) (h5 : Fa (ExA w S) x.kids vs) :
    ExA w S x [.int .i64 x.kind, .int .i64 x.num, sv x.text, kv, nv] := by
  obtain ⟨n, h6⟩ := fa_all h5
  exact ⟨n + 1, kv, nv, vs, rfl, h1, h2, h3, h4, h6⟩
theorem ExA.open (h : ExA w S x c) : ∃ kv nv vs, c = [.int .i64 x.kind, .int .i64 x.num, sv x.text, kv, nv] ∧ w.ownsRow 0 41 5 kv x.kids.length vs.flatten ∧ w.ownsRow 0 9 1 nv x.names.length (x.names.map sv) ∧ (∀ g, kv.ownBlock = some g → S g) ∧ (∀ g, nv.ownBlock = some g → S g) ∧ Fa (ExA w S) x.kids vs := by
  obtain ⟨n, hn⟩ := h
  match n, hn with
  | n + 1, ⟨kv, nv, vs, e, h1, h2, h3, h4, h5⟩ => exact ⟨kv, nv, vs, e, h1, h2, h3, h4, h5.mono fun _ _ f => ⟨n, f⟩⟩
theorem ExA.leaf (k n : Nat) (t : List UInt8) : ExA w S ⟨k, n, t, [], []⟩ [.int .i64 k, .int .i64 n, sv t, .slice none 0 0, .slice none 0 0] :=
  ExA.make (x := ⟨k, n, t, [], []⟩) (vs := []) (World.ownsRow_nil _ _ _ _) (World.ownsRow_nil _ _ _ _) (fun g h => by cases h) (fun g h => by cases h) trivial
end

/-- All blocks but P's stay. -/
structure KP (P : Nat) (w w' : World) : Prop where
  os : w'.os = w.os
  tape : w'.tape = w.tape
  output : w'.output = w.output
  size : w.heap.size ≤ w'.heap.size
  blk : ∀ g, g < w.heap.size → g ≠ P → w'.heap[g]? = w.heap[g]?
section
variable {P : Nat} {a b c : World}
theorem KP.refl (P : Nat) (w : World) : KP P w w := ⟨rfl, rfl, rfl, Nat.le_refl _, fun _ _ _ => rfl⟩
theorem KP.trans (h : KP P a b) (k : KP P b c) : KP P a c := ⟨k.os.trans h.os, k.tape.trans h.tape, k.output.trans h.output, Nat.le_trans h.size k.size, fun g hg hp => (k.blk g (Nat.lt_of_lt_of_le hg h.size) hp).trans (h.blk g hg hp)⟩
theorem KP.of_below (h : Below a.heap.size a b) : KP P a b := ⟨h.os, h.tape, h.output, h.size, fun g hg _ => h.block g hg⟩
theorem KP.below (h : KP P a b) {B : Nat} (hB : B ≤ P) (hl : B ≤ a.heap.size) : Below B a b := ⟨h.os, h.tape, h.output, h.size, fun g hg => h.blk g (by omega) (by omega)⟩
theorem KP.drewN (h : KP P a b) (n : Nat) : KP P a (b.drewN n) := ⟨h.os, h.tape, h.output, h.size, h.blk⟩
theorem KP.drew (h : KP P a b) : KP P a b.drew := ⟨h.os, h.tape, h.output, h.size, h.blk⟩
theorem KP.alloc (h : KP P a b) (o : Obj) : KP P a (b.alloc o) := by
  have := (Below.refl b.heap.size b).alloc (Nat.le_refl _) o
  exact h.trans (KP.of_below this)
theorem KP.setCell (h : KP P a b) (i : Nat) (v : Value) : KP P a (b.setCell ⟨P, i, none⟩ v) := by
  have hs : (b.setCell ⟨P, i, none⟩ v).heap.size = b.heap.size := by simp [World.setCell]
  refine h.trans ⟨rfl, rfl, rfl, by omega, fun g _ hp => Below.heap_setCell b ⟨P, i, none⟩ v g hp⟩
end

/-- The parser lies in block P, its tokens in block T. -/
def PsA (P T : Nat) (w : World) (p : Ps) : Prop := ∃ a c o, w.heap[P]? = some (.cells #[.slice a p.toks.length c, .int .i64 p.fin, .int .i64 p.blk, .bool p.inD, .int .i64 p.deep] 66 (0, 0)) ∧ p.toks.length ≤ c ∧ 0 ≤ c ∧ (0 < p.toks.length → a = some ⟨T, o, none⟩) ∧ (∀ j, j < p.toks.length * 4 → w.cell? ⟨T, o + j, none⟩ = (tcs p.toks)[j]?) ∧ T ≠ P ∧ T < w.heap.size ∧ p.deep ≤ 1000 ∧ p.blk ≤ 1000000
section
variable {P T : Nat} {w w' : World} {p : Ps}
theorem PsA.lt (h : PsA P T w p) : P < w.heap.size := by
  obtain ⟨a, c, o, h, _⟩ := h
  exact (Array.getElem?_eq_some_iff.1 h).1
theorem PsA.keep (h : PsA P T w p) (hP : w'.heap[P]? = w.heap[P]?) (hT : w'.heap[T]? = w.heap[T]?) : PsA P T w' p := by
  obtain ⟨a, c, o, h1, h2, h3, h4, h5, h6, h7, h8⟩ := h
  have hlt : T < w'.heap.size := by
    have : w.heap[T]? = some w.heap[T] := Array.getElem?_eq_getElem h7
    exact (Array.getElem?_eq_some_iff.1 (hT.trans this)).1
  refine ⟨a, c, o, hP.trans h1, h2, h3, h4, fun j hj => ?_, h6, hlt, h8⟩
  rw [← h5 j hj]
  simp [World.cell?, hT]
theorem PsA.up (h : PsA P T w p) (hb : Below w.heap.size w w') : PsA P T w' p := h.keep (hb.block _ h.lt) (hb.block _ (by obtain ⟨_, _, _, _, _, _, _, _, _, h7, _⟩ := h; exact h7))
theorem PsA.drewN (h : PsA P T w p) (n : Nat) : PsA P T (w.drewN n) p := h.keep rfl rfl
end
/-- What a call of the parser's comes to. -/
def PoA {α : Type} (P T : Nat) (V : World → α → Value → Prop) (w : World) (z : Except Ft (α × Ps)) (e : Ending) (w' : World) : Prop := match z with
  | .error (k, x) => e = PF k x ∧ KP P w w'
  | .ok (a, q) => ∃ v, e = .returned v ∧ V w' a v ∧ PsA P T w' q ∧ KP P w w'
end Go.Proofs.YtheiijnpggabkaaGreatDoor

/- Blanks, and what is left out, are skipped. -/
namespace Go.Proofs.YtheiijnpggabkaaGreatDoor
open Go.RowKit Go.Shelf

set_option maxHeartbeats 1000000 in
theorem skip1_any (c : UInt8) (Q P o : Nat) (W : World) (hq : W.cell? ⟨Q, 0, none⟩ = some (.pointer (some ⟨P, 0, none⟩))) (ho : W.cell? ⟨P, 4, none⟩ = some (.int .i64 o)) :
    Calls Tryz.prog 57 #[.int .u8 c.toNat, .pointer (some ⟨Q, 0, none⟩)] W fun e w' => e = .returned (.bool (isBl o c)) ∧ w' = W := by
  have q1 := c_eq c 32
  have q2 := c_eq c 10
  have q1' : ((c.toNat : Int) == 32) = decide (c.toNat = 32) := q1
  have q2' : ((c.toNat : Int) == 10) = decide (c.toNat = 10) := q2
  have e : isBl o c = (decide (c.toNat = 32) || (decide (c.toNat = 10) && decide (0 < o))) := rfl
  rw [e]
  generalize decide (c.toNat = 32) = b1 at *
  generalize decide (c.toNat = 10) = b2 at *
  clear q1 q2 e
  cases b1 with
  | true =>
    go_enter Tryz.func57, Tryz.ntmps57
    go_wp2
    go_ret
    exact ⟨rfl, rfl⟩
  | false =>
    cases b2 with
    | true =>
      go_enter Tryz.func57, Tryz.ntmps57
      go_wp2
      go_ret
      exact ⟨ret_b (by simp), rfl⟩
    | false =>
      go_enter Tryz.func57, Tryz.ntmps57
      go_wp2
      go_ret
      exact ⟨rfl, rfl⟩
theorem says_bl (Q P o : Nat) (W : World) (hq : W.cell? ⟨Q, 0, none⟩ = some (.pointer (some ⟨P, 0, none⟩))) (ho : W.cell? ⟨P, 4, none⟩ = some (.int .i64 o)) : Says 57 #[.pointer (some ⟨Q, 0, none⟩)] W (isBl o) :=
  ⟨enters_of Tryz.func57 (by kernel_rfl) rfl, fun c => skip1_any c Q P o W hq ho⟩

theorem skp_len (o : Nat) : ∀ (f : Nat) (r : List UInt8), skp o f r ≤ r.length := by
  intro f
  induction f with
  | zero => intro r; exact rch_le _ r
  | succ f ih =>
    intro r
    unfold skp
    have h1 := rch_le (isBl o) r
    cases decide (((r.drop (rch (isBl o) r)).getD 0 0).toNat = 35)
    · exact h1
    · have h2 := rch_le isNl (r.drop (rch (isBl o) r))
      have h3 := ih (r.drop (rch (isBl o) r + rch isNl (r.drop (rch (isBl o) r))))
      rw [List.length_drop] at h2 h3
      simp only [cond_true]
      omega
theorem nl_pos (r : List UInt8) (h : (r.getD 0 0).toNat = 35) : 0 < rch isNl r := by
  match r with
  | [] => simp at h
  | c :: r =>
    have hc : c.toNat = 35 := h
    unfold rch isNl
    rw [hc]
    simp
theorem skp_more (o : Nat) : ∀ (f g : Nat) (r : List UInt8), r.length ≤ f → r.length ≤ g → skp o f r = skp o g r := by
  intro f
  induction f with
  | zero =>
    intro g r h1 _
    have : r = [] := List.length_eq_zero_iff.1 (by omega)
    subst this
    cases g with
    | zero => rfl
    | succ g => rfl
  | succ f ih =>
    intro g r h1 h2
    cases g with
    | zero =>
      have : r = [] := List.length_eq_zero_iff.1 (by omega)
      subst this
      rfl
    | succ g =>
      unfold skp
      cases hd : decide (((r.drop (rch (isBl o) r)).getD 0 0).toNat = 35) with
      | false => rfl
      | true =>
        have hp := nl_pos _ (of_decide_eq_true hd)
        simp only [cond_true]
        rw [ih g _ (by rw [List.length_drop]; omega) (by rw [List.length_drop]; omega)]
theorem skp_stop (o f : Nat) (r : List UInt8) (h : ¬ ((r.drop (rch (isBl o) r)).getD 0 0).toNat = 35) : skp o f r = rch (isBl o) r := by
  cases f with
  | zero => rfl
  | succ f =>
    unfold skp
    rw [show decide (((r.drop (rch (isBl o) r)).getD 0 0).toNat = 35) = false from by simpa using h]
    rfl
theorem skp_go (o f : Nat) (r : List UInt8) (hf : r.length ≤ f) (h : ((r.drop (rch (isBl o) r)).getD 0 0).toNat = 35) : skp o f r = rch (isBl o) r + rch isNl (r.drop (rch (isBl o) r)) + skp o f (r.drop (rch (isBl o) r + rch isNl (r.drop (rch (isBl o) r)))) := by
  have h0 : r ≠ [] := by intro e; subst e; simp [rch] at h
  cases f with
  | zero => exact absurd (List.length_eq_zero_iff.1 (by omega)) h0
  | succ f =>
    have hp := nl_pos _ h
    have hl : 0 < r.length := List.length_pos_iff.2 h0
    conv => lhs; unfold skp
    rw [show decide (((r.drop (rch (isBl o) r)).getD 0 0).toNat = 35) = true from by simpa using h]
    simp only [cond_true]
    rw [skp_more o f (f + 1) _ (by rw [List.length_drop]; omega) (by rw [List.length_drop]; omega)]

/-- Where the splitter is, out of memory. -/
def posOf (P : Nat) (w : World) : Nat := match w.cell? ⟨P, 1, none⟩ with | some (.int _ n) => n.toNat | _ => 0
theorem TS.posOf {B P : Nat} {L : List UInt8} {tv iv : Value} {w : World} {p : Sp} (h : TS B P L tv iv w p) : posOf P w = p.pos := by
  unfold Go.Proofs.YtheiijnpggabkaaGreatDoor.posOf
  rw [h.c1]
  simp

set_option maxHeartbeats 4000000 in
set_option maxRecDepth 100000 in
theorem skip_any {B P : Nat} {L : List UInt8} {tv iv : Value} {w : World} {p : Sp} (h : TS B P L tv iv w p) (hL : L.length ≤ 6000) (hp : p.pos ≤ L.length) :
    Calls Tryz.prog 37 #[.pointer (some ⟨P, 0, none⟩)] w fun e w' => e = .returned (.tuple #[]) ∧ TS B P L tv iv w' (p.skip L) ∧ Below B w w' ∧ ∀ g : Nat, g < w.heap.size → g ≠ P → w'.heap[g]? = w.heap[g]? := by
  have hBl : B ≤ w.heap.size := by have := h.hB; have := h.lt; omega
  have H0 : Hid (TS B P L tv iv (w.alloc (.cells #[.pointer (some ⟨P, 0, none⟩)] 69)) p ∧ Below B w (w.alloc (.cells #[.pointer (some ⟨P, 0, none⟩)] 69)) ∧ (w.alloc (.cells #[.pointer (some ⟨P, 0, none⟩)] 69)).heap[w.heap.size]? = some (.cells #[.pointer (some ⟨P, 0, none⟩)] 69 (0, 0))) := ⟨h.up ((Below.refl _ _).alloc (Nat.le_refl _) _), (Below.refl _ _).alloc hBl _, heap_alloc_new w _⟩
  have hskip : p.skip L = { p with pos := p.pos + skp p.opn L.length (L.drop p.pos) } := rfl
  rw [hskip]
  have HQ : Hid (P < w.heap.size ∧ B ≤ P) := ⟨h.lt, h.hB⟩
  have HK0 : Hid (∀ g : Nat, g < w.heap.size → (w.alloc (.cells #[.pointer (some ⟨P, 0, none⟩)] 69)).heap[g]? = w.heap[g]?) := fun g hg => heap_al w _ g hg
  have hen : ∀ args w, (callFunc 57 args).run Tryz.prog w = .ok (.enter 57 args) w := enters_of Tryz.func57 (by kernel_rfl) rfl
  have hmf : ∀ (fn : Fn) (first cap : Array Value) (w : World), (Instr.makeFunc fn first cap).run Tryz.prog w = .ok (.func fn first cap) w := fun _ _ _ _ => rfl
  generalize hQ : w.heap.size = Q at *
  clear h hskip
  go_enter Tryz.func37, Tryz.ntmps37
  go_wp2
  go_loopw [2] (fun _ wr => ∃ x : Nat, x ≤ L.length ∧ Hid (p.pos + skp p.opn L.length (L.drop p.pos) = x + skp p.opn L.length (L.drop x)) ∧ Hid (TS B P L tv iv wr { p with pos := x } ∧ Below B w wr ∧ wr.heap[Q]? = some (.cells #[.pointer (some ⟨P, 0, none⟩)] 69 (0, 0)) ∧ ∀ g : Nat, g < Q → g ≠ P → wr.heap[g]? = w.heap[g]?)) (fun _ wr => L.length - posOf P wr)
  case atStart => exact ⟨p.pos, hp, rfl, H0.out.1, H0.out.2.1, H0.out.2.2, fun g hg _ => HK0.out g hg⟩
  case round =>
    obtain ⟨x, hx, HE, HT⟩ := hrel
    clear H0 HK0
    have q0 : wr.cell? ⟨Q, 0, none⟩ = some (.pointer (some ⟨P, 0, none⟩)) := by rw [Lib.cell_of_heap HT.out.2.2.1]; rfl
    have HPQ : Hid (Q ≠ P) := by have := HQ.out.1; show _ ≠ _; omega
    have HTk : Hid (Calls Tryz.prog 56 #[.pointer (some ⟨P, 0, none⟩), .func (.func 57) #[] #[.pointer (some ⟨Q, 0, none⟩)]] wr fun e w' => (∃ t, e = .returned (.string t)) ∧ TS B P L tv iv w' { p with pos := x + rch (isBl p.opn) (L.drop x) } ∧ Below B wr w' ∧ ∀ g : Nat, g ≠ P → w'.heap[g]? = wr.heap[g]?) :=
      (take_cap HT.out.1 hL hx 57 (.pointer (some ⟨Q, 0, none⟩)) (isBl p.opn) (fun W hW => by
        obtain ⟨n, rfl⟩ := hW
        exact says_bl Q P p.opn _ q0 HT.out.1.c4)).mono fun e w' ⟨a, b, c, d⟩ => ⟨⟨_, a⟩, b, c, d⟩
    have hle1 := rch_le (isBl p.opn) (L.drop x)
    rw [List.length_drop] at hle1
    have HST : Hid (¬ (L.getD (x + rch (isBl p.opn) (L.drop x)) 0).toNat = 35 → x + skp p.opn L.length (L.drop x) = x + rch (isBl p.opn) (L.drop x)) := fun hne => by
      rw [skp_stop p.opn L.length (L.drop x) (by rw [List.drop_drop, at_drop]; exact hne)]
    have HGO : Hid ((L.getD (x + rch (isBl p.opn) (L.drop x)) 0).toNat = 35 → x + skp p.opn L.length (L.drop x) = x + rch (isBl p.opn) (L.drop x) + rch isNl (L.drop (x + rch (isBl p.opn) (L.drop x))) + skp p.opn L.length (L.drop (x + rch (isBl p.opn) (L.drop x) + rch isNl (L.drop (x + rch (isBl p.opn) (L.drop x)))))) := fun he => by
      have := skp_go p.opn L.length (L.drop x) (by rw [List.length_drop]; omega) (by rw [List.drop_drop, at_drop]; exact he)
      rw [List.drop_drop, List.drop_drop, ← Nat.add_assoc] at this
      omega
    generalize rch (isBl p.opn) (L.drop x) = k at *
    obtain ⟨x1, hx1⟩ : ∃ x1, x1 = x + k := ⟨_, rfl⟩
    rw [← hx1] at HTk HST HGO
    have hx1l : x1 ≤ L.length := by omega
    go_wp2_with fail
    refine HTk.out.mono ?_
    rintro e w1 ⟨⟨t1, rfl⟩, hts1, hb1, hk1⟩
    have HT1 : Hid (TS B P L tv iv w1 { p with pos := x1 } ∧ Below B w w1 ∧ w1.heap[Q]? = some (.cells #[.pointer (some ⟨P, 0, none⟩)] 69 (0, 0)) ∧ ∀ g : Nat, g < Q → g ≠ P → w1.heap[g]? = w.heap[g]?) := ⟨hts1, HT.out.2.1.trans hb1, (hk1 Q HPQ.out).trans HT.out.2.2.1, fun g hg hp => (hk1 g hp).trans (HT.out.2.2.2 g hg hp)⟩
    have q1 : w1.cell? ⟨Q, 0, none⟩ = some (.pointer (some ⟨P, 0, none⟩)) := by rw [Lib.cell_of_heap HT1.out.2.2.1]; rfl
    have HSe : Hid (Calls Tryz.prog 38 #[.pointer (some ⟨P, 0, none⟩), .int .u8 (35 : Nat)] w1 fun e w' => e = .returned (.bool (decide ((L.getD x1 0).toNat = 35))) ∧ ∃ n, w' = w1.drewN n) := sees_any hts1 hx1l 35 (by decide)
    clear hts1 hb1 hk1 q0 HTk
    by_cases hsee : (L.getD x1 0).toNat = 35
    · rw [show decide ((L.getD x1 0).toNat = 35) = true from by simpa using hsee] at HSe
      have HGo := HGO.out hsee
      have hnp : 0 < rch isNl (L.drop x1) := nl_pos _ (by rw [at_drop]; exact hsee)
      have hle2 := rch_le isNl (L.drop x1)
      rw [List.length_drop] at hle2
      have HTk2 : Hid (∀ n, Calls Tryz.prog 56 #[.pointer (some ⟨P, 0, none⟩), .func (.func 58) #[] #[]] (w1.drewN n) fun e w' => (∃ t, e = .returned (.string t)) ∧ TS B P L tv iv w' { p with pos := x1 + rch isNl (L.drop x1) } ∧ Below B (w1.drewN n) w' ∧ ∀ g : Nat, g ≠ P → w'.heap[g]? = w1.heap[g]?) := fun n =>
        (take_any (HT1.out.1.drewN n) hL hx1l 58 isNl (fun W _ => says_nl W)).mono fun e w' ⟨a, b, c, d⟩ => ⟨⟨_, a⟩, b, c, d⟩
      have HGo' : Hid _ := HGo
      generalize rch isNl (L.drop x1) = m at *
      clear hsee HGO HST HGo
      go_wp2_with fail
      refine HSe.out.mono ?_
      rintro e w' ⟨rfl, n, rfl⟩
      go_wp2_with fail
      refine (HTk2.out n).mono ?_
      rintro e w2 ⟨⟨t2, rfl⟩, hts2, hb2, hk2⟩
      have HT2 : Hid (TS B P L tv iv w2 { p with pos := x1 + m } ∧ Below B w w2 ∧ w2.heap[Q]? = some (.cells #[.pointer (some ⟨P, 0, none⟩)] 69 (0, 0)) ∧ ∀ g : Nat, g < Q → g ≠ P → w2.heap[g]? = w.heap[g]?) := ⟨hts2, (below_drewN HT1.out.2.1 n).trans hb2, (hk2 Q HPQ.out).trans HT1.out.2.2.1, fun g hg hp => (hk2 g hp).trans (HT1.out.2.2.2 g hg hp)⟩
      clear hts2 hb2 hk2
      go_wp2
      refine ⟨⟨x1 + m, by omega, HE.out.trans HGo'.out, HT2⟩, ?_⟩
      rw [HT2.out.1.posOf, HT.out.1.posOf]
      show L.length - (x1 + m) < L.length - x
      omega
    · rw [show decide ((L.getD x1 0).toNat = 35) = false from by simpa using hsee] at HSe
      have HEnd : Hid (p.pos + skp p.opn L.length (L.drop p.pos) = x1) := HE.out.trans (HST.out hsee)
      clear hsee HGO HST
      go_wp2_with fail
      refine HSe.out.mono ?_
      rintro e w' ⟨rfl, n, rfl⟩
      go_wp2
      refine bodyPost_ret (results_none rfl _ _ _) rfl ?_
      refine ⟨rfl, ?_, below_drewN HT1.out.2.1 n, fun g hg hp => HT1.out.2.2.2 g hg hp⟩
      rw [HEnd.out]
      exact HT1.out.1.drewN n
end Go.Proofs.YtheiijnpggabkaaGreatDoor

/- What may not stand where a token is to begin. -/
namespace Go.Proofs.YtheiijnpggabkaaGreatDoor
open Go.RowKit Go.Shelf

theorem ics_get (l : List Nat) (j : Nat) (hj : j < l.length) : (ics l)[j]? = some (.int .i64 (l[j] : Nat)) := by simp [ics, hj]

def IdxP (b : Bool) (e : Ending) : Prop := ∃ z : Int, (b = false → z = -1) ∧ (b = true → 0 ≤ z) ∧ e = .returned (.int .i64 z)

set_option maxHeartbeats 2000000 in
set_option maxRecDepth 100000 in
theorem contains_any (g cap : Nat) (l : List Nat) (x : Nat) (W : World) (h0 : 0 < l.length) (hl : l.length ≤ 1000000) (hc : ∀ j (hj : j < l.length), W.cell? ⟨g, j, none⟩ = some (.int .i64 (l[j] : Nat))) (b : Bool) (hb : b = true ↔ x ∈ l) :
    Calls Tryz.prog 62 #[.slice (some ⟨g, 0, none⟩) l.length cap, .int .i64 x] W fun e w' => e = .returned (.bool b) ∧ w' = W := by
  have HC : Hid (∀ j (hj : j < l.length), W.cell? ⟨g, j, none⟩ = some (.int .i64 (l[j] : Nat))) := hc
  have HB : Hid (b = true ↔ x ∈ l) := hb
  have HI : Hid (Calls Tryz.prog 97 #[.slice (some ⟨g, 0, none⟩) l.length cap, .int .i64 x] W fun e w' => IdxP b e ∧ w' = W) := by
    clear hc hb
    go_enter Tryz.func97, Tryz.ntmps97
    go_wp2
    go_loop [8] (fun i => ∃ k : Nat, k ≤ l.length ∧ i = .int .i64 k ∧ Hid (x ∉ l.take k)) (fun i => l.length - (intOf i).toNat)
    case atStart => exact ⟨0, Nat.zero_le _, rfl, by show _ ∉ _; simp⟩
    case round =>
      obtain ⟨k, hk, rfl, HK⟩ := hrel
      by_cases hlt : k < l.length
      · have hki : (k : Int) < (l.length : Int) := by omega
        have ck := HC.out k hlt
        by_cases he : x = l[k]
        · have hq : ((x : Int) == (l[k] : Int)) = true := by simp [he]
          have HBT : Hid (b = true) := HB.out.2 (by rw [he]; exact List.getElem_mem hlt)
          generalize l[k] = y at *
          clear he
          go_wp2
          go_ret
          exact ⟨⟨(k : Int), fun h => (by rw [HBT.out] at h; cases h), fun _ => by omega, rfl⟩, rfl⟩
        · have hq : ((x : Int) == (l[k] : Int)) = false := beq_eq_false_iff_ne.2 (by omega)
          have HN : Hid (x ∉ l.take (k + 1)) := by
            show _ ∉ _
            rw [List.take_succ_eq_append_getElem hlt, List.mem_append]
            rintro (h | h)
            · exact HK.out h
            · simp at h; exact he h
          generalize l[k] = y at *
          clear he
          go_wp2
          refine ⟨⟨k + 1, by omega, by go_num, HN⟩, by simp [intOf]; omega⟩
      · obtain rfl : k = l.length := by omega
        have HBF : Hid (¬ b = true) := fun h => by
          have := HK.out
          rw [List.take_length] at this
          exact this (HB.out.1 h)
        go_wp2
        go_ret
        exact ⟨⟨-1, fun _ => rfl, fun h => absurd h HBF.out, rfl⟩, rfl⟩
  clear hc hb HC
  go_enter Tryz.func62, Tryz.ntmps62
  go_wp2_with fail
  refine HI.out.mono ?_
  rintro e w' ⟨⟨z, hz1, hz2, rfl⟩, rfl⟩
  cases b with
  | true =>
    have hz3 := hz2 rfl
    clear hz1 hz2
    go_wp2
    go_ret
    exact ⟨ret_b (by simp), rfl⟩
  | false =>
    have hz3 : z = -1 := hz1 rfl
    subst hz3
    clear hz1 hz2
    go_wp2
    go_ret
    exact ⟨rfl, rfl⟩

theorem rv0 {b1 b2 bm b3 b4 b5 : Bool} {oo i tp nn R : Nat} (H : (R = if b1 = false ∨ (b2 = true ∧ oo = 0) then 1 else if i < tp ∧ bm = false then 4 else if b3 = true ∧ b4 = true then 3 else if (b5 = true ∧ oo = 30) ∨ (tp < i ∧ 30 < nn) then 2 else 0)) (c1 : (!b1) = false) (c2 : ¬ b2 = true ∨ ((oo : Int) == 0) = false) (c3 : ¬ i < tp ∨ (!bm) = false) (c4 : ¬ b3 = true ∨ b4 = false) (c5 : ¬ b5 = true ∨ ((oo : Int) == 30) = false) (c6 : ¬ tp < i ∨ (nn : Int) ≤ 30) : R = 0 := by
  rw [H, if_neg (show ¬ (b1 = false ∨ (b2 = true ∧ oo = 0)) from by rintro (h | ⟨h, h'⟩); (· rw [h] at c1; cases c1); rcases c2 with c | c; (· exact c h); rw [h'] at c; cases c), if_neg (show ¬ (i < tp ∧ bm = false) from by rintro ⟨h, h'⟩; rcases c3 with c | c; (· exact c h); rw [h'] at c; cases c), if_neg (show ¬ (b3 = true ∧ b4 = true) from by rintro ⟨h, h'⟩; rcases c4 with c | c; (· exact c h); rw [h'] at c; cases c), if_neg (show ¬ ((b5 = true ∧ oo = 30) ∨ (tp < i ∧ 30 < nn)) from by rintro (⟨h, h'⟩ | ⟨h, h'⟩); (· rcases c5 with c | c; (· exact c h); rw [h'] at c; cases c); rcases c6 with c | c; (· exact c h); omega)]
theorem rv1a {b1 b2 bm b3 b4 b5 : Bool} {oo i tp nn R : Nat} (H : (R = if b1 = false ∨ (b2 = true ∧ oo = 0) then 1 else if i < tp ∧ bm = false then 4 else if b3 = true ∧ b4 = true then 3 else if (b5 = true ∧ oo = 30) ∨ (tp < i ∧ 30 < nn) then 2 else 0)) (h : (!b1) = true) : R = 1 := by
  rw [H, if_pos (Or.inl (by simpa using h))]
theorem rv1b {b1 b2 bm b3 b4 b5 : Bool} {oo i tp nn R : Nat} (H : (R = if b1 = false ∨ (b2 = true ∧ oo = 0) then 1 else if i < tp ∧ bm = false then 4 else if b3 = true ∧ b4 = true then 3 else if (b5 = true ∧ oo = 30) ∨ (tp < i ∧ 30 < nn) then 2 else 0)) (h : b2 = true) (h' : ((oo : Int) == 0) = true) : R = 1 := by
  rw [H, if_pos (Or.inr ⟨h, by simpa using h'⟩)]
theorem rv4 {b1 b2 bm b3 b4 b5 : Bool} {oo i tp nn R : Nat} (H : (R = if b1 = false ∨ (b2 = true ∧ oo = 0) then 1 else if i < tp ∧ bm = false then 4 else if b3 = true ∧ b4 = true then 3 else if (b5 = true ∧ oo = 30) ∨ (tp < i ∧ 30 < nn) then 2 else 0)) (c1 : (!b1) = false) (c2 : ¬ b2 = true ∨ ((oo : Int) == 0) = false) (h : i < tp) (h' : (!bm) = true) : R = 4 := by
  rw [H, if_neg (show ¬ (b1 = false ∨ (b2 = true ∧ oo = 0)) from by rintro (h | ⟨h, h'⟩); (· rw [h] at c1; cases c1); rcases c2 with c | c; (· exact c h); rw [h'] at c; cases c), if_pos ⟨h, by simpa using h'⟩]
theorem rv3 {b1 b2 bm b3 b4 b5 : Bool} {oo i tp nn R : Nat} (H : (R = if b1 = false ∨ (b2 = true ∧ oo = 0) then 1 else if i < tp ∧ bm = false then 4 else if b3 = true ∧ b4 = true then 3 else if (b5 = true ∧ oo = 30) ∨ (tp < i ∧ 30 < nn) then 2 else 0)) (c1 : (!b1) = false) (c2 : ¬ b2 = true ∨ ((oo : Int) == 0) = false) (c3 : ¬ i < tp ∨ (!bm) = false) (h : b3 = true) (h' : b4 = true) : R = 3 := by
  rw [H, if_neg (show ¬ (b1 = false ∨ (b2 = true ∧ oo = 0)) from by rintro (h | ⟨h, h'⟩); (· rw [h] at c1; cases c1); rcases c2 with c | c; (· exact c h); rw [h'] at c; cases c), if_neg (show ¬ (i < tp ∧ bm = false) from by rintro ⟨h, h'⟩; rcases c3 with c | c; (· exact c h); rw [h'] at c; cases c), if_pos ⟨h, h'⟩]
theorem rv2a {b1 b2 bm b3 b4 b5 : Bool} {oo i tp nn R : Nat} (H : (R = if b1 = false ∨ (b2 = true ∧ oo = 0) then 1 else if i < tp ∧ bm = false then 4 else if b3 = true ∧ b4 = true then 3 else if (b5 = true ∧ oo = 30) ∨ (tp < i ∧ 30 < nn) then 2 else 0)) (c1 : (!b1) = false) (c2 : ¬ b2 = true ∨ ((oo : Int) == 0) = false) (c3 : ¬ i < tp ∨ (!bm) = false) (c4 : ¬ b3 = true ∨ b4 = false) (h : b5 = true) (h' : ((oo : Int) == 30) = true) : R = 2 := by
  rw [H, if_neg (show ¬ (b1 = false ∨ (b2 = true ∧ oo = 0)) from by rintro (h | ⟨h, h'⟩); (· rw [h] at c1; cases c1); rcases c2 with c | c; (· exact c h); rw [h'] at c; cases c), if_neg (show ¬ (i < tp ∧ bm = false) from by rintro ⟨h, h'⟩; rcases c3 with c | c; (· exact c h); rw [h'] at c; cases c), if_neg (show ¬ (b3 = true ∧ b4 = true) from by rintro ⟨h, h'⟩; rcases c4 with c | c; (· exact c h); rw [h'] at c; cases c), if_pos (Or.inl ⟨h, by have h9 : (oo : Int) = 30 := (by simpa using h'); omega⟩)]
theorem rv2b {b1 b2 bm b3 b4 b5 : Bool} {oo i tp nn R : Nat} (H : (R = if b1 = false ∨ (b2 = true ∧ oo = 0) then 1 else if i < tp ∧ bm = false then 4 else if b3 = true ∧ b4 = true then 3 else if (b5 = true ∧ oo = 30) ∨ (tp < i ∧ 30 < nn) then 2 else 0)) (c1 : (!b1) = false) (c2 : ¬ b2 = true ∨ ((oo : Int) == 0) = false) (c3 : ¬ i < tp ∨ (!bm) = false) (c4 : ¬ b3 = true ∨ b4 = false) (h : tp < i) (h' : (30 : Int) < (nn : Int)) : R = 2 := by
  rw [H, if_neg (show ¬ (b1 = false ∨ (b2 = true ∧ oo = 0)) from by rintro (h | ⟨h, h'⟩); (· rw [h] at c1; cases c1); rcases c2 with c | c; (· exact c h); rw [h'] at c; cases c), if_neg (show ¬ (i < tp ∧ bm = false) from by rintro ⟨h, h'⟩; rcases c3 with c | c; (· exact c h); rw [h'] at c; cases c), if_neg (show ¬ (b3 = true ∧ b4 = true) from by rintro ⟨h, h'⟩; rcases c4 with c | c; (· exact c h); rw [h'] at c; cases c), if_pos (Or.inr ⟨h, by omega⟩)]

/-- What is left of a call that may be refused. -/
def RefP (r x : Nat) (e : Ending) : Prop := (r = 0 → e = .returned (.tuple #[])) ∧ (r ≠ 0 → e = PF r x)

set_option maxHeartbeats 8000000 in
set_option maxRecDepth 100000 in
theorem refuse_any {B P : Nat} {L : List UInt8} {tv iv : Value} {w : World} {p : Sp} (h : TS B P L tv iv w p) (hL : L.length ≤ 6000) (hp : p.pos < L.length) (i : Nat) (hn0 : 0 < p.ins.length) (hn : p.ins.length ≤ 1000) (hr : ErrR w) :
    Calls Tryz.prog 39 #[.pointer (some ⟨P, 0, none⟩), .int .i64 i] w fun e w' => RefP (refu L p i) p.pos e ∧ Below w.heap.size w w' := by
  have hrl : 0 < (L.drop p.pos).length := by rw [List.length_drop]; omega
  have hrl2 : (L.drop p.pos).length ≤ 1000000 := by rw [List.length_drop]; omega
  have HRe : Hid (∀ W, Below w.heap.size w W → Calls Tryz.prog 60 #[.pointer (some ⟨P, 0, none⟩)] W fun e w' => e = .returned (.string (mkB (L.drop p.pos))) ∧ Below w.heap.size w w') := fun W hW => (rest_any (h.up hW) (by omega)).mono fun e w' ⟨a, n, b⟩ => ⟨a, by rw [b]; exact below_drewN hW n⟩
  have HBe : Hid (∀ W, Calls Tryz.prog 59 #[.string (mkB (L.drop p.pos))] W fun e w' => e = .returned (.bool (beg (L.drop p.pos))) ∧ w' = W) := fun W => begins_any _ W hrl hrl2
  have HCl : Hid (∀ W, Calls Tryz.prog 61 #[.int .u8 (L.getD p.pos 0).toNat] W fun e w' => e = .returned (.bool (isCls (L.getD p.pos 0))) ∧ w' = W) := fun W => isClosing_any _ W
  have HOp : Hid (∀ W, Calls Tryz.prog 65 #[.int .u8 (L.getD p.pos 0).toNat] W fun e w' => e = .returned (.bool (isOpn (L.getD p.pos 0))) ∧ w' = W) := fun W => isOpening_any _ W
  have HDg : Hid (∀ W, Calls Tryz.prog 63 #[.int .u8 (L.getD p.pos 0).toNat] W fun e w' => e = .returned (.bool (isDg (L.getD p.pos 0))) ∧ w' = W) := fun W => isDigit_any _ W
  have HIn : Hid (∀ W, Below w.heap.size w W → Calls Tryz.prog 41 #[.pointer (some ⟨P, 0, none⟩)] W fun e w' => e = .returned (.int .i64 p.top) ∧ Below w.heap.size w w') := fun W hW => (in_any (h.up hW) hn0 (by omega)).mono fun e w' ⟨a, n, b⟩ => ⟨a, by rw [b]; exact below_drewN hW n⟩
  have HNI : Hid (isDg (L.getD p.pos 0) = true → ∀ W, Below w.heap.size w W → Calls Tryz.prog 64 #[.string (mkB (L.drop p.pos))] W fun e w' => e = .returned (.bool (noInt (L.drop p.pos))) ∧ Below w.heap.size w w') := fun hd W hW => (isNoInt_any _ W hrl hrl2 (by rw [at_drop]; exact hd) (hr.up hW)).mono fun e w' ⟨a, b⟩ => ⟨a, hW.trans (b.mono hW.size)⟩
  have HGu : Hid (∀ W, Below w.heap.size w W → ∀ k : Int, Calls Tryz.prog 42 #[.pointer (some ⟨P, 0, none⟩), .int .i64 k] W fun e w' => e = PF k p.pos ∧ w' = W) := fun W hW k => giveUp_any (h.up hW) k
  obtain ⟨g, cap, hv, hg1, hg2⟩ := h.oi.form hn0
  subst hv
  obtain ⟨bm, hbm⟩ : ∃ bm : Bool, (bm = true ↔ i ∈ p.ins) := ⟨decide (i ∈ p.ins), by simp⟩
  have HCo : Hid (∀ W, Below w.heap.size w W → Calls Tryz.prog 62 #[.slice (some ⟨g, 0, none⟩) p.ins.length cap, .int .i64 i] W fun e w' => e = .returned (.bool bm) ∧ w' = W) := fun W hW => by
    have := contains_any g cap p.ins.reverse i W (by simpa using hn0) (by simp; omega) (fun j hj => (((h.up hW).oi.cellAt j (by simpa using hj))).trans (ics_get _ j hj)) bm (by rw [hbm]; simp)
    simpa using this
  have HC : Hid (∀ W, Below w.heap.size w W → W.cell? ⟨P, 0, none⟩ = some (.string (mkB L)) ∧ W.cell? ⟨P, 1, none⟩ = some (.int .i64 p.pos) ∧ W.cell? ⟨P, 3, none⟩ = some (.slice (some ⟨g, 0, none⟩) p.ins.length cap) ∧ W.cell? ⟨P, 4, none⟩ = some (.int .i64 p.opn)) := fun W hW => ⟨(h.up hW).c0, (h.up hW).c1, (h.up hW).c3, (h.up hW).c4⟩
  have hru : refu L p i = if beg (L.drop p.pos) = false ∨ (isCls (L.getD p.pos 0) = true ∧ p.opn = 0) then 1 else if i < p.top ∧ bm = false then 4 else if isDg (L.getD p.pos 0) = true ∧ noInt (L.drop p.pos) = true then 3 else if (isOpn (L.getD p.pos 0) = true ∧ p.opn = 30) ∨ (p.top < i ∧ 30 < p.ins.length) then 2 else 0 := by
    unfold refu
    simp only [at_drop]
    have : (i ∉ p.ins) ↔ bm = false := by rw [← hbm]; simp
    simp only [this]
  obtain ⟨R, hR⟩ : ∃ R, R = refu L p i := ⟨_, rfl⟩
  rw [← hR]
  rw [← hR] at hru
  have hsz := mk_size L
  have hs0 : p.pos < (mkB L).size := by rw [hsz]; exact hp
  have hg := mk_get L p.pos hs0
  have hpi : (p.pos : Int) < (L.length : Int) := by omega
  have hk0 : Below w.heap.size w w := Below.refl _ _
  obtain ⟨d0, d1, d3, d4⟩ := HC.out _ hk0
  generalize mkB (L.drop p.pos) = rs at *
  generalize beg (L.drop p.pos) = b1 at *
  generalize noInt (L.drop p.pos) = b4 at *
  generalize isCls (L.getD p.pos 0) = b2 at *
  generalize isDg (L.getD p.pos 0) = b3 at *
  generalize isOpn (L.getD p.pos 0) = b5 at *
  generalize L.getD p.pos 0 = c0 at *
  generalize p.top = tp at *
  generalize p.ins.length = nn at *
  generalize p.opn = oo at *
  generalize p.pos = xx at *
  have HRU : Hid (R = if b1 = false ∨ (b2 = true ∧ oo = 0) then 1 else if i < tp ∧ bm = false then 4 else if b3 = true ∧ b4 = true then 3 else if (b5 = true ∧ oo = 30) ∨ (tp < i ∧ 30 < nn) then 2 else 0) := hru
  clear h hr hbm hru hrl hrl2 hg1 hg2 hR
  go_enter Tryz.func39, Tryz.ntmps39
  go_wp2
  go_quiet (fail)
  have hk1 : Below w.heap.size w (w.drewN nq) := below_drewN hk0 nq
  obtain ⟨e0, e1, e3, e4⟩ := HC.out _ hk1
  go_wp2_with (first
    | (go_at_call 60; refine (HRe.out _ (by assumption)).mono ?_; rintro e w1 ⟨rfl, hkr⟩; obtain ⟨r0, r1, r3, r4⟩ := HC.out _ hkr)
    | (go_at_call 59; refine (HBe.out _).mono ?_; rintro e w' ⟨rfl, rfl⟩)
    | (go_at_call 61; refine (HCl.out _).mono ?_; rintro e w' ⟨rfl, rfl⟩)
    | (go_at_call 65; refine (HOp.out _).mono ?_; rintro e w' ⟨rfl, rfl⟩)
    | (go_at_call 63; refine (HDg.out _).mono ?_; rintro e w' ⟨rfl, rfl⟩)
    | (go_at_call 41; refine (HIn.out _ (by assumption)).mono ?_; rintro e w2 ⟨rfl, hki⟩; obtain ⟨s0, s1, s3, s4⟩ := HC.out _ hki)
    | (go_at_call 62; refine (HCo.out _ (by assumption)).mono ?_; rintro e w' ⟨rfl, rfl⟩)
    | (go_at_call 64; refine (HNI.out (by assumption) _ (by assumption)).mono ?_; rintro e w3 ⟨rfl, hkn⟩; obtain ⟨t0, t1, t3, t4⟩ := HC.out _ hkn)
    | (go_at_call 42; refine (HGu.out _ (by assumption) _).mono ?_; rintro e w' ⟨rfl, rfl⟩)
    | fail)
  all_goals have HRV := HRU.out
  all_goals clear HRU
  all_goals first
    | (exfalso; have h1 : (!b1) = true := (by assumption); have h2 : (!b1) = false := (by assumption); rw [h1] at h2; cases h2)
    | (have hR : R = 0 := rv0 HRV (by assumption) (by first | exact Or.inl (by assumption) | exact Or.inr (by assumption)) (by first | exact Or.inl (by assumption) | exact Or.inr (by assumption)) (by first | exact Or.inl (by assumption) | exact Or.inr (by assumption)) (by first | exact Or.inl (by assumption) | exact Or.inr (by assumption)) (by first | exact Or.inl (by assumption) | exact Or.inr (by assumption)); subst hR; go_end0; exact ⟨⟨fun _ => rfl, fun h => absurd rfl h⟩, by assumption⟩)
    | (have hR : R = _ := rv1a HRV (by assumption); subst hR; exact ⟨rfl, ⟨fun h => (by cases h), fun _ => rfl⟩, by assumption⟩)
    | (have hR : R = _ := rv1b HRV (by assumption) (by assumption); subst hR; exact ⟨rfl, ⟨fun h => (by cases h), fun _ => rfl⟩, by assumption⟩)
    | (have hR : R = _ := rv4 HRV (by assumption) (by first | exact Or.inl (by assumption) | exact Or.inr (by assumption)) (by assumption) (by assumption); subst hR; exact ⟨rfl, ⟨fun h => (by cases h), fun _ => rfl⟩, by assumption⟩)
    | (have hR : R = _ := rv3 HRV (by assumption) (by first | exact Or.inl (by assumption) | exact Or.inr (by assumption)) (by first | exact Or.inl (by assumption) | exact Or.inr (by assumption)) (by assumption) (by assumption); subst hR; exact ⟨rfl, ⟨fun h => (by cases h), fun _ => rfl⟩, by assumption⟩)
    | (have hR : R = _ := rv2a HRV (by assumption) (by first | exact Or.inl (by assumption) | exact Or.inr (by assumption)) (by first | exact Or.inl (by assumption) | exact Or.inr (by assumption)) (by first | exact Or.inl (by assumption) | exact Or.inr (by assumption)) (by assumption) (by assumption); subst hR; exact ⟨rfl, ⟨fun h => (by cases h), fun _ => rfl⟩, by assumption⟩)
    | (have hR : R = _ := rv2b HRV (by assumption) (by first | exact Or.inl (by assumption) | exact Or.inr (by assumption)) (by first | exact Or.inl (by assumption) | exact Or.inr (by assumption)) (by first | exact Or.inl (by assumption) | exact Or.inr (by assumption)) (by assumption) (by assumption); subst hR; exact ⟨rfl, ⟨fun h => (by cases h), fun _ => rfl⟩, by assumption⟩)
end Go.Proofs.YtheiijnpggabkaaGreatDoor

/- The parser's small methods. -/
namespace Go.Proofs.YtheiijnpggabkaaGreatDoor
open Go.RowKit Go.Shelf

abbrev pt (b : Nat) : Value := .pointer (some ⟨b, 0, none⟩)
theorem tcs_at (t : Tk) (r : List Tk) : (tcs (t :: r))[0]? = some (.int .i64 t.kind) ∧ (tcs (t :: r))[1]? = some (.string (mkB t.text)) ∧ (tcs (t :: r))[2]? = some (.int .i64 t.num) ∧ (tcs (t :: r))[3]? = some (.int .i64 t.pos) := ⟨rfl, rfl, rfl, rfl⟩

theorem PsA.cells {P T : Nat} {w : World} {p : Ps} (h : PsA P T w p) : ∃ a c, w.cell? ⟨P, 0, none⟩ = some (.slice a p.toks.length c) ∧ w.cell? ⟨P, 1, none⟩ = some (.int .i64 p.fin) ∧ w.cell? ⟨P, 2, none⟩ = some (.int .i64 p.blk) ∧ w.cell? ⟨P, 3, none⟩ = some (.bool p.inD) ∧ w.cell? ⟨P, 4, none⟩ = some (.int .i64 p.deep) ∧
    ∀ t r, p.toks = t :: r → ∃ o, a = some ⟨T, o, none⟩ ∧ w.cell? ⟨T, o, none⟩ = some (.int .i64 t.kind) ∧ w.cell? ⟨T, o + 1, none⟩ = some (.string (mkB t.text)) ∧ w.cell? ⟨T, o + 2, none⟩ = some (.int .i64 t.num) ∧ w.cell? ⟨T, o + 3, none⟩ = some (.int .i64 t.pos) := by
  obtain ⟨a, c, o, h1, h2, h3, h4, h5, h6, h7, h8⟩ := h
  refine ⟨a, c, by rw [Lib.cell_of_heap h1]; rfl, by rw [Lib.cell_of_heap h1]; rfl, by rw [Lib.cell_of_heap h1]; rfl, by rw [Lib.cell_of_heap h1]; rfl, by rw [Lib.cell_of_heap h1]; rfl, fun t r hp => ?_⟩
  rw [hp] at h4 h5
  refine ⟨o, h4 (by simp), ?_, ?_, ?_, ?_⟩
  · have := h5 0 (by simp); rwa [(tcs_at t r).1] at this
  · have := h5 1 (by simp; omega); rwa [(tcs_at t r).2.1] at this
  · have := h5 2 (by simp; omega); rwa [(tcs_at t r).2.2.1] at this
  · have := h5 3 (by simp; omega); rwa [(tcs_at t r).2.2.2] at this
theorem fld0 (a b c d : Value) (w : World) : (Instr.field 32 (.agg #[a, b, c, d]) 0).run Tryz.prog w = .ok a w := by
  simp [Instr.field, asAgg, run_underlying Tryz.underlying32, go_sem, Result.andThen]
theorem fld1 (a b c d : Value) (w : World) : (Instr.field 32 (.agg #[a, b, c, d]) 1).run Tryz.prog w = .ok b w := by
  simp [Instr.field, asAgg, run_underlying Tryz.underlying32, go_sem, Result.andThen]
theorem fld2 (a b c d : Value) (w : World) : (Instr.field 32 (.agg #[a, b, c, d]) 2).run Tryz.prog w = .ok c w := by
  simp [Instr.field, asAgg, run_underlying Tryz.underlying32, go_sem, Result.andThen]
theorem fld3 (a b c d : Value) (w : World) : (Instr.field 32 (.agg #[a, b, c, d]) 3).run Tryz.prog w = .ok d w := by
  simp [Instr.field, asAgg, run_underlying Tryz.underlying32, go_sem, Result.andThen]
attribute [local go_sem ↓] fld0 fld1 fld2 fld3
theorem alB (w : World) (o : Obj) : Below w.heap.size w (w.alloc o) := (Below.refl _ w).alloc (Nat.le_refl _) _
abbrev tz : Obj := .cells #[.int .i64 0, .string ⟨#[]⟩, .int .i64 0, .int .i64 0] 32

set_option maxHeartbeats 2000000 in
set_option maxRecDepth 100000 in
theorem next_any {P T : Nat} {w : World} {p : Ps} (h : PsA P T w p) :
    Calls Tryz.prog 73 #[pt P] w fun e w' => e = .returned (.agg #[.int .i64 p.nx.kind, .string (mkB p.nx.text), .int .i64 p.nx.num, .int .i64 p.nx.pos]) ∧ Below w.heap.size w w' := by
  have hW := h.up (alB w tz)
  obtain ⟨a, c, c0, c1, _, _, _, hc⟩ := hW.cells
  clear hW
  cases hp : p.toks with
  | nil =>
    have hn : p.nx = ⟨0, [], 0, p.fin⟩ := by unfold Ps.nx; rw [hp]
    rw [hn]
    rw [hp] at c0
    clear hc h
    go_enter Tryz.func73, Tryz.ntmps73
    go_wp2
    refine bodyPost_ret (v := .agg #[.int .i64 (⟨0, [], 0, p.fin⟩ : Tk).kind, .string (mkB (⟨0, [], 0, p.fin⟩ : Tk).text), .int .i64 (⟨0, [], 0, p.fin⟩ : Tk).num, .int .i64 (⟨0, [], 0, p.fin⟩ : Tk).pos]) (by simp [results, Tryz.results73, go_sem, mkB]) rfl ⟨rfl, alB w _⟩
  | cons t r =>
    have hn : p.nx = t := by unfold Ps.nx; rw [hp]
    rw [hn]
    rw [hp] at c0
    obtain ⟨o, rfl, d0, d1, d2, d3⟩ := hc t r hp
    rw [List.length_cons] at c0
    clear hc h
    go_enter Tryz.func73, Tryz.ntmps73
    go_wp2
    refine bodyPost_ret (v := .agg #[.int .i64 t.kind, .string (mkB t.text), .int .i64 t.num, .int .i64 t.pos]) (by simp [results, Tryz.results73, go_sem, mkB]) rfl ⟨rfl, alB w _⟩
set_option maxHeartbeats 2000000 in
set_option maxRecDepth 100000 in
theorem pGiveUp_any {P T : Nat} {w : World} {p : Ps} (h : PsA P T w p) (k : Nat) :
    Calls Tryz.prog 110 #[pt P, .int .i64 k] w fun e w' => e = PF k p.nx.pos ∧ Below w.heap.size w w' := by
  have HN := next_any h
  clear h
  generalize p.nx = t at *
  go_enter Tryz.func110, Tryz.ntmps110
  go_wp2_with fail
  refine HN.mono ?_
  rintro e w1 ⟨rfl, hb⟩
  go_wp2
  exact ⟨rfl, rfl, hb⟩

set_option maxHeartbeats 2000000 in
set_option maxRecDepth 100000 in
theorem giveUpIf_any {P T : Nat} {w : World} {p : Ps} (h : PsA P T w p) (b : Bool) (k : Nat) :
    Calls Tryz.prog 78 #[pt P, .bool b, .int .i64 k] w fun e w' => (e = bif b then PF k p.nx.pos else .returned (.tuple #[])) ∧ Below w.heap.size w w' := by
  have HN := pGiveUp_any h k
  clear h
  generalize p.nx = t at *
  go_enter Tryz.func78, Tryz.ntmps78
  cases b with
  | true =>
    go_wp2_with fail
    refine HN.mono ?_
    rintro e w1 ⟨rfl, hb⟩
    exact ⟨rfl, rfl, hb⟩
  | false =>
    clear HN
    go_wp2
    go_end0
    exact ⟨rfl, Below.refl _ _⟩

set_option maxHeartbeats 2000000 in
set_option maxRecDepth 100000 in
theorem sees2_any {P T : Nat} {w : World} {p : Ps} (h : PsA P T w p) (k : Nat) :
    Calls Tryz.prog 85 #[pt P, .int .i64 k] w fun e w' => e = .returned (.bool (p.nx.kind == k)) ∧ Below w.heap.size w w' := by
  have HN := next_any h
  clear h
  generalize p.nx = t at *
  have hq : (((t.kind : Nat) : Int) == (k : Int)) = (t.kind == k) := by rw [Bool.eq_iff_iff]; simp; omega
  go_enter Tryz.func85, Tryz.ntmps85
  go_wp2_with fail
  refine HN.mono ?_
  rintro e w1 ⟨rfl, hb⟩
  go_wp2
  go_ret
  exact ⟨rfl, hb⟩

/-- Texts that are looked through: in a block that is not the parser's. -/
def SgA (P : Nat) (w : World) (v : Value) (l : List (List UInt8)) : Prop := ∃ ao c, v = .slice ao l.length c ∧ l.length ≤ 1000000 ∧ (0 < l.length → ∃ g, ao = some ⟨g, 0, none⟩ ∧ g < w.heap.size ∧ g ≠ P ∧ ∀ j (hj : j < l.length), w.cell? ⟨g, j, none⟩ = some (.string (mkB l[j])))
theorem SgA.keep {P : Nat} {w w' : World} {v : Value} {l : List (List UInt8)} (h : SgA P w v l) (hk : KP P w w') : SgA P w' v l := by
  obtain ⟨ao, c, hv, hl, hg⟩ := h
  refine ⟨ao, c, hv, hl, fun h0 => ?_⟩
  obtain ⟨g, h1, h2, h3, h4⟩ := hg h0
  refine ⟨g, h1, Nat.lt_of_lt_of_le h2 hk.size, h3, fun j hj => ?_⟩
  rw [← h4 j hj]
  simp [World.cell?, hk.blk g h2 h3]

set_option maxHeartbeats 2000000 in
set_option maxRecDepth 100000 in
theorem containsT_any {P : Nat} {w : World} {v : Value} {l : List (List UInt8)} (h : SgA P w v l) (x : List UInt8) :
    Calls Tryz.prog 102 #[v, .string (mkB x)] w fun e w' => e = .returned (.bool (l.contains x)) ∧ w' = w := by
  obtain ⟨ao, c, rfl, hn, hm⟩ := h
  have HM : Hid (0 < l.length → ∃ g, ao = some ⟨g, 0, none⟩ ∧ g < w.heap.size ∧ g ≠ P ∧ ∀ j (hj : j < l.length), w.cell? ⟨g, j, none⟩ = some (.string (mkB l[j]))) := hm
  have hn1 : (l.length : Int) ≤ 1000000 := by omega
  obtain ⟨b, hb⟩ : ∃ b, b = l.contains x := ⟨_, rfl⟩
  have HB : Hid (b = true ↔ x ∈ l) := by show _ ↔ _; rw [hb]; simp
  rw [← hb]
  have HI : Hid (Calls Tryz.prog 125 #[.slice ao l.length c, .string (mkB x)] w fun e w' => IdxP b e ∧ w' = w) := by
    clear hm hn hb
    go_enter Tryz.func125, Tryz.ntmps125
    go_wp2
    go_loop [8] (fun i => ∃ k : Nat, k ≤ l.length ∧ i = .int .i64 k ∧ Hid (x ∉ l.take k)) (fun i => l.length - (intOf i).toNat)
    case atStart => exact ⟨0, Nat.zero_le _, rfl, by show _ ∉ _; simp⟩
    case round =>
      obtain ⟨k, hk, rfl, HK⟩ := hrel
      by_cases hlt : k < l.length
      · have hki : (k : Int) < (l.length : Int) := by omega
        obtain ⟨g, rfl, _, _, hcc⟩ := HM.out (by omega)
        have ck := hcc k hlt
        by_cases he : x = l[k]
        · have hq : ((mkB x).toList == (mkB l[k]).toList) = true := by rw [he]; simp
          have HBT : Hid (b = true) := HB.out.2 (by rw [he]; exact List.getElem_mem hlt)
          generalize l[k] = y at ck hq
          clear he hcc
          go_wp2
          go_ret
          exact ⟨⟨(k : Int), fun h => (by rw [HBT.out] at h; cases h), fun _ => by omega, rfl⟩, rfl⟩
        · have hq : ((mkB x).toList == (mkB l[k]).toList) = false := by rw [mk_toList, mk_toList, beq_eq_false_iff_ne]; exact he
          have HN : Hid (x ∉ l.take (k + 1)) := by
            show _ ∉ _
            rw [List.take_succ_eq_append_getElem hlt, List.mem_append]
            rintro (h | h)
            · exact HK.out h
            · simp at h; exact he h
          generalize l[k] = y at ck hq
          clear he hcc
          go_wp2
          refine ⟨⟨k + 1, by omega, by go_num, HN⟩, by simp [intOf]; omega⟩
      · obtain rfl : k = l.length := by omega
        have HBF : Hid (¬ b = true) := fun h => by
          have := HK.out
          rw [List.take_length] at this
          exact this (HB.out.1 h)
        go_wp2
        go_ret
        exact ⟨⟨-1, fun _ => rfl, fun h => absurd h HBF.out, rfl⟩, rfl⟩
  clear hm hb HB HM
  go_enter Tryz.func102, Tryz.ntmps102
  go_wp2_with fail
  refine HI.out.mono ?_
  rintro e w' ⟨⟨z, hz1, hz2, rfl⟩, rfl⟩
  cases b with
  | true =>
    have hz3 := hz2 rfl
    clear hz1 hz2
    go_wp2
    go_ret
    exact ⟨ret_b (by simp), rfl⟩
  | false =>
    have hz3 : z = -1 := hz1 rfl
    subst hz3
    clear hz1 hz2
    go_wp2
    go_ret
    exact ⟨rfl, rfl⟩
end Go.Proofs.YtheiijnpggabkaaGreatDoor

/- The parser sees signs, and takes tokens. -/
namespace Go.Proofs.YtheiijnpggabkaaGreatDoor
open Go.RowKit Go.Shelf
attribute [local go_sem ↓] fld0 fld1 fld2 fld3

set_option maxHeartbeats 4000000 in
set_option maxRecDepth 100000 in
theorem isSign_any {P : Nat} {w : World} (t : Tk) {v : Value} {l : List (List UInt8)} (h : SgA P w v l) :
    Calls Tryz.prog 72 #[.agg #[.int .i64 t.kind, .string (mkB t.text), .int .i64 t.num, .int .i64 t.pos], v] w fun e w' => e = .returned (.bool (isS t l)) ∧ Below w.heap.size w w' := by
  have HC : Hid (Calls Tryz.prog 102 #[v, .string (mkB t.text)] (w.alloc (.cells #[.int .i64 t.kind, .string (mkB t.text), .int .i64 t.num, .int .i64 t.pos] 32)) fun e w' => e = .returned (.bool (l.contains t.text)) ∧ w' = w.alloc (.cells #[.int .i64 t.kind, .string (mkB t.text), .int .i64 t.num, .int .i64 t.pos] 32)) := containsT_any (h.keep (KP.of_below (alB w _))) _
  have HB : Hid (Below w.heap.size w (w.alloc (.cells #[.int .i64 t.kind, .string (mkB t.text), .int .i64 t.num, .int .i64 t.pos] 32))) := alB w _
  have hq4 : (((t.kind : Nat) : Int) == (4 : Int)) = (t.kind == 4) := by rw [Bool.eq_iff_iff]; simp; omega
  have hq5 : (((t.kind : Nat) : Int) == (5 : Int)) = (t.kind == 5) := by rw [Bool.eq_iff_iff]; simp; omega
  unfold isS
  clear h
  generalize (t.kind == 4) = b4 at *
  generalize (t.kind == 5) = b5 at *
  generalize l.contains t.text = bc at *
  cases b4 <;> cases b5
  all_goals
    go_enter Tryz.func72, Tryz.ntmps72
    go_wp2_with (go_at_call 102; refine HC.out.mono ?_; rintro e w1 ⟨rfl, rfl⟩)
    go_ret
    exact ⟨rfl, HB.out⟩

set_option maxHeartbeats 2000000 in
set_option maxRecDepth 100000 in
theorem seesSign_any {P T : Nat} {w : World} {p : Ps} (h : PsA P T w p) {v : Value} {l : List (List UInt8)} (hs : SgA P w v l) :
    Calls Tryz.prog 44 #[pt P, v] w fun e w' => e = .returned (.bool (p.sees l)) ∧ Below w.heap.size w w' := by
  have HN := next_any h
  have HI : Hid (∀ W, Below w.heap.size w W → Calls Tryz.prog 72 #[.agg #[.int .i64 p.nx.kind, .string (mkB p.nx.text), .int .i64 p.nx.num, .int .i64 p.nx.pos], v] W fun e w' => e = .returned (.bool (p.sees l)) ∧ Below w.heap.size w w') := fun W hW => (isSign_any p.nx (hs.keep (KP.of_below hW))).mono fun e w' ⟨a, b⟩ => ⟨a, hW.trans (b.mono hW.size)⟩
  clear h hs
  generalize p.nx = t at *
  generalize p.sees l = b at *
  go_enter Tryz.func44, Tryz.ntmps44
  go_wp2_with fail
  refine HN.mono ?_
  rintro e w1 ⟨rfl, hb⟩
  go_wp2_with fail
  refine (HI.out _ hb).mono ?_
  rintro e w2 ⟨rfl, hb2⟩
  go_wp2
  go_ret
  exact ⟨rfl, hb2⟩

theorem there_of {w : World} {b : Nat} {cs : Array Value} {ty : TypeId} (h : w.heap[b]? = some (.cells cs ty (0, 0))) : w.there b 0 cs.size := fun j hj => by
  rw [Nat.zero_add]
  refine ⟨?_, Lib.frozen_of_heap h j⟩
  rw [Lib.cell_of_heap h]
  simp [hj]
/-- A whole value goes into a variable, and comes back. -/
theorem stN {w : World} {R : Nat} {cs0 : Array Value} {ty : TypeId} (hr : w.heap[R]? = some (.cells cs0 ty (0, 0))) {c : List Value} (hc : c.length = cs0.size) (hi : (Tryz.prog.info? ty).map (·.size) = some c.length) (h1 : ∀ v ∈ c, v.oneCell' = true) {d : TypeDesc} (hu : Tryz.prog.underlying ty = some d) (hd : d.isRow = true) :
    (Instr.storeAt ty (.pointer (some ⟨R, 0, none⟩)) (.agg c.toArray)).run Tryz.prog w = .ok () (w.setCells R 0 c) ∧ (loadVar ty ⟨R, 0, none⟩).run Tryz.prog (w.setCells R 0 c) = .ok (.agg c.toArray) (w.setCells R 0 c) := by
  have ht : w.there R 0 c.length := by rw [hc]; exact there_of hr
  exact ⟨run_storeAt_mid w R 0 ty c.toArray (by simpa using ht) (by simpa using hi) (all_oneCell_toArray h1), run_loadVar_mid _ R 0 ty c d (World.rangeAt_setCells_same _ _ _ _ ht) hu hd hi⟩
theorem res_one {fn : Func} {p : Tmp} {ty : TypeId} {P : Program} {b : Nat} {v : Value} (h : fn.results = #[.cell p ty]) (tmps : Array Value) (w : World) (hp : tmps.getD p undef = .pointer (some ⟨b, 0, none⟩)) (hl : (loadVar ty ⟨b, 0, none⟩).run P w = .ok v w) : (results fn tmps).run P w = .ok v w := by
  have hp2 : tmps[p]?.getD undef = .pointer (some ⟨b, 0, none⟩) := by simpa using hp
  simp [results, h, hp2, hl, asAddr]
theorem size_sets (b : Nat) : ∀ (vs : List Value) (o : Nat) (w : World), (w.setCells b o vs).heap.size = w.heap.size
  | [], _, _ => rfl
  | v :: vs, o, w => by
    show ((w.setCell ⟨b, o, none⟩ v).setCells b (o + 1) vs).heap.size = _
    rw [size_sets b vs]
    simp [World.setCell]
theorem heap_sets (b : Nat) : ∀ (vs : List Value) (o : Nat) (w : World) (g : Nat), g ≠ b → (w.setCells b o vs).heap[g]? = w.heap[g]?
  | [], _, _, _, _ => rfl
  | v :: vs, o, w, g, hg => by
    show ((w.setCell ⟨b, o, none⟩ v).setCells b (o + 1) vs).heap[g]? = _
    rw [heap_sets b vs _ _ g hg]
    exact Below.heap_setCell w ⟨b, o, none⟩ v g hg
theorem bel_sets {B b : Nat} (hb : B ≤ b) : ∀ (vs : List Value) (o : Nat) {w w' : World}, Below B w w' → Below B w (w'.setCells b o vs)
  | [], _, _, _, h => h
  | v :: vs, o, _, _, h => bel_sets hb vs (o + 1) (h.setCell (p := ⟨b, o, none⟩) hb v)
/-- What is new to w may be written. -/
theorem KP.sets {P : Nat} {w w1 : World} (h : KP P w w1) {R : Nat} (hR : w.heap.size ≤ R) (c : List Value) : KP P w (w1.setCells R 0 c) := by
  have hb : Below w.heap.size w1 (w1.setCells R 0 c) := bel_sets hR c 0 (Below.refl _ _)
  exact ⟨hb.os.trans h.os, hb.tape.trans h.tape, hb.output.trans h.output, by rw [size_sets]; exact h.size, fun g hg hp => (hb.block g hg).trans (h.blk g hg hp)⟩
theorem PsA.sets {P T : Nat} {w : World} {p : Ps} (h : PsA P T w p) {R : Nat} (h1 : P < R) (h2 : T < R) (c : List Value) : PsA P T (w.setCells R 0 c) p := h.keep (heap_sets R c 0 w P (by omega)) (heap_sets R c 0 w T (by omega))

/-- Signs that are written there. -/
theorem SgA.new (P : Nat) (w : World) (l : List (List UInt8)) (hl : l.length ≤ 1000000) (hP : P < w.heap.size) : SgA P (w.alloc (.cells (l.map fun x => .string (mkB x)).toArray 9)) (.slice (some ⟨w.heap.size, 0, none⟩) l.length l.length) l := by
  refine ⟨_, _, rfl, hl, fun _ => ⟨w.heap.size, rfl, by rw [World.size_alloc]; omega, by omega, fun j hj => ?_⟩⟩
  rw [Lib.cell_of_heap (heap_alloc_new w _)]
  simp [hj]

theorem tl_slice (T o n c : Nat) (h : n + 1 ≤ c) : ∃ a', (∀ W, (Instr.slice 25 (.slice (some ⟨T, o, none⟩) (n + 1) c) (some (.int .i64 1)) none none).run Tryz.prog W = .ok (.slice a' n (c - 1)) W) ∧ (0 < n → a' = some ⟨T, o + 4, none⟩) := by
  obtain ⟨i0, hi, hz0, hz1, hz2⟩ := info_p infT
  by_cases hc : c = 1
  · subst hc
    obtain rfl : n = 0 := by omega
    exact ⟨some ⟨T, o, none⟩, fun W => by simp [Instr.slice, run_underlying Tryz.underlying25, go_sem, sizeOf, typeInfo, hi, hz1], fun h => by omega⟩
  · exact ⟨some ⟨T, o + 4, none⟩, fun W => by
      have h9 : (1 : Int) ≤ (n : Int) + 1 := by omega
      simp [Instr.slice, run_underlying Tryz.underlying25, go_sem, sizeOf, typeInfo, hi, hz1, h9, hc], fun _ => rfl⟩
theorem PsA.take {P T : Nat} {w : World} {p : Ps} (h : PsA P T w p) {t : Tk} {r : List Tk} (hp : p.toks = t :: r) : ∃ o c a', w.cell? ⟨P, 0, none⟩ = some (.slice (some ⟨T, o, none⟩) (r.length + 1) c) ∧ w.frozen? ⟨P, 0, none⟩ = false ∧
    (∀ W, (Instr.slice 25 (.slice (some ⟨T, o, none⟩) (r.length + 1) c) (some (.int .i64 1)) none none).run Tryz.prog W = .ok (.slice a' r.length (c - 1)) W) ∧ PsA P T (w.setCell ⟨P, 0, none⟩ (.slice a' r.length (c - 1))) p.adv := by
  obtain ⟨a, c, o, h1, h2, h3, h4, h5, h6, h7, h8⟩ := h
  rw [hp] at h1 h2 h4 h5
  obtain rfl := h4 (by simp)
  obtain ⟨a', q1, q2⟩ := tl_slice T o r.length c h2
  refine ⟨o, c, a', by rw [Lib.cell_of_heap h1]; rfl, Lib.frozen_of_heap h1 0, q1, a', c - 1, o + 4, ?_⟩
  have e : p.adv.toks = r := by unfold Ps.adv; rw [hp]; rfl
  rw [e]
  rw [List.length_cons] at h2 h5
  refine ⟨?_, by omega, by omega, q2, fun j hj => ?_, h6, by simp [World.setCell]; exact h7, h8⟩
  · rw [Go.Joins.block_setCell h1]; rfl
  · have := h5 (j + 4) (by omega)
    rw [show (tcs (t :: r))[j + 4]? = (tcs r)[j]? from rfl] at this
    rw [← this]
    have e2 := Below.heap_setCell w ⟨P, 0, none⟩ (.slice a' r.length (c - 1)) T h6
    simp [World.cell?, e2, Nat.add_comm, Nat.add_left_comm]
theorem PsA.ltT {P T : Nat} {w : World} {p : Ps} (h : PsA P T w p) : T < w.heap.size := by obtain ⟨_, _, _, _, _, _, _, _, _, h7, _⟩ := h; exact h7
theorem sees_cons {p : Ps} {l : List (List UInt8)} (h : p.sees l = true) : ∃ t r, p.toks = t :: r := by
  cases hp : p.toks with
  | nil => unfold Ps.sees Ps.nx isS at h; rw [hp] at h; simp at h
  | cons t r => exact ⟨t, r, rfl⟩
theorem adv_of {p : Ps} {t : Tk} {r : List Tk} (hp : p.toks = t :: r) : p.nx = t := by unfold Ps.nx; rw [hp]

set_option maxHeartbeats 4000000 in
set_option maxRecDepth 100000 in
theorem passSign_any {P T : Nat} {w : World} {p : Ps} (h : PsA P T w p) (x : List UInt8) :
    Calls Tryz.prog 77 #[pt P, .string (mkB x)] w fun e w' => e = .returned (.bool (p.sees [x])) ∧ KP P w w' ∧ PsA P T w' (bif p.sees [x] then p.adv else p) := by
  have hPl := h.lt
  have hTl := h.ltT
  have hW := h.up (alB w (.cells #[.string (mkB x)] 9))
  have HS : Hid (Calls Tryz.prog 44 #[pt P, .slice (some ⟨w.heap.size, 0, none⟩) 1 1] (w.alloc (.cells #[.string (mkB x)] 9)) fun e w' => e = .returned (.bool (p.sees [x])) ∧ PsA P T w' p ∧ KP P w w') := by
    refine (seesSign_any hW (SgA.new P w [x] (by simp) hPl)).mono ?_
    rintro e w' ⟨a, b⟩
    exact ⟨a, hW.up b, (KP.of_below (alB w _)).trans (KP.of_below b)⟩
  clear h hW
  cases hb : p.sees [x] with
  | false =>
    rw [hb] at HS
    go_enter Tryz.func77, Tryz.ntmps77
    go_wp2_with (go_at_call 44; refine HS.out.mono ?_; rintro e w1 ⟨rfl, hb1⟩)
    go_ret
    exact ⟨rfl, hb1.2, hb1.1⟩
  | true =>
    rw [hb] at HS
    obtain ⟨t, r, hp⟩ := sees_cons hb
    go_enter Tryz.func77, Tryz.ntmps77
    go_wp2_with fail
    refine HS.out.mono ?_
    rintro e w1 ⟨rfl, h1, hk⟩
    obtain ⟨o, c, a', c0, f0, hsl, hT⟩ := h1.take hp
    have HT : Hid (PsA P T (w1.setCell ⟨P, 0, none⟩ (.slice a' r.length (c - 1))) p.adv) := hT
    have HK : Hid (KP P w w1) := hk
    clear hT h1 hk hp HS
    go_wp2
    go_ret
    exact ⟨rfl, HK.out.setCell 0 _, HT.out⟩

set_option maxHeartbeats 4000000 in
set_option maxRecDepth 100000 in
theorem takeSign_any {P T : Nat} {w : World} {p : Ps} (h : PsA P T w p) (x : List UInt8) {z : Except Ft (Unit × Ps)} (hz : tkS x p = some z) :
    Calls Tryz.prog 74 #[pt P, .string (mkB x)] w (PoA P T (fun _ _ v => v = .tuple #[]) w z) := by
  have HS := passSign_any h x
  clear h
  unfold tkS at hz
  cases hb : p.sees [x] with
  | false =>
    rw [hb] at HS hz
    cases hz
    go_enter Tryz.func74, Tryz.ntmps74
    go_wp2_with fail
    refine HS.mono ?_
    rintro e w1 ⟨rfl, hk, h1⟩
    have HG := giveUpIf_any h1 true 1
    go_wp2_with fail
    refine HG.mono ?_
    rintro e w2 ⟨rfl, hb2⟩
    exact ⟨rfl, rfl, hk.trans (KP.of_below hb2)⟩
  | true =>
    rw [hb] at HS hz
    cases hz
    go_enter Tryz.func74, Tryz.ntmps74
    go_wp2_with fail
    refine HS.mono ?_
    rintro e w1 ⟨rfl, hk, h1⟩
    have HG := giveUpIf_any h1 false 1
    go_wp2_with fail
    refine HG.mono ?_
    rintro e w2 ⟨rfl, hb2⟩
    go_wp2
    go_end0
    exact ⟨_, rfl, rfl, h1.up hb2, hk.trans (KP.of_below hb2)⟩

set_option maxHeartbeats 4000000 in
set_option maxRecDepth 100000 in
theorem take2_any {P T : Nat} {w : World} {p : Ps} (h : PsA P T w p) (k : Nat) (hk0 : k ≠ 0) {z : Except Ft (Tk × Ps)} (hz : tkK k p = some z) :
    Calls Tryz.prog 49 #[pt P, .int .i64 k] w (PoA P T (fun _ t v => v = .agg #[.int .i64 t.kind, .string (mkB t.text), .int .i64 t.num, .int .i64 t.pos]) w z) := by
  have hPl := h.lt
  have hTl := h.ltT
  have hW := h.up (alB w tz)
  have HS : Hid (Calls Tryz.prog 85 #[pt P, .int .i64 k] (w.alloc tz) fun e w' => e = .returned (.bool (p.nx.kind == k)) ∧ PsA P T w' p ∧ KP P w w' ∧ w'.heap[w.heap.size]? = some tz) := by
    refine (sees2_any hW k).mono ?_
    rintro e w' ⟨a, b⟩
    exact ⟨a, hW.up b, (KP.of_below (alB w _)).trans (KP.of_below b), (b.block _ (by rw [World.size_alloc]; omega)).trans (heap_alloc_new w _)⟩
  clear h hW
  unfold tkK at hz
  cases hb : p.nx.kind == k with
  | false =>
    rw [hb] at HS hz
    cases hz
    go_enter Tryz.func49, Tryz.ntmps49
    go_wp2_with fail
    refine HS.out.mono ?_
    rintro e w1 ⟨rfl, h1, hk, _⟩
    have HG := giveUpIf_any h1 true 1
    go_wp2_with fail
    refine HG.mono ?_
    rintro e w2 ⟨rfl, hb2⟩
    exact ⟨rfl, rfl, hk.trans (KP.of_below hb2)⟩
  | true =>
    rw [hb] at HS hz
    cases hz
    have hne : ∃ t r, p.toks = t :: r := by
      cases hp : p.toks with
      | nil => unfold Ps.nx at hb; rw [hp] at hb; simp at hb; omega
      | cons t r => exact ⟨t, r, rfl⟩
    obtain ⟨t, r, hp⟩ := hne
    rw [adv_of hp] at *
    go_enter Tryz.func49, Tryz.ntmps49
    go_wp2_with fail
    refine HS.out.mono ?_
    rintro e w1 ⟨rfl, h1, hk, hr⟩
    have HG := giveUpIf_any h1 false 1
    go_wp2_with fail
    refine HG.mono ?_
    rintro e w2 ⟨rfl, hb2⟩
    have h2 := h1.up hb2
    have HN := next_any h2
    have hk2 := hk.trans (KP.of_below hb2)
    have hr2 := (hb2.block _ (Array.getElem?_eq_some_iff.1 hr).1).trans hr
    rw [adv_of hp] at HN
    clear h1 hk hr hb2 HS
    go_wp2_with fail
    refine HN.mono ?_
    rintro e w3 ⟨rfl, hb3⟩
    have h3 := (h2.up hb3).up (alB w3 (.cells #[.int .i64 t.kind, .string (mkB t.text), .int .i64 t.num, .int .i64 t.pos] 32))
    have HK3 : Hid (KP P w (w3.alloc (.cells #[.int .i64 t.kind, .string (mkB t.text), .int .i64 t.num, .int .i64 t.pos] 32))) := (hk2.trans (KP.of_below hb3)).trans (KP.of_below (alB w3 _))
    have hr3 := (hb3.block _ (Array.getElem?_eq_some_iff.1 hr2).1).trans hr2
    have hs3 : w.heap.size < w3.heap.size := (Array.getElem?_eq_some_iff.1 hr3).1
    obtain ⟨o, c, a', c0, f0, hsl, hT⟩ := h3.take hp
    have hr5 : ((w3.alloc (.cells #[.int .i64 t.kind, .string (mkB t.text), .int .i64 t.num, .int .i64 t.pos] 32)).setCell ⟨P, 0, none⟩ (.slice a' r.length (c - 1))).heap[w.heap.size]? = some tz := (Below.heap_setCell _ ⟨P, 0, none⟩ _ _ (by show ¬ w.heap.size = P; omega)).trans ((heap_al w3 _ _ hs3).trans hr3)
    have hx : ((w3.alloc (.cells #[.int .i64 t.kind, .string (mkB t.text), .int .i64 t.num, .int .i64 t.pos] 32)).setCell ⟨P, 0, none⟩ (.slice a' r.length (c - 1))).heap[w3.heap.size]? = some (.cells #[.int .i64 t.kind, .string (mkB t.text), .int .i64 t.num, .int .i64 t.pos] 32 (0, 0)) := (Below.heap_setCell _ ⟨P, 0, none⟩ _ _ (by show ¬ w3.heap.size = P; omega)).trans (heap_alloc_new w3 _)
    obtain ⟨q, hq⟩ : ∃ q, q = tc t := ⟨_, rfl⟩
    have hql : q.length = 4 := by rw [hq]; rfl
    have hqa : q.toArray.size = 4 := hql
    have hq1 : ∀ v ∈ q, v.oneCell' = true := by rw [hq]; exact tc_one t
    have hrg : ((w3.alloc (.cells #[.int .i64 t.kind, .string (mkB t.text), .int .i64 t.num, .int .i64 t.pos] 32)).setCell ⟨P, 0, none⟩ (.slice a' r.length (c - 1))).rangeAt w3.heap.size 0 q := fun j v hv => by
      rw [Nat.zero_add, Lib.cell_of_heap hx, ← hv, hq]
      simp [tc]
    have hi4 : (Tryz.prog.info? 32).map (·.size) = some 4 := by kernel_rfl
    obtain ⟨-, hld⟩ := stN hr5 (c := q) (by rw [hql]; rfl) (by rw [hql]; exact hi4) hq1 Tryz.underlying32 rfl
    have HZ : Hid (PsA P T (((w3.alloc (.cells #[.int .i64 t.kind, .string (mkB t.text), .int .i64 t.num, .int .i64 t.pos] 32)).setCell ⟨P, 0, none⟩ (.slice a' r.length (c - 1))).setCells w.heap.size 0 q) p.adv ∧ KP P w (((w3.alloc (.cells #[.int .i64 t.kind, .string (mkB t.text), .int .i64 t.num, .int .i64 t.pos] 32)).setCell ⟨P, 0, none⟩ (.slice a' r.length (c - 1))).setCells w.heap.size 0 q)) := ⟨hT.sets hPl hTl _, (HK3.out.setCell 0 _).sets (Nat.le_refl _) _⟩
    have HL : Hid _ := hld
    have HX : Hid (_ ∧ (∀ v ∈ q, v.oneCell' = true) ∧ q.length = 4) := ⟨hrg, hq1, hql⟩
    have HTH : Hid (((w3.alloc (.cells #[.int .i64 t.kind, .string (mkB t.text), .int .i64 t.num, .int .i64 t.pos] 32)).setCell ⟨P, 0, none⟩ (.slice a' r.length (c - 1))).there w.heap.size 0 q.toArray.size) := by rw [hqa]; exact there_of hr5
    have HI : Hid ((Tryz.prog.info? 32).map (·.size) = some q.length ∧ (Tryz.prog.info? 32).map (·.size) = some q.toArray.size) := ⟨by rw [hql]; exact hi4, by rw [hqa]; exact hi4⟩
    have HQ : Hid (q = tc t) := hq
    clear hT h3 h2 hk2 hr2 hb3 HN hld HK3 hr5 hx hrg hq1 hql hi4 hq hqa
    go_wp2_with (first
      | (refine wpList_load_mid rfl 32 (Operand.tmp 5) rfl w3.heap.size 0 rfl q _ HX.out.1 Tryz.underlying32 rfl HI.out.1 ?_)
      | (refine wpList_store_mid rfl 32 (Operand.tmp 4) (Operand.tmp 22) rfl w.heap.size 0 q.toArray rfl rfl HTH.out HI.out.2 (all_oneCell_toArray HX.out.2.1) ?_)
      | fail)
    refine bodyPost_ret (v := .agg q.toArray) (res_one Tryz.results49 _ _ rfl HL.out) rfl ⟨_, rfl, by rw [HQ.out]; rfl, HZ.out.1, HZ.out.2⟩
end Go.Proofs.YtheiijnpggabkaaGreatDoor
