/- A variable of a statement's type; a statement made of its parts. -/
import Derived.StillTailTactics
import Derived.Test.YtcaeeackccgclaaGreatDoorTb6
namespace Go.Proofs.YtcaeeackccgclaaGreatDoor
open Go.RowKit Go.Shelf

def MethS (P T Y : Nat) (m : Ps → Px Sm) : Prop := ∀ W p z, PsA P T W p → ErrR W → m p = some z → Calls Tryz.prog Y #[pt P] W (PoA P T (VS W.heap.size) W z)
theorem ErrR.ne {P T : Nat} {w : World} {p : Ps} (h : ErrR w) (hp : PsA P T w p) : 3 ≠ P := fun e => by
  obtain ⟨ev, h1, h2⟩ := h
  obtain ⟨a, c, c0, _⟩ := hp.cells
  rw [e, c0] at h1
  rcases h2 with rfl | ⟨te, pe, rfl⟩
  · cases h1
  · cases h1
theorem ErrR.kp {P : Nat} {w w' : World} (h : ErrR w) (hne : 3 ≠ P) (hk : KP P w w') : ErrR w' := by
  obtain ⟨ev, h1, h2⟩ := h
  refine ⟨ev, ?_, h2⟩
  rw [← h1]
  exact World.cell?_of_block (hk.blk _ (World.block_lt_of_cell? w ⟨3, 0, none⟩ h1) hne)

theorem SmV.up {w : World} {S : Nat → Prop} : ∀ {n : Nat} {x : Sm} {c : List Value}, SmV w S n x c → SmV w S (n + 1) x c
  | _ + 1, _, _, ⟨nv, ce, bv, ev, bs, es, e, h1, h2, h3, h4, k2, k3, k4, h5, h6⟩ => ⟨nv, ce, bv, ev, bs, es, e, h1, h2, h3, h4, k2, k3, k4, h5.mono fun _ _ f => SmV.up f, h6.mono fun _ _ f => SmV.up f⟩
theorem SmV.le {w : World} {S : Nat → Prop} {n : Nat} {x : Sm} {c : List Value} (h : SmV w S n x c) : ∀ m, n ≤ m → SmV w S m x c
  | m, hm => by
    induction m with
    | zero => obtain rfl : n = 0 := by omega
              exact h
    | succ m ih =>
      rcases Nat.lt_or_ge m n with hl | hl
      · obtain rfl : n = m + 1 := by omega
        exact h
      · exact (ih hl).up
theorem fa_allS {w : World} {S : Nat → Prop} : ∀ {l : List Sm} {vs : List (List Value)}, Fa (SmA w S) l vs → ∃ n, Fa (SmV w S n) l vs
  | [], [], _ => ⟨0, trivial⟩
  | a :: l, b :: m, f => by
    obtain ⟨n1, h1⟩ := f.1
    obtain ⟨n2, h2⟩ := fa_allS f.2
    exact ⟨max n1 n2, h1.le _ (Nat.le_max_left _ _), h2.mono fun _ _ h => h.le _ (Nat.le_max_right _ _)⟩
theorem SmA.make {w : World} {S : Nat → Prop} {x : Sm} {nv bv ev : Value} {ce : List Value} {bs es : List (List Value)} (h1 : ExA w S x.ex ce) (h2 : w.ownsRow 0 9 1 nv x.names.length (x.names.map sv)) (h3 : w.ownsRow 0 40 10 bv x.body.length bs.flatten) (h4 : w.ownsRow 0 40 10 ev x.els.length es.flatten)
    (k2 : ∀ g, nv.ownBlock = some g → S g) (k3 : ∀ g, bv.ownBlock = some g → S g) (k4 : ∀ g, ev.ownBlock = some g → S g) (h5 : Fa (SmA w S) x.body bs) (h6 : Fa (SmA w S) x.els es) : SmA w S x (.int .i64 x.kind :: sv x.text :: nv :: (ce ++ [bv, ev])) := by
  obtain ⟨n1, q1⟩ := fa_allS h5
  obtain ⟨n2, q2⟩ := fa_allS h6
  exact ⟨max n1 n2 + 1, nv, ce, bv, ev, bs, es, rfl, h1, h2, h3, h4, k2, k3, k4, q1.mono fun _ _ h => h.le _ (Nat.le_max_left _ _), q2.mono fun _ _ h => h.le _ (Nat.le_max_right _ _)⟩

/-- A variable of a statement's type. -/
def SV (w : World) (L : Nat) (c : List Value) : Prop := (∃ c0, w.heap[L]? = some (.cells c0 40 (0, 0)) ∧ c0.size = 10) ∧ w.rangeAt L 0 c ∧ c.length = 10
section
variable {w w' : World} {L : Nat} {c : List Value}
theorem SV.lt (h : SV w L c) : L < w.heap.size := by
  obtain ⟨⟨c0, h, _⟩, _⟩ := h
  exact (Array.getElem?_eq_some_iff.1 h).1
theorem SV.keep (h : SV w L c) (hk : w'.heap[L]? = w.heap[L]?) : SV w' L c := by
  obtain ⟨⟨c0, h1, h2⟩, h3, h4⟩ := h
  refine ⟨⟨c0, hk.trans h1, h2⟩, fun j v hv => ?_, h4⟩
  rw [← h3 j v hv]
  simp [World.cell?, hk]
theorem SV.fz (h : SV w L c) (i : Nat) : w.frozen? ⟨L, i, none⟩ = false := by
  obtain ⟨⟨c0, h1, _⟩, _⟩ := h
  exact Lib.frozen_of_heap h1 i
theorem SV.there (h : SV w L c) : w.there L 0 10 := by
  obtain ⟨⟨c0, h1, h2⟩, _⟩ := h
  rw [← h2]
  exact there_of h1
theorem SV.at_ (h : SV w L c) (i : Nat) {v : Value} (hv : c[i]? = some v) : w.cell? ⟨L, i, none⟩ = some v := by
  have := h.2.1 i v hv
  rwa [Nat.zero_add] at this
theorem SV.set (h : SV w L c) (i : Nat) (v : Value) : SV (w.setCell ⟨L, i, none⟩ v) L (c.set i v) := by
  have h0 := h
  obtain ⟨⟨c0, h1, h2⟩, h3, h4⟩ := h
  have hb : (w.setCell ⟨L, i, none⟩ v).heap[L]? = some (.cells (c0.setIfInBounds i v) 40 (0, 0)) := Go.Joins.block_setCell h1 v
  refine ⟨⟨_, hb, by simpa using h2⟩, fun j u hu => ?_, by simpa using h4⟩
  rw [Nat.zero_add, Lib.cell_of_heap hb]
  by_cases hij : i = j
  · subst hij
    have hi : i < c.length := by
      have := (List.getElem?_eq_some_iff.1 hu).1
      simpa using this
    have hu2 : u = v := by
      rw [List.getElem?_set_self hi] at hu
      exact (Option.some.inj hu).symm
    rw [hu2, Array.getElem?_setIfInBounds_self_of_lt (by omega)]
  · rw [List.getElem?_set_ne hij] at hu
    have := h0.at_ j hu
    rw [Lib.cell_of_heap h1] at this
    rw [Array.getElem?_setIfInBounds_ne hij]
    exact this
theorem SV.sets {L : Nat} : ∀ (vs : List Value) (o : Nat) {w : World} {c : List Value}, SV w L c → SV (w.setCells L o vs) L (vs.foldl (fun (q : List Value × Nat) v => (q.1.set q.2 v, q.2 + 1)) (c, o)).1
  | [], _, _, _, h => h
  | v :: vs, o, _, _, h => SV.sets vs (o + 1) (h.set o v)
theorem SV.new (w : World) {c : List Value} (hl : c.length = 10) : SV (w.alloc (.cells c.toArray 40)) w.heap.size c := by
  have hb : (w.alloc (.cells c.toArray 40)).heap[w.heap.size]? = some (.cells c.toArray 40 (0, 0)) := heap_alloc_new w _
  refine ⟨⟨_, hb, by simpa using hl⟩, fun j v hv => ?_, hl⟩
  rw [Nat.zero_add, Lib.cell_of_heap hb]
  simpa using hv
end
theorem KP.al' (P : Nat) (w : World) (o : Obj) : KP P w (w.alloc o) := KP.al P w o
theorem size_set' (w : World) (a : Addr) (v : Value) : (w.setCell a v).heap.size = w.heap.size := size_set w a v
theorem KP.setIn {P L : Nat} {a b : World} (h : KP P a b) (hL : a.heap.size ≤ L) (i : Nat) (v : Value) : KP P a (b.setCell ⟨L, i, none⟩ v) :=
  ⟨h.os, h.tape, h.output, by rw [size_set]; exact h.size, fun g hg hp => (Below.heap_setCell b ⟨L, i, none⟩ v g (by show ¬ g = L; omega)).trans (h.blk g hg hp)⟩
end Go.Proofs.YtcaeeackccgclaaGreatDoor

/- Statements as a row. -/
namespace Go.Proofs.YtcaeeackccgclaaGreatDoor
open Go.RowKit Go.Shelf

theorem infSt : (Tryz.prog.info? 40).map (fun i => (i.zero, i.size, i.bytes)) = some (some (.agg #[.int .i64 0, .string ⟨#[]⟩, .slice none 0 0, .int .i64 0, .int .i64 0, .string ⟨#[]⟩, .slice none 0 0, .slice none 0 0, .slice none 0 0, .slice none 0 0]), 10, 176) := by kernel_rfl
/-- Statements as a row; what they have lies elsewhere. -/
structure RwS (n : Nat) (w : World) (l : List Sm) (v : Value) (vs : List (List Value)) : Prop where
  row : w.ownsRow n 40 10 v l.length vs.flatten
  fa : Fa (SmA w (fun g => n ≤ g ∧ v.ownBlock ≠ some g)) l vs
theorem RwS.keep {n : Nat} {w w' : World} {l : List Sm} {v : Value} {vs : List (List Value)} (h : RwS n w l v vs) (hk : ∀ g, n ≤ g → g < w.heap.size → w'.heap[g]? = w.heap[g]?) : RwS n w' l v vs :=
  ⟨own_heap h.row fun g hg => hk g (h.row.lt g hg).1 (h.row.lt g hg).2, h.fa.mono fun _ _ f => f.keep (fun g hg hg2 => hk g hg.1 hg2) (fun _ hg _ => hg)⟩
theorem RwS.push {n : Nat} {X w2 : World} {l : List Sm} {v : Value} {vs : List (List Value)} (h : RwS n X l v vs) {y : Sm} {cy : List Value} (hy : SmA X (fun g => n ≤ g ∧ v.ownBlock ≠ some g) y cy)
    {g' cap' : Nat} (hgrow : X.grownBy w2 v.ownBlock) (hat : v.ownBlock = some g' ∨ g' = X.heap.size) (hrow : w2.ownsRow n 40 10 (.slice (some ⟨g', 0, none⟩) (l.length + 1) cap') (l.length + 1) (vs.flatten ++ cy)) :
    RwS n w2 (l ++ [y]) (.slice (some ⟨g', 0, none⟩) (l.length + 1) cap') (vs ++ [cy]) := by
  have hgo : ∀ g, g < X.heap.size → v.ownBlock ≠ some g → g ≠ g' := fun g h1 h2 e => by
    rcases hat with h3 | h3
    · exact h2 (by rw [h3, e])
    · omega
  have hS : ∀ (x : Sm) (c : List Value), SmA X (fun g => n ≤ g ∧ v.ownBlock ≠ some g) x c → SmA w2 (fun g => n ≤ g ∧ (Value.slice (some ⟨g', 0, none⟩) (l.length + 1) cap').ownBlock ≠ some g) x c := fun x c hx => hx.keep (fun g hg hg2 => hgrow.block g hg2 fun e => hg.2 e.symm) (fun g hg hg2 => ⟨hg.1, fun e => by
    have e2 : g' = g := by simpa [Value.ownBlock] using e
    exact hgo g hg2 hg.2 e2.symm⟩)
  exact ⟨by simpa using hrow, (h.fa.mono fun _ _ f => hS _ _ f).snoc (hS _ _ hy)⟩
theorem KP.trans' {P : Nat} {a b c : World} (h : KP P a b) {row : Option Nat} (k : b.grownBy c row) (hr : ∀ g, g < a.heap.size → some g ≠ row) : KP P a c := ⟨k.os.trans h.os, k.tape.trans h.tape, k.output.trans h.output, Nat.le_trans h.size k.size, fun g hg hp => (k.block g (Nat.lt_of_lt_of_le hg h.size) (hr g hg)).trans (h.blk g hg hp)⟩
def VL (n : Nat) (w : World) (l : List Sm) (v : Value) : Prop := ∃ vs, RwS n w l v vs
end Go.Proofs.YtcaeeackccgclaaGreatDoor

/- block: the statements of what begins with a line. -/
namespace Go.Proofs.YtcaeeackccgclaaGreatDoor
open Go.RowKit Go.Shelf
attribute [local go_sem ↓] fld0 fld1 fld2 fld3

theorem PsA.blkTo {P T : Nat} {w : World} {p : Ps} (h : PsA P T w p) (d : Nat) (hd : d ≤ 1000000) : PsA P T (w.setCell ⟨P, 2, none⟩ (.int .i64 d)) { p with blk := d } := by
  obtain ⟨a, c, o, h1, h2, h3, h4, h5, h6, h7, h8, h9⟩ := h
  refine ⟨a, c, o, ?_, h2, h3, h4, fun j hj => ?_, h6, by simp [World.setCell]; exact h7, h8, hd⟩
  · rw [Go.Joins.block_setCell h1]; rfl
  · rw [← h5 j hj]
    have e2 := Below.heap_setCell w ⟨P, 2, none⟩ (.int .i64 d) T h6
    simp [World.cell?, e2]
theorem PsA.blkLe {P T : Nat} {w : World} {p : Ps} (h : PsA P T w p) : p.blk ≤ 1000000 := by
  obtain ⟨a, c, o, h1, h2, h3, h4, h5, h6, h7, h8, h9⟩ := h
  exact h9
theorem PsA.d2 {P T : Nat} {w : World} {p : Ps} (h : PsA P T w p) : w.cell? ⟨P, 2, none⟩ = some (.int .i64 p.blk) := by
  obtain ⟨a, c, o, h1, _⟩ := h
  rw [Lib.cell_of_heap h1]
  rfl
def MethB (P T Y : Nat) (m : Ps → Px (List Sm)) : Prop := ∀ W p z, PsA P T W p → ErrR W → m p = some z → Calls Tryz.prog Y #[pt P] W (PoA P T (VL W.heap.size) W z)
def BlI (P T n : Nat) (w : World) (St : Ps → Px Sm) (K : List Sm → Ps → Px (List Sm)) (z : Except Ft (List Sm × Ps)) (v : Value) (wr : World) : Prop := ∃ l p f vs, bnd (blL St f l p) K = some z ∧ PsA P T wr p ∧ KP P w wr ∧ RwS n wr l v vs
def blK : List Sm → Ps → Px (List Sm) := fun l q => iff (decide (1 ≤ q.blk)) (bnd (tkK 8 q.bout) fun _ q => ok l q)

set_option maxHeartbeats 16000000 in
set_option maxRecDepth 100000 in
theorem block_any {P T : Nat} {St : Ps → Px Sm} (hSt : MethS P T 33 St) : MethB P T 71 (blF St) := by
  intro W p z h hr hz
  obtain ⟨i0, hi, hz0, hz1, hz2⟩ := info_p infSt
  have hPl := h.lt
  have hTl := h.ltT
  have HE : Hid (MethS P T 33 St) := hSt
  have HEr : Hid (∀ W', KP P W W' → ErrR W') := fun W' hk => hr.kp (hr.ne h) hk
  clear hSt hr
  go_enter Tryz.func71, Tryz.ntmps71
  rcases bnd_some hz with ⟨x, hx, rfl⟩ | ⟨_, p1, hx, hz1⟩
  · have HT := takeSign_any h [58] hx
    go_wp2_with fail
    refine HT.mono ?_
    rintro e1 w1 hpo
    obtain ⟨rfl, hk1⟩ := bad_panic hpo (KP.refl P W)
    exact ⟨rfl, rfl, hk1⟩
  have HT := takeSign_any h [58] hx
  go_wp2_with fail
  refine HT.mono ?_
  rintro e1 w1 ⟨v1, rfl, rfl, h1, hk1⟩
  clear HT h hz hx
  rcases bnd_some hz1 with ⟨x, hx, rfl⟩ | ⟨_, p2, hx, hz2⟩
  · have HT := take2_any h1 6 (by decide) hx
    go_wp2_with fail
    refine HT.mono ?_
    rintro e2 w2 hpo
    obtain ⟨rfl, hk2⟩ := bad_panic hpo hk1
    exact ⟨rfl, rfl, hk2⟩
  have HT := take2_any h1 6 (by decide) hx
  go_wp2_with fail
  refine HT.mono ?_
  rintro e2 w2 ⟨v2, rfl, rfl, h2, hj2⟩
  have hk2 := hk1.trans hj2
  clear HT h1 hz1 hx hj2 hk1
  rcases bnd_some hz2 with ⟨x, hx, rfl⟩ | ⟨_, p3, hx, hz3⟩
  · have HT := take2_any h2 7 (by decide) hx
    go_wp2_with fail
    refine HT.mono ?_
    rintro e3 w3 hpo
    obtain ⟨rfl, hk3⟩ := bad_panic hpo hk2
    exact ⟨rfl, rfl, hk3⟩
  have HT := take2_any h2 7 (by decide) hx
  go_wp2_with fail
  refine HT.mono ?_
  rintro e3 w3 ⟨v3, rfl, rfl, h3, hj3⟩
  have hk3 := hk2.trans hj3
  clear HT h2 hz2 hx hj3 hk2
  obtain ⟨hd, hz4⟩ := iff_some hz3
  have hd3 : p3.blk < 1000 := of_decide_eq_true hd
  have b3 := h3.d2
  have f3 := h3.fz 2
  have hw3 : IntKind.i64.wrap ((p3.blk : Int) + 1) = ((p3.blk + 1 : Nat) : Int) := by rw [IntKind.wrap_i64]; omega
  have h4 : PsA P T (w3.setCell ⟨P, 2, none⟩ (.int .i64 ((p3.blk + 1 : Nat) : Int))) p3.bin := h3.blkTo (p3.blk + 1) (by omega)
  have hk4 : KP P W (w3.setCell ⟨P, 2, none⟩ (.int .i64 ((p3.blk + 1 : Nat) : Int))) := hk3.setCell 2 _
  have HJ : Hid (BlI P T W.heap.size W St blK z (.slice none 0 0) (w3.setCell ⟨P, 2, none⟩ (.int .i64 ((p3.blk + 1 : Nat) : Int)))) := ⟨[], p3.bin, _, [], hz4, h4, hk4, World.ownsRow_nil _ _ _ _, trivial⟩
  clear h3 hk3 h4 hk4 hz3 hz4 hd hd3
  obtain ⟨K, hK⟩ : ∃ K, K = blK := ⟨_, rfl⟩
  have HK : Hid (K = blK) := hK
  rw [← hK] at HJ
  clear hK
  generalize ((p3.blk + 1 : Nat) : Int) = d1 at *
  go_wp2
  clear b3 f3 hw3
  generalize w3.setCell ⟨P, 2, none⟩ (.int .i64 d1) = w4 at *
  go_loopw [3] (fun u wr => ∃ v : Value, u = v ∧ Hid (BlI P T W.heap.size W St K z v wr)) (fun _ wr => tkLen P wr)
  case atStart => exact ⟨_, rfl, HJ⟩
  case round =>
    obtain ⟨v, rfl, hrel⟩ := hrel
    obtain ⟨l, p', f, vs, hj, hps, hk, hrw⟩ := hrel.out
    obtain ⟨ao, cp, rfl⟩ := row_shape hrw.row
    clear hrel HJ
    cases f with
    | zero => cases hj
    | succ f =>
    unfold blL at hj
    have htk := hps.tk
    have HS := sees2_any hps 8
    cases hb : p'.nx.kind == 8 with
    | true =>
      rw [hb] at HS
      simp only [hb, cond_true] at hj
      rw [HK.out] at hj
      replace hj : iff (decide (1 ≤ p'.blk)) (bnd (tkK 8 p'.bout) fun _ q => ok l q) = some z := hj
      obtain ⟨hd, hj2⟩ := iff_some hj
      have hd1 : 1 ≤ p'.blk := of_decide_eq_true hd
      go_wp2_with fail
      refine HS.mono ?_
      rintro e5 w5 ⟨rfl, hb5⟩
      have h5 := hps.up hb5
      have hk5 := hk.trans (KP.of_below (P := P) hb5)
      have hrw5 := hrw.keep (fun g _ hg2 => hb5.block g hg2)
      have b5 := h5.d2
      have f5 := h5.fz 2
      have hw5 : IntKind.i64.wrap ((p'.blk : Int) - 1) = ((p'.blk - 1 : Nat) : Int) := by rw [IntKind.wrap_i64]; have := h5.blkLe; omega
      have h6 : PsA P T (w5.setCell ⟨P, 2, none⟩ (.int .i64 ((p'.blk - 1 : Nat) : Int))) p'.bout := h5.blkTo (p'.blk - 1) (by have := h5.blkLe; omega)
      have hk6 : KP P W (w5.setCell ⟨P, 2, none⟩ (.int .i64 ((p'.blk - 1 : Nat) : Int))) := hk5.setCell 2 _
      have hrw6 : RwS W.heap.size (w5.setCell ⟨P, 2, none⟩ (.int .i64 ((p'.blk - 1 : Nat) : Int))) l (.slice ao l.length cp) vs := hrw5.keep (fun g hg _ => Below.heap_setCell _ ⟨P, 2, none⟩ _ g (by show ¬ g = P; omega))
      clear hps hk hrw hb5 h5 hk5 hrw5 HS hd hj
      rcases bnd_some hj2 with ⟨x, hx, rfl⟩ | ⟨_, q7, hx, hj3⟩
      · have HT := take2_any h6 8 (by decide) hx
        generalize ((p'.blk - 1 : Nat) : Int) = d2 at *
        go_wp2_with fail
        refine HT.mono ?_
        rintro e7 w7 hpo
        obtain ⟨rfl, hk7⟩ := bad_panic hpo hk6
        exact ⟨rfl, rfl, hk7⟩
      · have HT := take2_any h6 8 (by decide) hx
        cases hj3
        generalize ((p'.blk - 1 : Nat) : Int) = d2 at *
        go_wp2_with fail
        refine HT.mono ?_
        rintro e7 w7 ⟨v7, rfl, rfl, h7, hj7⟩
        have HZ : Hid (PoA P T (VL W.heap.size) W (.ok (l, q7)) (.returned (.slice ao l.length cp)) w7) := ⟨_, rfl, ⟨vs, hrw6.keep (fun g hg hg2 => hj7.blk g hg2 (by omega))⟩, h7, hk6.trans hj7⟩
        clear h6 hk6 hrw6 b5 f5 hw5 HT h7 hj7 hj2 hx
        go_wp2
        go_ret
        exact HZ.out
    | false =>
      rw [hb] at HS
      simp only [hb, cond_false] at hj
      replace hj : bnd (iff (decide (l.length < 1000000)) (bnd (St p') fun s q => iff (less q p') (blL St f (l ++ [s]) q))) K = some z := hj
      have hn : decide (l.length < 1000000) = true := by
        cases hd : decide (l.length < 1000000) with
        | true => rfl
        | false => rw [hd] at hj; cases hj
      have hn1 : l.length < 1000000 := of_decide_eq_true hn
      rw [hn] at hj
      replace hj : bnd (bnd (St p') fun s q => iff (less q p') (blL St f (l ++ [s]) q)) K = some z := hj
      clear hn
      go_wp2_with fail
      refine HS.mono ?_
      rintro e5 w5 ⟨rfl, hb5⟩
      replace hrw := hrw.keep (fun g _ hg2 => hb5.block g hg2)
      replace hk := hk.trans (KP.of_below (P := P) hb5)
      replace hps := hps.up hb5
      clear HS
      have hj2 : (∃ x, St p' = some (.error x) ∧ z = .error x) ∨ ∃ y q, St p' = some (.ok (y, q)) ∧ less q p' = true ∧ bnd (blL St f (l ++ [y]) q) K = some z := by
        rcases bnd_some hj with ⟨x, hx, rfl⟩ | ⟨y, q, hx, hq⟩
        · rcases bnd_some hx with ⟨x2, hx2, e⟩ | ⟨y2, q2, hx2, e⟩
          · cases e; exact .inl ⟨x, hx2, rfl⟩
          · obtain ⟨e1, e2⟩ := iff_some e
            exact .inr ⟨y2, q2, hx2, e1, by rw [e2]; rfl⟩
        · rcases bnd_some hx with ⟨x2, hx2, e⟩ | ⟨y2, q2, hx2, e⟩
          · cases e
          · obtain ⟨e1, e2⟩ := iff_some e
            exact .inr ⟨y2, q2, hx2, e1, by rw [e2]; exact hq⟩
      clear hj
      rcases hj2 with ⟨x, hx, rfl⟩ | ⟨y, q, hx, hle, hj3⟩
      · have HD := HE.out w5 _ _ hps (HEr.out _ hk) hx
        clear hps hrw hx hb5
        go_wp2_with (go_at_call 33; refine HD.mono ?_; rintro e1 w1 hpo; obtain ⟨rfl, hk1⟩ := bad_panic hpo hk)
        exact ⟨rfl, rfl, hk1⟩
      · have HD := HE.out w5 _ _ hps (HEr.out _ hk) hx
        have hle2 : q.toks.length < p'.toks.length := of_decide_eq_true hle
        clear hx hle
        go_wp2_with fail
        refine HD.mono ?_
        rintro e1 w1 ⟨v1, rfl, ⟨cy, rfl, hy1⟩, hp1, hk1⟩
        obtain ⟨a0, k0, a1, k1, a2, k2, a3, k3, a4, k4, hcy⟩ := hy1.form
        have hlo : W.heap.size ≤ w5.heap.size := hk.size
        have hob := fun g (hg : (Value.slice ao l.length cp).ownBlock = some g) => (hrw.row.lt g hg).2
        have hrw1 := hrw.keep (w' := w1) (fun g hg hg2 => hk1.blk g hg2 (by omega))
        have hyS : SmA w1 (fun g => W.heap.size ≤ g ∧ (Value.slice ao l.length cp).ownBlock ≠ some g) y cy := hy1.mono (fun g hg _ => ⟨by omega, fun e => by have := hob g e; omega⟩)
        subst hcy
        have hkX : KP P W (w1.alloc (.cells #[.int .i64 y.kind, .string (mkB y.text), .slice a0 y.names.length k0, .int .i64 y.ex.kind, .int .i64 y.ex.num, .string (mkB y.ex.text), .slice a1 y.ex.kids.length k1, .slice a2 y.ex.names.length k2, .slice a3 y.body.length k3, .slice a4 y.els.length k4] 40)) := (hk.trans hk1).trans (KP.al P w1 _)
        have HX : Hid (RwS W.heap.size (w1.alloc (.cells #[.int .i64 y.kind, .string (mkB y.text), .slice a0 y.names.length k0, .int .i64 y.ex.kind, .int .i64 y.ex.num, .string (mkB y.ex.text), .slice a1 y.ex.kids.length k1, .slice a2 y.ex.names.length k2, .slice a3 y.body.length k3, .slice a4 y.els.length k4] 40)) l (.slice ao l.length cp) vs ∧ SmA (w1.alloc (.cells #[.int .i64 y.kind, .string (mkB y.text), .slice a0 y.names.length k0, .int .i64 y.ex.kind, .int .i64 y.ex.num, .string (mkB y.ex.text), .slice a1 y.ex.kids.length k1, .slice a2 y.ex.names.length k2, .slice a3 y.body.length k3, .slice a4 y.els.length k4] 40)) (fun g => W.heap.size ≤ g ∧ (Value.slice ao l.length cp).ownBlock ≠ some g) y ([.int .i64 y.kind, .string (mkB y.text), .slice a0 y.names.length k0, .int .i64 y.ex.kind, .int .i64 y.ex.num, .string (mkB y.ex.text), .slice a1 y.ex.kids.length k1, .slice a2 y.ex.names.length k2, .slice a3 y.body.length k3, .slice a4 y.els.length k4] : List Value) ∧ PsA P T (w1.alloc (.cells #[.int .i64 y.kind, .string (mkB y.text), .slice a0 y.names.length k0, .int .i64 y.ex.kind, .int .i64 y.ex.num, .string (mkB y.ex.text), .slice a1 y.ex.kids.length k1, .slice a2 y.ex.names.length k2, .slice a3 y.body.length k3, .slice a4 y.els.length k4] 40)) q ∧ KP P W (w1.alloc (.cells #[.int .i64 y.kind, .string (mkB y.text), .slice a0 y.names.length k0, .int .i64 y.ex.kind, .int .i64 y.ex.num, .string (mkB y.ex.text), .slice a1 y.ex.kids.length k1, .slice a2 y.ex.names.length k2, .slice a3 y.body.length k3, .slice a4 y.els.length k4] 40))) := ⟨hrw1.keep (fun g _ hg2 => heap_al w1 _ g hg2), hyS.keep (fun g _ hg2 => heap_al w1 _ g hg2) (fun _ hg _ => hg), hp1.up (alB _ _), hkX⟩
        have hsX : W.heap.size ≤ (w1.alloc (.cells #[.int .i64 y.kind, .string (mkB y.text), .slice a0 y.names.length k0, .int .i64 y.ex.kind, .int .i64 y.ex.num, .string (mkB y.ex.text), .slice a1 y.ex.kids.length k1, .slice a2 y.ex.names.length k2, .slice a3 y.body.length k3, .slice a4 y.els.length k4] 40)).heap.size := hkX.size
        have hnews : ∀ (j : Nat) (u : Value), ([.int .i64 y.kind, .string (mkB y.text), .slice a0 y.names.length k0, .int .i64 y.ex.kind, .int .i64 y.ex.num, .string (mkB y.ex.text), .slice a1 y.ex.kids.length k1, .slice a2 y.ex.names.length k2, .slice a3 y.body.length k3, .slice a4 y.els.length k4] : List Value)[j]? = some u → (w1.alloc (.cells #[.int .i64 y.kind, .string (mkB y.text), .slice a0 y.names.length k0, .int .i64 y.ex.kind, .int .i64 y.ex.num, .string (mkB y.ex.text), .slice a1 y.ex.kids.length k1, .slice a2 y.ex.names.length k2, .slice a3 y.body.length k3, .slice a4 y.els.length k4] 40)).cell? ((⟨w1.heap.size, 0, none⟩ : Addr).add j) = some u := fun j u hu => World.news_of_block (heap_alloc_new w1 _) j u hu
        have hone := hyS.one
        clear hyS hrw1 hob hlo hy1 hp1 hk1 hrw hps hk HD hkX
        go_wp2_with (first
          | (refine wpList_append_lies (w1.alloc (.cells #[.int .i64 y.kind, .string (mkB y.text), .slice a0 y.names.length k0, .int .i64 y.ex.kind, .int .i64 y.ex.num, .string (mkB y.ex.text), .slice a1 y.ex.kids.length k1, .slice a2 y.ex.names.length k2, .slice a3 y.body.length k3, .slice a4 y.els.length k4] 40)) (by rfl) (Operand.tmp 20) (Operand.tmp 23) 28 (by rfl) W.heap.size 40 i0 (.agg #[.int .i64 0, .string ⟨#[]⟩, .slice none 0 0, .int .i64 0, .int .i64 0, .string ⟨#[]⟩, .slice none 0 0, .slice none 0 0, .slice none 0 0, .slice none 0 0]) 10 176 Tryz.underlying28 hi hz0 hz1 hz2 rfl (by decide) (.slice ao l.length cp) l.length vs.flatten (by rfl) HX.out.1.row ⟨w1.heap.size, 0, none⟩ 1 1 ([.int .i64 y.kind, .string (mkB y.text), .slice a0 y.names.length k0, .int .i64 y.ex.kind, .int .i64 y.ex.num, .string (mkB y.ex.text), .slice a1 y.ex.kids.length k1, .slice a2 y.ex.names.length k2, .slice a3 y.body.length k3, .slice a4 y.els.length k4] : List Value) (by rfl) rfl hnews hone (by decide) (by unfold maxLen; omega) (by omega) hsX (w1.alloc (.cells #[.int .i64 y.kind, .string (mkB y.text), .slice a0 y.names.length k0, .int .i64 y.ex.kind, .int .i64 y.ex.num, .string (mkB y.ex.text), .slice a1 y.ex.kids.length k1, .slice a2 y.ex.names.length k2, .slice a3 y.body.length k3, .slice a4 y.els.length k4] 40)).heap.size rfl ?_; intro g' cap' w2 hown2 hgrow hat hltg)
          | fail)
        have hPn : (Value.slice ao l.length cp).ownBlock ≠ some P := fun e => by have := (HX.out.1.row.lt P e).1; omega
        have hTn : (Value.slice ao l.length cp).ownBlock ≠ some T := fun e => by have := (HX.out.1.row.lt T e).1; omega
        have hp2 : PsA P T w2 q := HX.out.2.2.1.keep (hgrow.block P HX.out.2.2.1.lt (fun e => hPn e.symm)) (hgrow.block T HX.out.2.2.1.ltT (fun e => hTn e.symm))
        have hk2 : KP P W w2 := HX.out.2.2.2.trans' hgrow (fun g hg e => by have := (HX.out.1.row.lt g e.symm).1; omega)
        have HJ : Hid (BlI P T W.heap.size W St K z (.slice (some ⟨g', 0, none⟩) (l.length + 1) cap') w2) := ⟨l ++ [y], q, f, _, hj3, hp2, hk2, HX.out.1.push HX.out.2.1 hgrow hat hown2⟩
        have htk2 := hp2.tk
        refine ⟨⟨_, rfl, HJ⟩, by rw [htk2, htk]; exact hle2⟩
end Go.Proofs.YtcaeeackccgclaaGreatDoor

/- condition, loop. -/
namespace Go.Proofs.YtcaeeackccgclaaGreatDoor
open Go.RowKit Go.Shelf
attribute [local go_sem ↓] fld0 fld1 fld2 fld3

/-- A row that was made is handed on: what is known of it. -/
theorem VL.up {n : Nat} {w w' : World} {l : List Sm} {v : Value} (h : VL n w l v) (hk : ∀ g, n ≤ g → g < w.heap.size → w'.heap[g]? = w.heap[g]?) : VL n w' l v := by
  obtain ⟨vs, h1⟩ := h
  exact ⟨vs, h1.keep hk⟩
theorem VL.shape {n : Nat} {w : World} {l : List Sm} {v : Value} (h : VL n w l v) : ∃ ao cp, v = .slice ao l.length cp := by
  obtain ⟨vs, h1⟩ := h
  exact row_shape h1.row
theorem VL.le {n m : Nat} {w : World} {l : List Sm} {v : Value} (h : VL n w l v) (hm : m ≤ n) : VL m w l v := by
  obtain ⟨vs, h1⟩ := h
  exact ⟨vs, row_mono h1.row hm, h1.fa.mono fun _ _ f => f.mono fun g hg _ => ⟨by omega, hg.2⟩⟩
theorem VL.nil (n : Nat) (w : World) : VL n w [] (.slice none 0 0) := ⟨[], World.ownsRow_nil _ _ _ _, trivial⟩
theorem sm_of {w : World} {R k : Nat} {t : List UInt8} {ns : List (List UInt8)} {e : Ex} {b s : List Sm} {nv bv ev : Value} {ce : List Value} (hx : ExA w (fun g => R < g) e ce) (hn : w.ownsRow 0 9 1 nv ns.length (ns.map sv)) (hng : ∀ g, nv.ownBlock = some g → R < g) (hb : VL (R + 1) w b bv) (hs : VL (R + 1) w s ev) :
    SmA w (fun g => R ≤ g ∧ g ≠ R) ⟨k, t, ns, e, b, s⟩ (.int .i64 k :: sv t :: nv :: (ce ++ [bv, ev])) := by
  obtain ⟨bs, hb⟩ := hb
  obtain ⟨es, hs⟩ := hs
  exact SmA.make (x := ⟨k, t, ns, e, b, s⟩) (hx.mono fun g hg _ => ⟨Nat.le_of_lt hg, Nat.ne_of_gt hg⟩) hn (row_mono hb.row (Nat.zero_le _)) (row_mono hs.row (Nat.zero_le _)) (fun g hg => ⟨Nat.le_of_lt (hng g hg), Nat.ne_of_gt (hng g hg)⟩) (fun g hg => by have := (hb.row.lt g hg).1; exact ⟨by omega, by omega⟩) (fun g hg => by have := (hs.row.lt g hg).1; exact ⟨by omega, by omega⟩) (hb.fa.mono fun _ _ f => f.mono fun g hg _ => ⟨by omega, by omega⟩) (hs.fa.mono fun _ _ f => f.mono fun g hg _ => ⟨by omega, by omega⟩)

set_option maxHeartbeats 16000000 in
set_option maxRecDepth 100000 in
theorem condition_any {P T : Nat} {E : Ps → Px Ex} {B : Ps → Px (List Sm)} (hE : MethC P T 70 E) (hB : MethB P T 71 B) : MethS P T 45 (condS E B) := by
  intro W p z h hr hz
  have hPl := h.lt
  have hTl := h.ltT
  have h0 := h.up (alB W sz)
  have hk0 := KP.al P W sz
  have hr0 := heap_alloc_new W sz
  have HE : Hid (MethC P T 70 E) := hE
  have HB : Hid (MethB P T 71 B) := hB
  have HEr : Hid (∀ W', KP P W W' → ErrR W') := fun W' hk => hr.kp (hr.ne h) hk
  clear h hE hB hr
  go_enter Tryz.func45, Tryz.ntmps45
  rcases bnd_some hz with ⟨x, hx, rfl⟩ | ⟨_, p1, hx, hz1⟩
  · have HT := takeSign_any h0 [105, 102] hx
    go_wp2_with fail
    refine HT.mono ?_
    rintro eX wX hpo
    obtain ⟨rfl, hkX⟩ := bad_panic hpo hk0
    exact ⟨rfl, rfl, hkX⟩
  have HT := takeSign_any h0 [105, 102] hx
  go_wp2_with fail
  refine HT.mono ?_
  rintro e1 w1 ⟨v1, rfl, rfl, h1, hj1⟩
  have hk1 := hk0.trans hj1
  have hr1 := hj1.heapEq hr0 (by omega)
  have hs1 : W.heap.size < w1.heap.size := (Array.getElem?_eq_some_iff.1 hr1).1
  clear HT hz hx hj1 hk0 h0 hr0
  rcases bnd_some hz1 with ⟨x, hx, rfl⟩ | ⟨y, p2, hx, hz2⟩
  · have HT := HE.out w1 _ _ h1 hx
    go_wp2_with fail
    refine HT.mono ?_
    rintro eX wX hpo
    obtain ⟨rfl, hkX⟩ := bad_panic hpo hk1
    exact ⟨rfl, rfl, hkX⟩
  have HT := HE.out w1 _ _ h1 hx
  go_wp2_with fail
  refine HT.mono ?_
  rintro e2 w2 ⟨v2, rfl, ⟨ce, rfl, hx2⟩, h2, hj2⟩
  obtain ⟨b1, d1, b2, d2, rfl⟩ := hx2.form
  have hk2 := hk1.trans hj2
  have hr2 := hj2.heapEq hr1 (by omega)
  have hs2 : W.heap.size < w2.heap.size := (Array.getElem?_eq_some_iff.1 hr2).1
  have sv3 : SV (w2.alloc (.cells #[.int .i64 7, .string ⟨#[]⟩, .slice none 0 0, .int .i64 y.kind, .int .i64 y.num, .string (mkB y.text), .slice b1 y.kids.length d1, .slice b2 y.names.length d2, .slice none 0 0, .slice none 0 0] 40)) w2.heap.size [.int .i64 7, .string ⟨#[]⟩, .slice none 0 0, .int .i64 y.kind, .int .i64 y.num, .string (mkB y.text), .slice b1 y.kids.length d1, .slice b2 y.names.length d2, .slice none 0 0, .slice none 0 0] := SV.new w2 rfl
  have h3 := h2.up (alB w2 (.cells #[.int .i64 7, .string ⟨#[]⟩, .slice none 0 0, .int .i64 y.kind, .int .i64 y.num, .string (mkB y.text), .slice b1 y.kids.length d1, .slice b2 y.names.length d2, .slice none 0 0, .slice none 0 0] 40))
  have hk3 := hk2.trans (KP.al P w2 (.cells #[.int .i64 7, .string ⟨#[]⟩, .slice none 0 0, .int .i64 y.kind, .int .i64 y.num, .string (mkB y.text), .slice b1 y.kids.length d1, .slice b2 y.names.length d2, .slice none 0 0, .slice none 0 0] 40))
  have HA : Hid ((w2.alloc (.cells #[.int .i64 7, .string ⟨#[]⟩, .slice none 0 0, .int .i64 y.kind, .int .i64 y.num, .string (mkB y.text), .slice b1 y.kids.length d1, .slice b2 y.names.length d2, .slice none 0 0, .slice none 0 0] 40)).heap[W.heap.size]? = some sz ∧ ExA (w2.alloc (.cells #[.int .i64 7, .string ⟨#[]⟩, .slice none 0 0, .int .i64 y.kind, .int .i64 y.num, .string (mkB y.text), .slice b1 y.kids.length d1, .slice b2 y.names.length d2, .slice none 0 0, .slice none 0 0] 40)) (fun g => W.heap.size < g ∧ g < w2.heap.size) y [.int .i64 y.kind, .int .i64 y.num, .string (mkB y.text), .slice b1 y.kids.length d1, .slice b2 y.names.length d2] ∧ (w2.alloc (.cells #[.int .i64 7, .string ⟨#[]⟩, .slice none 0 0, .int .i64 y.kind, .int .i64 y.num, .string (mkB y.text), .slice b1 y.kids.length d1, .slice b2 y.names.length d2, .slice none 0 0, .slice none 0 0] 40)).heap.size = w2.heap.size + 1) := ⟨(heap_al _ _ _ hs2).trans hr2, hx2.keep (fun g _ hg2 => heap_al w2 _ g hg2) (fun g hg hg2 => ⟨by omega, hg2⟩), World.size_alloc _ _⟩
  obtain ⟨w3, hw3⟩ : ∃ w3, w3 = w2.alloc (.cells #[.int .i64 7, .string ⟨#[]⟩, .slice none 0 0, .int .i64 y.kind, .int .i64 y.num, .string (mkB y.text), .slice b1 y.kids.length d1, .slice b2 y.names.length d2, .slice none 0 0, .slice none 0 0] 40) := ⟨_, rfl⟩
  rw [← hw3] at sv3 h3 hk3 HA
  have HW3 : Hid (w3 = w2.alloc (.cells #[.int .i64 7, .string ⟨#[]⟩, .slice none 0 0, .int .i64 y.kind, .int .i64 y.num, .string (mkB y.text), .slice b1 y.kids.length d1, .slice b2 y.names.length d2, .slice none 0 0, .slice none 0 0] 40)) := hw3
  clear hw3
  generalize hLb : w2.heap.size = Lb at *
  clear HT hz1 hx hj2 hk1 h1 hr1 hr2 hx2 h2 hk2
  rcases bnd_some hz2 with ⟨x, hx, rfl⟩ | ⟨bl, p3, hx, hz3⟩
  · have HT := HB.out w3 _ _ h3 (HEr.out _ hk3) hx
    go_wp2_with fail
    rw [← HW3.out]
    refine HT.mono ?_
    rintro eX wX hpo
    obtain ⟨rfl, hkX⟩ := bad_panic hpo hk3
    exact ⟨rfl, rfl, hkX⟩
  have HT := HB.out w3 _ _ h3 (HEr.out _ hk3) hx
  go_wp2_with fail
  rw [← HW3.out]
  refine HT.mono ?_
  rintro e4 w4 ⟨bv, rfl, hv4, h4, hj4⟩
  obtain ⟨ba, bc, rfl⟩ := hv4.shape
  have hsz3 := HA.out.2.2
  have sv4 := sv3.keep (hj4.blk Lb sv3.lt (by omega))
  have f4 := sv4.fz 8
  have c4 := sv4.at_ 8 rfl
  have sv5 := sv4.set 8 (.slice ba bl.length bc)
  have hs4 := hj4.size
  have h5 : PsA P T (w4.setCell ⟨Lb, 8, none⟩ (.slice ba bl.length bc)) p3 := h4.keep (Below.heap_setCell _ ⟨Lb, 8, none⟩ _ P (by show ¬ P = Lb; omega)) (Below.heap_setCell _ ⟨Lb, 8, none⟩ _ T (by show ¬ T = Lb; omega))
  have hk5 : KP P W (w4.setCell ⟨Lb, 8, none⟩ (.slice ba bl.length bc)) := (hk3.trans hj4).setIn (by omega) 8 _
  have hg5 : ∀ g, g ≠ Lb → (w4.setCell ⟨Lb, 8, none⟩ (.slice ba bl.length bc)).heap[g]? = w4.heap[g]? := fun g hg => Below.heap_setCell _ ⟨Lb, 8, none⟩ _ g hg
  have HA5 : Hid ((w4.setCell ⟨Lb, 8, none⟩ (.slice ba bl.length bc)).heap[W.heap.size]? = some sz ∧ ExA (w4.setCell ⟨Lb, 8, none⟩ (.slice ba bl.length bc)) (fun g => W.heap.size < g ∧ g < Lb) y [.int .i64 y.kind, .int .i64 y.num, .string (mkB y.text), .slice b1 y.kids.length d1, .slice b2 y.names.length d2] ∧ Lb < (w4.setCell ⟨Lb, 8, none⟩ (.slice ba bl.length bc)).heap.size ∧ VL (Lb + 1) (w4.setCell ⟨Lb, 8, none⟩ (.slice ba bl.length bc)) bl (.slice ba bl.length bc)) := ⟨(hg5 _ (by omega)).trans (hj4.heapEq HA.out.1 (by omega)), HA.out.2.1.keep (fun g hg hg2 => (hg5 g (by omega)).trans (hj4.blk g hg2 (by omega))) (fun _ hg _ => hg), by rw [size_set]; omega, by rw [← hsz3]; exact hv4.up fun g hg _ => hg5 g (by omega)⟩
  clear sv3 sv4 hv4 h4 hj4 hz2 hx hk3 h3 HA hs4 hsz3 hg5
  go_wp2_with fail
  clear f4 c4
  simp only [List.set_cons_zero, List.set_cons_succ] at sv5
  generalize w4.setCell ⟨Lb, 8, none⟩ (.slice ba bl.length bc) = w5 at *
  cases hb : p3.sees [[101, 108, 115, 101]] with
  | false =>
    simp only [hb, cond_false] at hz3
    cases hz3
    refine (passSign_no h5 (x := [101, 108, 115, 101]) hb).mono ?_
    rintro e6 w6 ⟨rfl, hj6, h6⟩
    have hl5 := HA5.out.2.2.1
    have sv6 := sv5.keep (hj6.blk Lb hl5 (by omega))
    have hr6 := hj6.heapEq HA5.out.1 (by omega)
    have hx6 : ExA w6 (fun g => W.heap.size < g) y [.int .i64 y.kind, .int .i64 y.num, .string (mkB y.text), .slice b1 y.kids.length d1, .slice b2 y.names.length d2] := HA5.out.2.1.keep (fun g hg hg2 => hj6.blk g hg2 (by omega)) (fun _ hg _ => hg.1)
    have hv6 : VL (W.heap.size + 1) w6 bl (.slice ba bl.length bc) := (HA5.out.2.2.2.up fun g hg hg2 => hj6.blk g hg2 (by omega)).le (by omega)
    have hsm : SmA w6 (fun g => W.heap.size ≤ g ∧ g ≠ W.heap.size) ⟨7, [], [], y, bl, []⟩ [.int .i64 7, .string ⟨#[]⟩, .slice none 0 0, .int .i64 y.kind, .int .i64 y.num, .string (mkB y.text), .slice b1 y.kids.length d1, .slice b2 y.names.length d2, .slice ba bl.length bc, .slice none 0 0] := sm_of (k := 7) (t := []) (ns := []) hx6 (World.ownsRow_nil _ _ _ _) (fun g hg => by cases hg) hv6 (VL.nil _ _)
    obtain ⟨t2, i2, o2, l2, j2⟩ := fin10 hr6 rfl hsm
    have HZ : Hid (PoA P T (VS W.heap.size) W _ (.returned (.agg (([.int .i64 7, .string ⟨#[]⟩, .slice none 0 0, .int .i64 y.kind, .int .i64 y.num, .string (mkB y.text), .slice b1 y.kids.length d1, .slice b2 y.names.length d2, .slice ba bl.length bc, .slice none 0 0] : List Value)).toArray)) (w6.setCells W.heap.size 0 [.int .i64 7, .string ⟨#[]⟩, .slice none 0 0, .int .i64 y.kind, .int .i64 y.num, .string (mkB y.text), .slice b1 y.kids.length d1, .slice b2 y.names.length d2, .slice ba bl.length bc, .slice none 0 0])) := poS_fin (Nat.le_refl _) hsm (fun g hg => hg) h6 (hk5.trans hj6) hPl hTl
    have HG : Hid _ := (⟨sv6.2.1, j2, t2, i2, o2, l2⟩ : _ ∧ _ ∧ _ ∧ _ ∧ _ ∧ _)
    clear t2 i2 o2 l2 j2 hsm hv6 hx6 hr6 sv6 hj6 h6 hk5 h5 sv5 HA5
    go_wp2_with (first
      | (refine wpList_load_mid rfl 40 (Operand.tmp 3) rfl Lb 0 rfl _ _ HG.out.1 Tryz.underlying40 rfl HG.out.2.1 ?_)
      | (refine wpList_store_mid rfl 40 (Operand.tmp 2) (Operand.tmp 17) rfl W.heap.size 0 _ rfl rfl HG.out.2.2.1 HG.out.2.2.2.1 HG.out.2.2.2.2.1 ?_)
      | fail)
    refine bodyPost_ret (v := .agg _) (res_one Tryz.results45 _ _ rfl HG.out.2.2.2.2.2) rfl HZ.out
  | true =>
    simp only [hb, cond_true] at hz3
    refine (passSign_yes h5 (x := [101, 108, 115, 101]) hb).mono ?_
    rintro e6 w6 ⟨rfl, hj6, h6⟩
    have hl5 := HA5.out.2.2.1
    have hk6 := hk5.trans hj6
    rcases bnd_some hz3 with ⟨x, hx, rfl⟩ | ⟨es, p7, hx, hz4⟩
    · have HT := HB.out w6 _ _ h6 (HEr.out _ hk6) hx
      go_wp2_with fail
      refine HT.mono ?_
      rintro eX wX hpo
      obtain ⟨rfl, hkX⟩ := bad_panic hpo hk6
      exact ⟨rfl, rfl, hkX⟩
    have HT := HB.out w6 _ _ h6 (HEr.out _ hk6) hx
    cases hz4
    go_wp2_with fail
    refine HT.mono ?_
    rintro e7 w7 ⟨ev, rfl, hv7, h7, hj7⟩
    obtain ⟨ea, ec, rfl⟩ := hv7.shape
    have hj := hj6.trans hj7
    have hs6 := hj6.size
    have hs7 := hj7.size
    have sv7 := sv5.keep (hj.blk Lb hl5 (by omega))
    have f7 := sv7.fz 9
    have c7 := sv7.at_ 9 rfl
    have sv8 := sv7.set 9 (.slice ea es.length ec)
    simp only [List.set_cons_zero, List.set_cons_succ] at sv8
    have hg8 : ∀ g, g ≠ Lb → (w7.setCell ⟨Lb, 9, none⟩ (.slice ea es.length ec)).heap[g]? = w7.heap[g]? := fun g hg => Below.heap_setCell _ ⟨Lb, 9, none⟩ _ g hg
    have hr8 : (w7.setCell ⟨Lb, 9, none⟩ (.slice ea es.length ec)).heap[W.heap.size]? = some sz := (hg8 _ (by omega)).trans (hj.heapEq HA5.out.1 (by omega))
    have hx8 : ExA (w7.setCell ⟨Lb, 9, none⟩ (.slice ea es.length ec)) (fun g => W.heap.size < g) y [.int .i64 y.kind, .int .i64 y.num, .string (mkB y.text), .slice b1 y.kids.length d1, .slice b2 y.names.length d2] := HA5.out.2.1.keep (fun g hg hg2 => (hg8 g (by omega)).trans (hj.blk g hg2 (by omega))) (fun _ hg _ => hg.1)
    have hv8 : VL (W.heap.size + 1) (w7.setCell ⟨Lb, 9, none⟩ (.slice ea es.length ec)) bl (.slice ba bl.length bc) := (HA5.out.2.2.2.up fun g hg hg2 => (hg8 g (by omega)).trans (hj.blk g hg2 (by omega))).le (by omega)
    have he8 : VL (W.heap.size + 1) (w7.setCell ⟨Lb, 9, none⟩ (.slice ea es.length ec)) es (.slice ea es.length ec) := (hv7.up fun g hg _ => hg8 g (by omega)).le (by omega)
    have h8 : PsA P T (w7.setCell ⟨Lb, 9, none⟩ (.slice ea es.length ec)) p7 := h7.keep (hg8 P (by omega)) (hg8 T (by omega))
    have hk8 : KP P W (w7.setCell ⟨Lb, 9, none⟩ (.slice ea es.length ec)) := (hk5.trans hj).setIn (by omega) 9 _
    have hsm : SmA (w7.setCell ⟨Lb, 9, none⟩ (.slice ea es.length ec)) (fun g => W.heap.size ≤ g ∧ g ≠ W.heap.size) ⟨7, [], [], y, bl, es⟩ [.int .i64 7, .string ⟨#[]⟩, .slice none 0 0, .int .i64 y.kind, .int .i64 y.num, .string (mkB y.text), .slice b1 y.kids.length d1, .slice b2 y.names.length d2, .slice ba bl.length bc, .slice ea es.length ec] := sm_of (k := 7) (t := []) (ns := []) hx8 (World.ownsRow_nil _ _ _ _) (fun g hg => by cases hg) hv8 he8
    obtain ⟨t2, i2, o2, l2, j2⟩ := fin10 hr8 rfl hsm
    have HZ : Hid (PoA P T (VS W.heap.size) W _ (.returned (.agg (([.int .i64 7, .string ⟨#[]⟩, .slice none 0 0, .int .i64 y.kind, .int .i64 y.num, .string (mkB y.text), .slice b1 y.kids.length d1, .slice b2 y.names.length d2, .slice ba bl.length bc, .slice ea es.length ec] : List Value)).toArray)) ((w7.setCell ⟨Lb, 9, none⟩ (.slice ea es.length ec)).setCells W.heap.size 0 [.int .i64 7, .string ⟨#[]⟩, .slice none 0 0, .int .i64 y.kind, .int .i64 y.num, .string (mkB y.text), .slice b1 y.kids.length d1, .slice b2 y.names.length d2, .slice ba bl.length bc, .slice ea es.length ec])) := poS_fin (Nat.le_refl _) hsm (fun g hg => hg) h8 hk8 hPl hTl
    have HG : Hid _ := (⟨sv8.2.1, j2, t2, i2, o2, l2⟩ : _ ∧ _ ∧ _ ∧ _ ∧ _ ∧ _)
    clear t2 i2 o2 l2 j2 hsm hv8 he8 hx8 hr8 sv8 sv7 hj hj6 hj7 h6 h7 h8 hk5 hk6 hk8 h5 sv5 HA5 HT hv7 hg8
    go_wp2_with (first
      | (refine wpList_load_mid rfl 40 (Operand.tmp 3) rfl Lb 0 rfl _ _ HG.out.1 Tryz.underlying40 rfl HG.out.2.1 ?_)
      | (refine wpList_store_mid rfl 40 (Operand.tmp 2) (Operand.tmp 17) rfl W.heap.size 0 _ rfl rfl HG.out.2.2.1 HG.out.2.2.2.1 HG.out.2.2.2.2.1 ?_)
      | fail)
    refine bodyPost_ret (v := .agg _) (res_one Tryz.results45 _ _ rfl HG.out.2.2.2.2.2) rfl HZ.out
end Go.Proofs.YtcaeeackccgclaaGreatDoor

/- loop. -/
namespace Go.Proofs.YtcaeeackccgclaaGreatDoor
open Go.RowKit Go.Shelf
attribute [local go_sem ↓] fld0 fld1 fld2 fld3

set_option maxHeartbeats 16000000 in
set_option maxRecDepth 100000 in
theorem loop_any {P T : Nat} {E : Ps → Px Ex} {B : Ps → Px (List Sm)} (hE : MethC P T 70 E) (hB : MethB P T 71 B) : MethS P T 46 (loopS E B) := by
  intro W p z h hr hz
  have hPl := h.lt
  have hTl := h.ltT
  have h0 := h.up (alB W sz)
  have hk0 := KP.al P W sz
  have hr0 := heap_alloc_new W sz
  have HE : Hid (MethC P T 70 E) := hE
  have HB : Hid (MethB P T 71 B) := hB
  have HEr : Hid (∀ W', KP P W W' → ErrR W') := fun W' hk => hr.kp (hr.ne h) hk
  clear h hE hB hr
  go_enter Tryz.func46, Tryz.ntmps46
  rcases bnd_some hz with ⟨x, hx, rfl⟩ | ⟨_, p1, hx, hz1⟩
  · have HT := takeSign_any h0 [102, 111, 114] hx
    go_wp2_with fail
    refine HT.mono ?_
    rintro eX wX hpo
    obtain ⟨rfl, hkX⟩ := bad_panic hpo hk0
    exact ⟨rfl, rfl, hkX⟩
  have HT := takeSign_any h0 [102, 111, 114] hx
  go_wp2_with fail
  refine HT.mono ?_
  rintro e1 w1 ⟨v1, rfl, rfl, h1, hj1⟩
  have hk1 := hk0.trans hj1
  have hr1 := hj1.heapEq hr0 (by omega)
  have hs1 : W.heap.size < w1.heap.size := (Array.getElem?_eq_some_iff.1 hr1).1
  clear HT hz hx hj1 hk0 h0 hr0
  rcases bnd_some hz1 with ⟨x, hx, rfl⟩ | ⟨t, p2, hx, hz2⟩
  · have HT := take2_any h1 1 (by decide) hx
    go_wp2_with fail
    refine HT.mono ?_
    rintro eX wX hpo
    obtain ⟨rfl, hkX⟩ := bad_panic hpo hk1
    exact ⟨rfl, rfl, hkX⟩
  have HT := take2_any h1 1 (by decide) hx
  go_wp2_with fail
  refine HT.mono ?_
  rintro e2 w2 ⟨v2, rfl, rfl, h2, hj2⟩
  have hk2 := hk1.trans hj2
  have hr2 := hj2.heapEq hr1 (by omega)
  have hs2 : W.heap.size < w2.heap.size := (Array.getElem?_eq_some_iff.1 hr2).1
  have sv3 : SV (w2.alloc (.cells #[.int .i64 8, .string (mkB t.text), .slice none 0 0, .int .i64 0, .int .i64 0, .string ⟨#[]⟩, .slice none 0 0, .slice none 0 0, .slice none 0 0, .slice none 0 0] 40)) w2.heap.size [.int .i64 8, .string (mkB t.text), .slice none 0 0, .int .i64 0, .int .i64 0, .string ⟨#[]⟩, .slice none 0 0, .slice none 0 0, .slice none 0 0, .slice none 0 0] := SV.new w2 rfl
  have h3 := h2.up (alB w2 (.cells #[.int .i64 8, .string (mkB t.text), .slice none 0 0, .int .i64 0, .int .i64 0, .string ⟨#[]⟩, .slice none 0 0, .slice none 0 0, .slice none 0 0, .slice none 0 0] 40))
  have hk3 := hk2.trans (KP.al P w2 (.cells #[.int .i64 8, .string (mkB t.text), .slice none 0 0, .int .i64 0, .int .i64 0, .string ⟨#[]⟩, .slice none 0 0, .slice none 0 0, .slice none 0 0, .slice none 0 0] 40))
  have HA : Hid ((w2.alloc (.cells #[.int .i64 8, .string (mkB t.text), .slice none 0 0, .int .i64 0, .int .i64 0, .string ⟨#[]⟩, .slice none 0 0, .slice none 0 0, .slice none 0 0, .slice none 0 0] 40)).heap[W.heap.size]? = some sz ∧ (w2.alloc (.cells #[.int .i64 8, .string (mkB t.text), .slice none 0 0, .int .i64 0, .int .i64 0, .string ⟨#[]⟩, .slice none 0 0, .slice none 0 0, .slice none 0 0, .slice none 0 0] 40)).heap.size = w2.heap.size + 1) := ⟨(heap_al _ _ _ hs2).trans hr2, World.size_alloc _ _⟩
  obtain ⟨w3, hw3⟩ : ∃ w3, w3 = w2.alloc (.cells #[.int .i64 8, .string (mkB t.text), .slice none 0 0, .int .i64 0, .int .i64 0, .string ⟨#[]⟩, .slice none 0 0, .slice none 0 0, .slice none 0 0, .slice none 0 0] 40) := ⟨_, rfl⟩
  rw [← hw3] at sv3 h3 hk3 HA
  have HW3 : Hid (w3 = w2.alloc (.cells #[.int .i64 8, .string (mkB t.text), .slice none 0 0, .int .i64 0, .int .i64 0, .string ⟨#[]⟩, .slice none 0 0, .slice none 0 0, .slice none 0 0, .slice none 0 0] 40)) := hw3
  clear hw3
  generalize hLb : w2.heap.size = Lb at *
  clear HT hz1 hx hj2 hk1 h1 hr1 hr2 h2 hk2
  rcases bnd_some hz2 with ⟨x, hx, rfl⟩ | ⟨_, p3, hx, hz3⟩
  · have HT := takeSign_any h3 [105, 110] hx
    go_wp2_with fail
    rw [← HW3.out]
    refine HT.mono ?_
    rintro eX wX hpo
    obtain ⟨rfl, hkX⟩ := bad_panic hpo hk3
    exact ⟨rfl, rfl, hkX⟩
  have HT := takeSign_any h3 [105, 110] hx
  go_wp2_with fail
  rw [← HW3.out]
  refine HT.mono ?_
  rintro e4 w4 ⟨v4, rfl, rfl, h4, hj4⟩
  have hsz3 := HA.out.2
  have sv4 := sv3.keep (hj4.blk Lb sv3.lt (by omega))
  have hk4 := hk3.trans hj4
  have hr4 := hj4.heapEq HA.out.1 (by omega)
  have hs4 := hj4.size
  clear HT hz2 hx hj4 hk3 h3 sv3 HA HW3
  rcases bnd_some hz3 with ⟨x, hx, rfl⟩ | ⟨y, p5, hx, hz5⟩
  · have HT := HE.out w4 _ _ h4 hx
    go_wp2_with fail
    refine HT.mono ?_
    rintro eX wX hpo
    obtain ⟨rfl, hkX⟩ := bad_panic hpo hk4
    exact ⟨rfl, rfl, hkX⟩
  have HT := HE.out w4 _ _ h4 hx
  go_wp2_with fail
  refine HT.mono ?_
  rintro e5 w5 ⟨v5, rfl, ⟨ce, rfl, hx5⟩, h5, hj5⟩
  obtain ⟨b1, d1, b2, d2, hce⟩ := hx5.form
  have HCe : Hid (ce = [.int .i64 y.kind, .int .i64 y.num, .string (mkB y.text), .slice b1 y.kids.length d1, .slice b2 y.names.length d2]) := hce
  have hs5 := hj5.size
  have sv5 := sv4.keep (hj5.blk Lb sv4.lt (by omega))
  have hr5 := hj5.heapEq hr4 (by omega)
  have ht5 : w5.there Lb 3 5 := fun j hj => by have := sv5.there (3 + j) (by omega); simpa using this
  have HF : Hid (w5.there Lb 3 ce.toArray.size ∧ (Tryz.prog.info? 38).map (·.size) = some ce.toArray.size ∧ ce.toArray.all (·.oneCell') = true) := ⟨by have h9 : ce.toArray.size = 5 := hx5.len; rw [h9]; exact ht5, by have h9 : ce.toArray.size = 5 := hx5.len; rw [h9]; exact szE, all_oneCell_toArray hx5.one⟩
  have sv6 : SV (w5.setCells Lb 3 ce) Lb [.int .i64 8, .string (mkB t.text), .slice none 0 0, .int .i64 y.kind, .int .i64 y.num, .string (mkB y.text), .slice b1 y.kids.length d1, .slice b2 y.names.length d2, .slice none 0 0, .slice none 0 0] := by rw [hce]; exact sv5.sets [.int .i64 y.kind, .int .i64 y.num, .string (mkB y.text), .slice b1 y.kids.length d1, .slice b2 y.names.length d2] 3
  have hg6 : ∀ g, g ≠ Lb → (w5.setCells Lb 3 ce).heap[g]? = w5.heap[g]? := fun g hg => heap_sets Lb ce 3 w5 g hg
  have h6 : PsA P T (w5.setCells Lb 3 ce) p5 := h5.keep (hg6 P (by omega)) (hg6 T (by omega))
  have hk6 : KP P W (w5.setCells Lb 3 ce) := ⟨(os_sets _ _ _ _).trans (hk4.trans hj5).os, (tape_sets _ _ _ _).trans (hk4.trans hj5).tape, (out_sets _ _ _ _).trans (hk4.trans hj5).output, by rw [size_sets]; exact (hk4.trans hj5).size, fun g hg hp => (hg6 g (by omega)).trans ((hk4.trans hj5).blk g hg hp)⟩
  have HA6 : Hid ((w5.setCells Lb 3 ce).heap[W.heap.size]? = some sz ∧ ExA (w5.setCells Lb 3 ce) (fun g => Lb < g ∧ g < w5.heap.size) y ce ∧ (w5.setCells Lb 3 ce).heap.size = w5.heap.size ∧ Lb < w5.heap.size) := ⟨(hg6 _ (by omega)).trans hr5, hx5.keep (fun g hg _ => hg6 g (by omega)) (fun g hg hg2 => ⟨by omega, hg2⟩), size_sets _ _ _ _, by omega⟩
  obtain ⟨w6, hw6⟩ : ∃ w6, w6 = (w5.setCells Lb 3 ce) := ⟨_, rfl⟩
  rw [← hw6] at sv6 h6 hk6 HA6
  have HW6 : Hid (w6 = (w5.setCells Lb 3 ce)) := hw6
  clear hw6 sv4 sv5 h4 h5 hk4 hr4 hr5 hj5 hx5 HT hz3 hx ht5 hg6 hce
  rcases bnd_some hz5 with ⟨x, hx, rfl⟩ | ⟨bl, p7, hx, hz7⟩
  · have HT := HB.out w6 _ _ h6 (HEr.out _ hk6) hx
    go_wp2_with (first
      | (refine wpList_store_mid rfl 38 (Operand.tmp 14) (Operand.tmp 13) rfl Lb 3 ce.toArray rfl rfl HF.out.1 HF.out.2.1 HF.out.2.2 ?_)
      | fail)
    rw [← HW6.out]
    refine HT.mono ?_
    rintro eX wX hpo
    obtain ⟨rfl, hkX⟩ := bad_panic hpo hk6
    exact ⟨rfl, rfl, hkX⟩
  have HT := HB.out w6 _ _ h6 (HEr.out _ hk6) hx
  cases hz7
  go_wp2_with (first
      | (refine wpList_store_mid rfl 38 (Operand.tmp 14) (Operand.tmp 13) rfl Lb 3 ce.toArray rfl rfl HF.out.1 HF.out.2.1 HF.out.2.2 ?_)
      | fail)
  rw [← HW6.out]
  refine HT.mono ?_
  rintro e7 w7 ⟨bv, rfl, hv7, h7, hj7⟩
  obtain ⟨ba, bc, rfl⟩ := hv7.shape
  obtain rfl := HCe.out
  have hsz6 := HA6.out.2.2.1
  have hl6 := HA6.out.2.2.2
  have hs7 := hj7.size
  have sv7 := sv6.keep (hj7.blk Lb (by omega) (by omega))
  have f7 := sv7.fz 8
  have c7 := sv7.at_ 8 rfl
  have sv8 := sv7.set 8 (.slice ba bl.length bc)
  simp only [List.set_cons_zero, List.set_cons_succ] at sv8
  have hg8 : ∀ g, g ≠ Lb → (w7.setCell ⟨Lb, 8, none⟩ (.slice ba bl.length bc)).heap[g]? = w7.heap[g]? := fun g hg => Below.heap_setCell _ ⟨Lb, 8, none⟩ _ g hg
  have hr8 : (w7.setCell ⟨Lb, 8, none⟩ (.slice ba bl.length bc)).heap[W.heap.size]? = some sz := (hg8 _ (by omega)).trans (hj7.heapEq HA6.out.1 (by omega))
  have hx8 : ExA (w7.setCell ⟨Lb, 8, none⟩ (.slice ba bl.length bc)) (fun g => W.heap.size < g) y [.int .i64 y.kind, .int .i64 y.num, .string (mkB y.text), .slice b1 y.kids.length d1, .slice b2 y.names.length d2] := HA6.out.2.1.keep (fun g hg hg2 => (hg8 g (by omega)).trans (hj7.blk g hg2 (by omega))) (fun g hg _ => by have := hg.1; omega)
  have hv8 : VL (W.heap.size + 1) (w7.setCell ⟨Lb, 8, none⟩ (.slice ba bl.length bc)) bl (.slice ba bl.length bc) := (hv7.up fun g hg _ => hg8 g (by omega)).le (by omega)
  have h8 : PsA P T (w7.setCell ⟨Lb, 8, none⟩ (.slice ba bl.length bc)) p7 := h7.keep (hg8 P (by omega)) (hg8 T (by omega))
  have hk8 : KP P W (w7.setCell ⟨Lb, 8, none⟩ (.slice ba bl.length bc)) := (hk6.trans hj7).setIn (by omega) 8 _
  have hsm : SmA (w7.setCell ⟨Lb, 8, none⟩ (.slice ba bl.length bc)) (fun g => W.heap.size ≤ g ∧ g ≠ W.heap.size) ⟨8, t.text, [], y, bl, []⟩ [.int .i64 8, .string (mkB t.text), .slice none 0 0, .int .i64 y.kind, .int .i64 y.num, .string (mkB y.text), .slice b1 y.kids.length d1, .slice b2 y.names.length d2, .slice ba bl.length bc, .slice none 0 0] := sm_of (k := 8) (t := t.text) (ns := []) hx8 (World.ownsRow_nil _ _ _ _) (fun g hg => by cases hg) hv8 (VL.nil _ _)
  obtain ⟨t2, i2, o2, l2, j2⟩ := fin10 hr8 rfl hsm
  have HZ : Hid (PoA P T (VS W.heap.size) W _ (.returned (.agg (([.int .i64 8, .string (mkB t.text), .slice none 0 0, .int .i64 y.kind, .int .i64 y.num, .string (mkB y.text), .slice b1 y.kids.length d1, .slice b2 y.names.length d2, .slice ba bl.length bc, .slice none 0 0] : List Value)).toArray)) ((w7.setCell ⟨Lb, 8, none⟩ (.slice ba bl.length bc)).setCells W.heap.size 0 [.int .i64 8, .string (mkB t.text), .slice none 0 0, .int .i64 y.kind, .int .i64 y.num, .string (mkB y.text), .slice b1 y.kids.length d1, .slice b2 y.names.length d2, .slice ba bl.length bc, .slice none 0 0])) := poS_fin (Nat.le_refl _) hsm (fun g hg => hg) h8 hk8 hPl hTl
  have HG : Hid _ := (⟨sv8.2.1, j2, t2, i2, o2, l2⟩ : _ ∧ _ ∧ _ ∧ _ ∧ _ ∧ _)
  clear t2 i2 o2 l2 j2 hsm hv8 hx8 hr8 sv8 sv7 hj7 h7 h8 hk8 hk6 h6 sv6 HA6 HT hv7 hg8 hsz6
  go_wp2_with (first
    | (refine wpList_load_mid rfl 40 (Operand.tmp 3) rfl Lb 0 rfl _ _ HG.out.1 Tryz.underlying40 rfl HG.out.2.1 ?_)
    | (refine wpList_store_mid rfl 40 (Operand.tmp 2) (Operand.tmp 18) rfl W.heap.size 0 _ rfl rfl HG.out.2.2.1 HG.out.2.2.2.1 HG.out.2.2.2.2.1 ?_)
    | fail)
  refine bodyPost_ret (v := .agg _) (res_one Tryz.results46 _ _ rfl HG.out.2.2.2.2.2) rfl HZ.out
end Go.Proofs.YtcaeeackccgclaaGreatDoor

/- SyN2: one more name, in (*foundry/syntax.parser).definition$1. -/
namespace Go.Proofs.YtcaeeackccgclaaGreatDoor
open Go.RowKit Go.Shelf
attribute [local go_sem ↓] fld0 fld1 fld2 fld3

set_option maxHeartbeats 40000000 in
set_option linter.unusedSimpArgs false in
set_option linter.unusedVariables false in
set_option maxRecDepth 100000 in
theorem nr_de {P T lo Vb b : Nat} {W : World} {xs : List (List UInt8)} {nv : Value} {p : Ps} {zN : Except Ft (List UInt8 × Ps)} {x2 x3 x4 x5 x6 x7 x8 x9 x10 : Value} (hlo : lo ≤ W.heap.size) (hPl : P < lo) (hnV : nv.ownBlock ≠ some Vb) (hbV : b ≠ Vb) (hnb : nv.ownBlock ≠ some b)
    (hps : PsA P T W p) (hnm : ∀ W', KP P W W' → W'.cell? ⟨Vb, 2, none⟩ = some nv ∧ W'.frozen? ⟨Vb, 2, none⟩ = false ∧ W'.ownsRow lo 9 1 nv xs.length (xs.map sv) ∧ W'.cell? ⟨b, 0, none⟩ = some (pt P)) (hn1 : xs.length ≤ 1000000) (hz : tkN xs p = some zN) (Q0 : Exit → Act → World → Prop) (hQp : ∀ c (a a' : Act) w, a.defers = a'.defers → Q0 (.panic c) a w → Q0 (.panic c) a' w)
    (hpan : ∀ (x : Ft) (a : Act) (w' : World), a.defers = [] → zN = .error x → KP P W w' → Q0 (.panic (PC x.1 x.2)) a w')
    (hok : ∀ (u2 u3 u4 u5 u6 u7 u8 u9 u10 : Value) (x : List UInt8) (q : Ps) (X w2 : World) (g' cap' : Nat), zN = .ok (x, q) → KP P W X → PsA P T X q → X.ownsRow lo 9 1 nv xs.length (xs.map sv) → X.grownBy w2 nv.ownBlock → (nv.ownBlock = some g' ∨ g' = X.heap.size) → w2.ownsRow lo 9 1 (.slice (some ⟨g', 0, none⟩) (xs.length + 1) cap') (xs.length + 1) (xs.map sv ++ [sv x]) → Q0 .normal ⟨#[pt Vb, pt b, u2, u3, u4, u5, u6, u7, u8, u9, u10], []⟩ (w2.setCell ⟨Vb, 2, none⟩ (.slice (some ⟨g', 0, none⟩) (xs.length + 1) cap'))) :
    Code.wp Tryz.prog (subW [] (Tryz.f75.body.getD .skip)) Q0 ⟨#[pt Vb, pt b, x2, x3, x4, x5, x6, x7, x8, x9, x10], []⟩ W := by
  have infN : (Tryz.prog.info? 9).map (fun i => (i.zero, i.size, i.bytes)) = some (some (.string ⟨#[]⟩), 1, 16) := by kernel_rfl
  obtain ⟨i0, hi, hz0, hz1, hz2⟩ := info_p infN
  clear infN
  have HNm : Hid (∀ W', KP P W W' → W'.cell? ⟨Vb, 2, none⟩ = some nv ∧ W'.frozen? ⟨Vb, 2, none⟩ = false ∧ W'.ownsRow lo 9 1 nv xs.length (xs.map sv) ∧ W'.cell? ⟨b, 0, none⟩ = some (pt P)) := hnm
  have HPn : Hid (∀ (x : Ft) (a : Act) (w' : World), a.defers = [] → zN = .error x → KP P W w' → Q0 (.panic (PC x.1 x.2)) a w') := hpan
  have HOk : Hid (∀ (u2 u3 u4 u5 u6 u7 u8 u9 u10 : Value) (x : List UInt8) (q : Ps) (X w2 : World) (g' cap' : Nat), zN = .ok (x, q) → KP P W X → PsA P T X q → X.ownsRow lo 9 1 nv xs.length (xs.map sv) → X.grownBy w2 nv.ownBlock → (nv.ownBlock = some g' ∨ g' = X.heap.size) → w2.ownsRow lo 9 1 (.slice (some ⟨g', 0, none⟩) (xs.length + 1) cap') (xs.length + 1) (xs.map sv ++ [sv x]) → Q0 .normal ⟨#[pt Vb, pt b, u2, u3, u4, u5, u6, u7, u8, u9, u10], []⟩ (w2.setCell ⟨Vb, 2, none⟩ (.slice (some ⟨g', 0, none⟩) (xs.length + 1) cap'))) := hok
  have hk0 : KP P W W.drew := (KP.refl P W).drew
  obtain ⟨c_0, f_0, r_0, sb_0⟩ := hnm W.drew hk0
  obtain ⟨an, cn, hnv⟩ := row_shape r_0
  have HD0 := takeNew_any (hps.drewN 1) (SgA.of_own r_0 hPl hn1) hz
  clear hnm hpan hok hz
  subst hnv
  have HQp : Hid (∀ c (a a' : Act) w, a.defers = a'.defers → Q0 (.panic c) a w → Q0 (.panic c) a' w) := hQp
  clear hQp
  conv => arg 2; whnf
  match zN with
  | .error x =>
    refine wp_region_held_drew (S := fun V => V.cell? ⟨b, 0, none⟩ = some (pt P)) (by kernel_rfl) sb_0 (fun hHeld => ?_)
    refine tK (i := 0) (v := .pointer (some ⟨Vb, 2, none⟩)) rfl (by kernel_rfl) HQp.out (Or.inl ⟨by rfl, ?_⟩) (by assumption) ?_
    · intro V hSV
      try dsimp only at hSV
      go_simp
      try with_reducible rfl
      try (intro h9; exfalso; omega)
    try simp only [Act.put, pA, pB, pC, pD, pE, pF]
    refine tK (i := 2) (v := pt P) rfl (by kernel_rfl) HQp.out (Or.inl ⟨by rfl, ?_⟩) (by assumption) ?_
    · intro V hSV
      try dsimp only at hSV
      go_simp
      try with_reducible rfl
      try (intro h9; exfalso; omega)
    try simp only [Act.put, pA, pB, pC, pD, pE, pF]
    refine tK (i := 3) (v := .pointer (some ⟨Vb, 2, none⟩)) rfl (by kernel_rfl) HQp.out (Or.inl ⟨by rfl, ?_⟩) (by assumption) ?_
    · intro V hSV
      try dsimp only at hSV
      go_simp
      try with_reducible rfl
      try (intro h9; exfalso; omega)
    try simp only [Act.put, pA, pB, pC, pD, pE, pF]
    refine wpAnyH_ready (rs := [1, 4]) (by kernel_rfl) (by simp) (AllReadyH.cons rfl (fun K hK => ?_) (AllReadyH.cons rfl (fun K hK => ?_) AllReadyH.nil))
    go_simp
    refine hK.out _ _ hHeld (fun hHeld => ?_)
    clear hK K
    try simp only [Act.put, pA, pB, pC, pD, pE, pF]
    refine wpAnyH_ready (rs := [4]) (by kernel_rfl) (by simp) (AllReadyH.cons rfl (fun K hK => ?_) AllReadyH.nil)
    go_simp
    refine hK.out _ _ hHeld (fun hHeld => ?_)
    clear hK K
    try simp only [Act.put, pA, pB, pC, pD, pE, pF]
    refine wpAnyH_ready (rs := [5]) (by kernel_rfl) (by simp) (AllReadyH.cons rfl (fun K hK => ?_) AllReadyH.nil)
    go_simp
    refine HD0.mono ?_
    rintro e1 w1 hpo
    obtain ⟨rfl, hk1⟩ := bad_panic hpo hk0
    exact HPn.out _ _ _ rfl rfl hk1
    go_simp
    refine hK.out _ _ hHeld (fun hHeld => ?_)
    clear hK K
    try simp only [Act.put, pA, pB, pC, pD, pE, pF]
    refine wpAnyH_ready (rs := [1, 5]) (by kernel_rfl) (by simp) (AllReadyH.cons rfl (fun K hK => ?_) (AllReadyH.cons rfl (fun K hK => ?_) AllReadyH.nil))
    go_simp
    refine hK.out _ _ hHeld (fun hHeld => ?_)
    clear hK K
    try simp only [Act.put, pA, pB, pC, pD, pE, pF]
    refine wpAnyH_ready (rs := [5]) (by kernel_rfl) (by simp) (AllReadyH.cons rfl (fun K hK => ?_) AllReadyH.nil)
    go_simp
    refine HD0.mono ?_
    rintro e1 w1 hpo
    obtain ⟨rfl, hk1⟩ := bad_panic hpo hk0
    exact HPn.out _ _ _ rfl rfl hk1
    go_simp
    refine HD0.mono ?_
    rintro e1 w1 hpo
    obtain ⟨rfl, hk1⟩ := bad_panic hpo hk0
    exact HPn.out _ _ _ rfl rfl hk1
  | .ok (x, q) =>
    refine wp_region_held_drew (S := fun V => V.cell? ⟨b, 0, none⟩ = some (pt P)) (by kernel_rfl) sb_0 (fun hHeld => ?_)
    refine tK (i := 0) (v := .pointer (some ⟨Vb, 2, none⟩)) rfl (by kernel_rfl) HQp.out (Or.inl ⟨by rfl, ?_⟩) (by assumption) ?_
    · intro V hSV
      try dsimp only at hSV
      go_simp
      try with_reducible rfl
      try (intro h9; exfalso; omega)
    try simp only [Act.put, pA, pB, pC, pD, pE, pF]
    refine tK (i := 2) (v := pt P) rfl (by kernel_rfl) HQp.out (Or.inl ⟨by rfl, ?_⟩) (by assumption) ?_
    · intro V hSV
      try dsimp only at hSV
      go_simp
      try with_reducible rfl
      try (intro h9; exfalso; omega)
    try simp only [Act.put, pA, pB, pC, pD, pE, pF]
    refine tK (i := 3) (v := .pointer (some ⟨Vb, 2, none⟩)) rfl (by kernel_rfl) HQp.out (Or.inl ⟨by rfl, ?_⟩) (by assumption) ?_
    · intro V hSV
      try dsimp only at hSV
      go_simp
      try with_reducible rfl
      try (intro h9; exfalso; omega)
    try simp only [Act.put, pA, pB, pC, pD, pE, pF]
    refine wpAnyH_ready (rs := [1, 4]) (by kernel_rfl) (by simp) (AllReadyH.cons rfl (fun K hK => ?_) (AllReadyH.cons rfl (fun K hK => ?_) AllReadyH.nil))
    go_simp
    refine hK.out _ _ hHeld (fun hHeld => ?_)
    clear hK K
    try simp only [Act.put, pA, pB, pC, pD, pE, pF]
    refine wpAnyH_ready (rs := [4]) (by kernel_rfl) (by simp) (AllReadyH.cons rfl (fun K hK => ?_) AllReadyH.nil)
    go_simp
    refine hK.out _ _ hHeld (fun hHeld => ?_)
    clear hK K
    try simp only [Act.put, pA, pB, pC, pD, pE, pF]
    refine wpAnyH_ready (rs := [5]) (by kernel_rfl) (by simp) (AllReadyH.cons rfl (fun K hK => ?_) AllReadyH.nil)
    go_simp
    refine HD0.mono ?_
    rintro e1 w1 ⟨v1, rfl, rfl, hp1, hkw1⟩
    have hk1 := hk0.trans hkw1
    obtain ⟨c_1, f_1, r_1, sb_1⟩ := HNm.out w1 hk1
    have hkx := hk1.alloc (.cells #[.string (mkB x)] 9)
    obtain ⟨c_x, f_x, r_x, sb_x⟩ := HNm.out _ hkx
    have hpx := hp1.up (alB w1 (.cells #[.string (mkB x)] 9))
    have hzx : (w1.alloc (.cells #[.string (mkB x)] 9)).heap[w1.heap.size]? = some (.cells #[.string (mkB x)] 9 (0, 0)) := heap_alloc_new w1 _
    have HX : Hid (KP P W (w1.alloc (.cells #[.string (mkB x)] 9)) ∧ PsA P T (w1.alloc (.cells #[.string (mkB x)] 9)) q) := ⟨hkx, hpx⟩
    clear hkw1 hk1 hkx hp1 hpx
    refine hK.out _ _ sb_1 (fun hHeld => ?_)
    clear hK K
    try simp only [Act.put, pA, pB, pC, pD, pE, pF]
    refine wpAnyH_ready (rs := [6]) (by kernel_rfl) (by simp) (AllReadyH.cons rfl (fun K hK => ?_) AllReadyH.nil)
    go_simp
    refine hK.out _ _ sb_x (fun hHeld => ?_)
    clear hK K
    try simp only [Act.put, pA, pB, pC, pD, pE, pF]
    have hnews : ∀ (j : Nat) (u : Value), [Value.string (mkB x)][j]? = some u → (w1.alloc (.cells #[.string (mkB x)] 9)).cell? ((⟨w1.heap.size, 0, none⟩ : Addr).add j) = some u := fun j u hu => World.news_of_block hzx j u hu
    have hsX : lo ≤ (w1.alloc (.cells #[.string (mkB x)] 9)).heap.size := Nat.le_trans hlo HX.out.1.size
    refine wpAnyH_ready (rs := [7]) (by kernel_rfl) (by simp) (AllReadyH.cons rfl (fun K hK => ?_) AllReadyH.nil)
    refine step_append_lies (w1.alloc (.cells #[.string (mkB x)] 9)) (by rfl) (Operand.tmp 3) (Operand.tmp 8) 35 (by rfl) lo 9 i0 (.string ⟨#[]⟩) 1 16 Tryz.underlying35 hi hz0 hz1 hz2 rfl (by decide) (.slice an xs.length cn) xs.length (xs.map sv) (by rfl) r_x ⟨w1.heap.size, 0, none⟩ 1 1 [.string (mkB x)] (by rfl) rfl hnews (by simp [Value.oneCell']) (by decide) (by unfold maxLen; omega) (by omega) hsX (w1.alloc (.cells #[.string (mkB x)] 9)).heap.size rfl ?_
    intro g' cap' w2 hown2 hgrow hat hltg
    have hVX : Vb < (w1.alloc (.cells #[.string (mkB x)] 9)).heap.size := World.block_lt_of_cell? _ _ c_x
    have hV2 : w2.heap[Vb]? = (w1.alloc (.cells #[.string (mkB x)] 9)).heap[Vb]? := hgrow.block Vb hVX (fun e => hnV e.symm)
    have c_2 : w2.cell? ⟨Vb, 2, none⟩ = some (.slice an xs.length cn) := (World.cell?_of_block hV2).trans c_x
    have f_2 : w2.frozen? ⟨Vb, 2, none⟩ = false := by
      rw [← f_x]
      unfold World.frozen?
      rw [hV2]
    have sb_2 : w2.cell? ⟨b, 0, none⟩ = some (pt P) := (World.cell?_of_block (hgrow.block b (World.block_lt_of_cell? _ _ sb_x) (fun e => hnb e.symm))).trans sb_x
    have sb_4 : (w2.setCell ⟨Vb, 2, none⟩ (.slice (some ⟨g', 0, none⟩) (xs.length + 1) cap')).cell? ⟨b, 0, none⟩ = some (pt P) := (World.cell?_of_block (Below.heap_setCell _ ⟨Vb, 2, none⟩ _ b hbV)).trans sb_2
    refine hK.out _ _ sb_2 (fun hHeld => ?_)
    clear hK K
    try simp only [Act.put, pA, pB, pC, pD, pE, pF]
    refine tK (i := 8) (v := .pointer (some ⟨Vb, 2, none⟩)) rfl (by kernel_rfl) HQp.out (Or.inl ⟨by rfl, ?_⟩) (by assumption) ?_
    · intro V hSV
      try dsimp only at hSV
      go_simp
      try with_reducible rfl
      try (intro h9; exfalso; omega)
    try simp only [Act.put, pA, pB, pC, pD, pE, pF]
    refine wpAnyH_ready (rs := [9]) (by kernel_rfl) (by simp) (AllReadyH.cons rfl (fun K hK => ?_) AllReadyH.nil)
    go_simp
    refine hK.out _ _ sb_4 (fun hHeld => ?_)
    clear hK K
    try simp only [Act.put, pA, pB, pC, pD, pE, pF]
    refine wpAnyH_done (by kernel_rfl) ?_ _
    try simp only [Act.put, pA, pB, pC, pD, pE, pF]
    exact HOk.out _ _ _ _ _ _ _ _ _ x q (w1.alloc (.cells #[.string (mkB x)] 9)) w2 g' cap' rfl HX.out.1 HX.out.2 r_x hgrow hat hown2
    go_simp
    refine hK.out _ _ hHeld (fun hHeld => ?_)
    clear hK K
    try simp only [Act.put, pA, pB, pC, pD, pE, pF]
    refine wpAnyH_ready (rs := [1, 5]) (by kernel_rfl) (by simp) (AllReadyH.cons rfl (fun K hK => ?_) (AllReadyH.cons rfl (fun K hK => ?_) AllReadyH.nil))
    go_simp
    refine hK.out _ _ hHeld (fun hHeld => ?_)
    clear hK K
    try simp only [Act.put, pA, pB, pC, pD, pE, pF]
    refine wpAnyH_ready (rs := [5]) (by kernel_rfl) (by simp) (AllReadyH.cons rfl (fun K hK => ?_) AllReadyH.nil)
    go_simp
    refine HD0.mono ?_
    rintro e1 w1 ⟨v1, rfl, rfl, hp1, hkw1⟩
    have hk1 := hk0.trans hkw1
    obtain ⟨c_1, f_1, r_1, sb_1⟩ := HNm.out w1 hk1
    have hkx := hk1.alloc (.cells #[.string (mkB x)] 9)
    obtain ⟨c_x, f_x, r_x, sb_x⟩ := HNm.out _ hkx
    have hpx := hp1.up (alB w1 (.cells #[.string (mkB x)] 9))
    have hzx : (w1.alloc (.cells #[.string (mkB x)] 9)).heap[w1.heap.size]? = some (.cells #[.string (mkB x)] 9 (0, 0)) := heap_alloc_new w1 _
    have HX : Hid (KP P W (w1.alloc (.cells #[.string (mkB x)] 9)) ∧ PsA P T (w1.alloc (.cells #[.string (mkB x)] 9)) q) := ⟨hkx, hpx⟩
    clear hkw1 hk1 hkx hp1 hpx
    refine hK.out _ _ sb_1 (fun hHeld => ?_)
    clear hK K
    try simp only [Act.put, pA, pB, pC, pD, pE, pF]
    refine wpAnyH_ready (rs := [6]) (by kernel_rfl) (by simp) (AllReadyH.cons rfl (fun K hK => ?_) AllReadyH.nil)
    go_simp
    refine hK.out _ _ sb_x (fun hHeld => ?_)
    clear hK K
    try simp only [Act.put, pA, pB, pC, pD, pE, pF]
    have hnews : ∀ (j : Nat) (u : Value), [Value.string (mkB x)][j]? = some u → (w1.alloc (.cells #[.string (mkB x)] 9)).cell? ((⟨w1.heap.size, 0, none⟩ : Addr).add j) = some u := fun j u hu => World.news_of_block hzx j u hu
    have hsX : lo ≤ (w1.alloc (.cells #[.string (mkB x)] 9)).heap.size := Nat.le_trans hlo HX.out.1.size
    refine wpAnyH_ready (rs := [7]) (by kernel_rfl) (by simp) (AllReadyH.cons rfl (fun K hK => ?_) AllReadyH.nil)
    refine step_append_lies (w1.alloc (.cells #[.string (mkB x)] 9)) (by rfl) (Operand.tmp 3) (Operand.tmp 8) 35 (by rfl) lo 9 i0 (.string ⟨#[]⟩) 1 16 Tryz.underlying35 hi hz0 hz1 hz2 rfl (by decide) (.slice an xs.length cn) xs.length (xs.map sv) (by rfl) r_x ⟨w1.heap.size, 0, none⟩ 1 1 [.string (mkB x)] (by rfl) rfl hnews (by simp [Value.oneCell']) (by decide) (by unfold maxLen; omega) (by omega) hsX (w1.alloc (.cells #[.string (mkB x)] 9)).heap.size rfl ?_
    intro g' cap' w2 hown2 hgrow hat hltg
    have hVX : Vb < (w1.alloc (.cells #[.string (mkB x)] 9)).heap.size := World.block_lt_of_cell? _ _ c_x
    have hV2 : w2.heap[Vb]? = (w1.alloc (.cells #[.string (mkB x)] 9)).heap[Vb]? := hgrow.block Vb hVX (fun e => hnV e.symm)
    have c_2 : w2.cell? ⟨Vb, 2, none⟩ = some (.slice an xs.length cn) := (World.cell?_of_block hV2).trans c_x
    have f_2 : w2.frozen? ⟨Vb, 2, none⟩ = false := by
      rw [← f_x]
      unfold World.frozen?
      rw [hV2]
    have sb_2 : w2.cell? ⟨b, 0, none⟩ = some (pt P) := (World.cell?_of_block (hgrow.block b (World.block_lt_of_cell? _ _ sb_x) (fun e => hnb e.symm))).trans sb_x
    have sb_4 : (w2.setCell ⟨Vb, 2, none⟩ (.slice (some ⟨g', 0, none⟩) (xs.length + 1) cap')).cell? ⟨b, 0, none⟩ = some (pt P) := (World.cell?_of_block (Below.heap_setCell _ ⟨Vb, 2, none⟩ _ b hbV)).trans sb_2
    refine hK.out _ _ sb_2 (fun hHeld => ?_)
    clear hK K
    try simp only [Act.put, pA, pB, pC, pD, pE, pF]
    refine tK (i := 8) (v := .pointer (some ⟨Vb, 2, none⟩)) rfl (by kernel_rfl) HQp.out (Or.inl ⟨by rfl, ?_⟩) (by assumption) ?_
    · intro V hSV
      try dsimp only at hSV
      go_simp
      try with_reducible rfl
      try (intro h9; exfalso; omega)
    try simp only [Act.put, pA, pB, pC, pD, pE, pF]
    refine wpAnyH_ready (rs := [9]) (by kernel_rfl) (by simp) (AllReadyH.cons rfl (fun K hK => ?_) AllReadyH.nil)
    go_simp
    refine hK.out _ _ sb_4 (fun hHeld => ?_)
    clear hK K
    try simp only [Act.put, pA, pB, pC, pD, pE, pF]
    refine wpAnyH_done (by kernel_rfl) ?_ _
    try simp only [Act.put, pA, pB, pC, pD, pE, pF]
    exact HOk.out _ _ _ _ _ _ _ _ _ x q (w1.alloc (.cells #[.string (mkB x)] 9)) w2 g' cap' rfl HX.out.1 HX.out.2 r_x hgrow hat hown2
    go_simp
    refine HD0.mono ?_
    rintro e1 w1 ⟨v1, rfl, rfl, hp1, hkw1⟩
    have hk1 := hk0.trans hkw1
    obtain ⟨c_1, f_1, r_1, sb_1⟩ := HNm.out w1 hk1
    have hkx := hk1.alloc (.cells #[.string (mkB x)] 9)
    obtain ⟨c_x, f_x, r_x, sb_x⟩ := HNm.out _ hkx
    have hpx := hp1.up (alB w1 (.cells #[.string (mkB x)] 9))
    have hzx : (w1.alloc (.cells #[.string (mkB x)] 9)).heap[w1.heap.size]? = some (.cells #[.string (mkB x)] 9 (0, 0)) := heap_alloc_new w1 _
    have HX : Hid (KP P W (w1.alloc (.cells #[.string (mkB x)] 9)) ∧ PsA P T (w1.alloc (.cells #[.string (mkB x)] 9)) q) := ⟨hkx, hpx⟩
    clear hkw1 hk1 hkx hp1 hpx
    refine hK.out _ _ sb_1 (fun hHeld => ?_)
    clear hK K
    try simp only [Act.put, pA, pB, pC, pD, pE, pF]
    refine wpAnyH_ready (rs := [1, 6]) (by kernel_rfl) (by simp) (AllReadyH.cons rfl (fun K hK => ?_) (AllReadyH.cons rfl (fun K hK => ?_) AllReadyH.nil))
    go_simp
    refine hK.out _ _ hHeld (fun hHeld => ?_)
    clear hK K
    try simp only [Act.put, pA, pB, pC, pD, pE, pF]
    refine wpAnyH_ready (rs := [6]) (by kernel_rfl) (by simp) (AllReadyH.cons rfl (fun K hK => ?_) AllReadyH.nil)
    go_simp
    refine hK.out _ _ sb_x (fun hHeld => ?_)
    clear hK K
    try simp only [Act.put, pA, pB, pC, pD, pE, pF]
    have hnews : ∀ (j : Nat) (u : Value), [Value.string (mkB x)][j]? = some u → (w1.alloc (.cells #[.string (mkB x)] 9)).cell? ((⟨w1.heap.size, 0, none⟩ : Addr).add j) = some u := fun j u hu => World.news_of_block hzx j u hu
    have hsX : lo ≤ (w1.alloc (.cells #[.string (mkB x)] 9)).heap.size := Nat.le_trans hlo HX.out.1.size
    refine wpAnyH_ready (rs := [7]) (by kernel_rfl) (by simp) (AllReadyH.cons rfl (fun K hK => ?_) AllReadyH.nil)
    refine step_append_lies (w1.alloc (.cells #[.string (mkB x)] 9)) (by rfl) (Operand.tmp 3) (Operand.tmp 8) 35 (by rfl) lo 9 i0 (.string ⟨#[]⟩) 1 16 Tryz.underlying35 hi hz0 hz1 hz2 rfl (by decide) (.slice an xs.length cn) xs.length (xs.map sv) (by rfl) r_x ⟨w1.heap.size, 0, none⟩ 1 1 [.string (mkB x)] (by rfl) rfl hnews (by simp [Value.oneCell']) (by decide) (by unfold maxLen; omega) (by omega) hsX (w1.alloc (.cells #[.string (mkB x)] 9)).heap.size rfl ?_
    intro g' cap' w2 hown2 hgrow hat hltg
    have hVX : Vb < (w1.alloc (.cells #[.string (mkB x)] 9)).heap.size := World.block_lt_of_cell? _ _ c_x
    have hV2 : w2.heap[Vb]? = (w1.alloc (.cells #[.string (mkB x)] 9)).heap[Vb]? := hgrow.block Vb hVX (fun e => hnV e.symm)
    have c_2 : w2.cell? ⟨Vb, 2, none⟩ = some (.slice an xs.length cn) := (World.cell?_of_block hV2).trans c_x
    have f_2 : w2.frozen? ⟨Vb, 2, none⟩ = false := by
      rw [← f_x]
      unfold World.frozen?
      rw [hV2]
    have sb_2 : w2.cell? ⟨b, 0, none⟩ = some (pt P) := (World.cell?_of_block (hgrow.block b (World.block_lt_of_cell? _ _ sb_x) (fun e => hnb e.symm))).trans sb_x
    have sb_4 : (w2.setCell ⟨Vb, 2, none⟩ (.slice (some ⟨g', 0, none⟩) (xs.length + 1) cap')).cell? ⟨b, 0, none⟩ = some (pt P) := (World.cell?_of_block (Below.heap_setCell _ ⟨Vb, 2, none⟩ _ b hbV)).trans sb_2
    refine hK.out _ _ sb_2 (fun hHeld => ?_)
    clear hK K
    try simp only [Act.put, pA, pB, pC, pD, pE, pF]
    refine tK (i := 8) (v := .pointer (some ⟨Vb, 2, none⟩)) rfl (by kernel_rfl) HQp.out (Or.inl ⟨by rfl, ?_⟩) (by assumption) ?_
    · intro V hSV
      try dsimp only at hSV
      go_simp
      try with_reducible rfl
      try (intro h9; exfalso; omega)
    try simp only [Act.put, pA, pB, pC, pD, pE, pF]
    refine wpAnyH_ready (rs := [9]) (by kernel_rfl) (by simp) (AllReadyH.cons rfl (fun K hK => ?_) AllReadyH.nil)
    go_simp
    refine hK.out _ _ sb_4 (fun hHeld => ?_)
    clear hK K
    try simp only [Act.put, pA, pB, pC, pD, pE, pF]
    refine wpAnyH_done (by kernel_rfl) ?_ _
    try simp only [Act.put, pA, pB, pC, pD, pE, pF]
    exact HOk.out _ _ _ _ _ _ _ _ _ x q (w1.alloc (.cells #[.string (mkB x)] 9)) w2 g' cap' rfl HX.out.1 HX.out.2 r_x hgrow hat hown2
    go_simp
    refine hK.out _ _ sb_x (fun hHeld => ?_)
    clear hK K
    try simp only [Act.put, pA, pB, pC, pD, pE, pF]
    refine wpAnyH_ready (rs := [1]) (by kernel_rfl) (by simp) (AllReadyH.cons rfl (fun K hK => ?_) AllReadyH.nil)
    go_simp
    refine hK.out _ _ hHeld (fun hHeld => ?_)
    clear hK K
    try simp only [Act.put, pA, pB, pC, pD, pE, pF]
    have hnews : ∀ (j : Nat) (u : Value), [Value.string (mkB x)][j]? = some u → (w1.alloc (.cells #[.string (mkB x)] 9)).cell? ((⟨w1.heap.size, 0, none⟩ : Addr).add j) = some u := fun j u hu => World.news_of_block hzx j u hu
    have hsX : lo ≤ (w1.alloc (.cells #[.string (mkB x)] 9)).heap.size := Nat.le_trans hlo HX.out.1.size
    refine wpAnyH_ready (rs := [7]) (by kernel_rfl) (by simp) (AllReadyH.cons rfl (fun K hK => ?_) AllReadyH.nil)
    refine step_append_lies (w1.alloc (.cells #[.string (mkB x)] 9)) (by rfl) (Operand.tmp 3) (Operand.tmp 8) 35 (by rfl) lo 9 i0 (.string ⟨#[]⟩) 1 16 Tryz.underlying35 hi hz0 hz1 hz2 rfl (by decide) (.slice an xs.length cn) xs.length (xs.map sv) (by rfl) r_x ⟨w1.heap.size, 0, none⟩ 1 1 [.string (mkB x)] (by rfl) rfl hnews (by simp [Value.oneCell']) (by decide) (by unfold maxLen; omega) (by omega) hsX (w1.alloc (.cells #[.string (mkB x)] 9)).heap.size rfl ?_
    intro g' cap' w2 hown2 hgrow hat hltg
    have hVX : Vb < (w1.alloc (.cells #[.string (mkB x)] 9)).heap.size := World.block_lt_of_cell? _ _ c_x
    have hV2 : w2.heap[Vb]? = (w1.alloc (.cells #[.string (mkB x)] 9)).heap[Vb]? := hgrow.block Vb hVX (fun e => hnV e.symm)
    have c_2 : w2.cell? ⟨Vb, 2, none⟩ = some (.slice an xs.length cn) := (World.cell?_of_block hV2).trans c_x
    have f_2 : w2.frozen? ⟨Vb, 2, none⟩ = false := by
      rw [← f_x]
      unfold World.frozen?
      rw [hV2]
    have sb_2 : w2.cell? ⟨b, 0, none⟩ = some (pt P) := (World.cell?_of_block (hgrow.block b (World.block_lt_of_cell? _ _ sb_x) (fun e => hnb e.symm))).trans sb_x
    have sb_4 : (w2.setCell ⟨Vb, 2, none⟩ (.slice (some ⟨g', 0, none⟩) (xs.length + 1) cap')).cell? ⟨b, 0, none⟩ = some (pt P) := (World.cell?_of_block (Below.heap_setCell _ ⟨Vb, 2, none⟩ _ b hbV)).trans sb_2
    refine hK.out _ _ sb_2 (fun hHeld => ?_)
    clear hK K
    try simp only [Act.put, pA, pB, pC, pD, pE, pF]
    refine tK (i := 8) (v := .pointer (some ⟨Vb, 2, none⟩)) rfl (by kernel_rfl) HQp.out (Or.inl ⟨by rfl, ?_⟩) (by assumption) ?_
    · intro V hSV
      try dsimp only at hSV
      go_simp
      try with_reducible rfl
      try (intro h9; exfalso; omega)
    try simp only [Act.put, pA, pB, pC, pD, pE, pF]
    refine wpAnyH_ready (rs := [9]) (by kernel_rfl) (by simp) (AllReadyH.cons rfl (fun K hK => ?_) AllReadyH.nil)
    go_simp
    refine hK.out _ _ sb_4 (fun hHeld => ?_)
    clear hK K
    try simp only [Act.put, pA, pB, pC, pD, pE, pF]
    refine wpAnyH_done (by kernel_rfl) ?_ _
    try simp only [Act.put, pA, pB, pC, pD, pE, pF]
    exact HOk.out _ _ _ _ _ _ _ _ _ x q (w1.alloc (.cells #[.string (mkB x)] 9)) w2 g' cap' rfl HX.out.1 HX.out.2 r_x hgrow hat hown2
end Go.Proofs.YtcaeeackccgclaaGreatDoor

/- definition. -/
namespace Go.Proofs.YtcaeeackccgclaaGreatDoor
open Go.RowKit Go.Shelf
attribute [local go_sem ↓] fld0 fld1 fld2 fld3

/-- A definition under construction: its variable Lb, its names. -/
structure LDf (P T lo Lb : Nat) (t : Tk) (W0 W : World) (l : List (List UInt8)) (p : Ps) : Prop where
  ps : PsA P T W p
  fr : FrL P lo Lb W0 W
  nm : ∃ nv, SV W Lb [.int .i64 6, .string (mkB t.text), nv, .int .i64 0, .int .i64 0, .string ⟨#[]⟩, .slice none 0 0, .slice none 0 0, .slice none 0 0, .slice none 0 0] ∧ W.ownsRow lo 9 1 nv l.length (l.map sv) ∧ nv.ownBlock ≠ some Lb
theorem LDf.kp {P T lo Lb : Nat} {t : Tk} {W0 W w' : World} {l : List (List UInt8)} {p p' : Ps} (h : LDf P T lo Lb t W0 W l p) (k : KP P W w') (hp : PsA P T w' p') (hP : P < lo) (hPL : Lb ≠ P) : LDf P T lo Lb t W0 w' l p' := by
  obtain ⟨nv, h1, h2, h3⟩ := h.nm
  exact ⟨hp, h.fr.kp k, nv, h1.keep (k.blk _ h1.lt hPL), own_heap h2 fun g hg => k.blk g (h2.lt g hg).2 (by have := (h2.lt g hg).1; omega), h3⟩
theorem ldf_liv {P T lo Lb : Nat} {t : Tk} {W0 : World} (hP : P < lo) (hPL : Lb ≠ P) : Liv P T (LDf P T lo Lb t W0) (FrL P lo Lb W0) :=
  ⟨fun _ _ _ h => h.ps, fun _ _ _ _ _ h k hp => h.kp k hp hP hPL, fun _ _ _ h => h.fr, fun _ _ h k => h.kp k⟩

set_option maxHeartbeats 40000000 in
set_option maxRecDepth 100000 in
theorem defE_any {P T lo Lb b : Nat} {t : Tk} {W0 : World} (hP : P < lo) (hT : T < lo) (hPL : Lb ≠ P) (hTL : T ≠ Lb) (hbl : b < lo) (hbP : b ≠ P) (hbL : b ≠ Lb) (hb : W0.cell? ⟨b, 0, none⟩ = some (pt P)) :
    EachC 75 #[pt Lb, pt b] (LDf P T lo Lb t W0) (FrL P lo Lb W0) nmE := by
  refine ⟨enters_of Tryz.func75 (by kernel_rfl) rfl, fun W s p z h hz => ?_⟩
  obtain ⟨hn, hz9⟩ := iff_some hz
  have hn1 : s.length ≤ 1000000 := by have := of_decide_eq_true hn; omega
  have HSb : Hid (∀ V, FrL P lo Lb W0 V → V.cell? ⟨b, 0, none⟩ = some (pt P)) := fun V hV => (World.cell?_of_block (hV.blk b hbl hbP hbL)).trans hb
  have HLi : Hid (LDf P T lo Lb t W0 W s p) := h
  have HCo : Hid (P < lo ∧ T < lo ∧ Lb ≠ P ∧ T ≠ Lb ∧ b < lo ∧ b ≠ P ∧ b ≠ Lb) := ⟨hP, hT, hPL, hTL, hbl, hbP, hbL⟩
  obtain ⟨nv, sv1, nr, nn⟩ := h.nm
  have hnm : ∀ W', KP P W W' → W'.cell? ⟨Lb, 2, none⟩ = some nv ∧ W'.frozen? ⟨Lb, 2, none⟩ = false ∧ W'.ownsRow lo 9 1 nv s.length (s.map sv) ∧ W'.cell? ⟨b, 0, none⟩ = some (pt P) := fun W' hk => by
    have s2 := sv1.keep (hk.blk _ sv1.lt HCo.out.2.2.1)
    exact ⟨s2.at_ 2 rfl, s2.fz 2, own_heap nr fun g hg => hk.blk g (nr.lt g hg).2 (by have := (nr.lt g hg).1; have := HCo.out.1; omega), HSb.out _ (HLi.out.fr.kp hk)⟩
  have hnb : nv.ownBlock ≠ some b := fun e => by have h1 := (nr.lt b e).1; omega
  have hlo := h.fr.size
  have hps := h.ps
  obtain ⟨R1, hR1⟩ : ∃ R, R = subW [] (Tryz.f75.body.getD .skip) := ⟨_, rfl⟩
  have HR1 : Hid (R1 = subW [] (Tryz.f75.body.getD .skip)) := hR1
  have hl1 : subW [] (Tryz.f75.body.getD .skip) = R1 := hR1.symm
  conv at hl1 => lhs; whnf
  go_enter Tryz.func75, Tryz.ntmps75
  rw [hl1, HR1.out]
  clear hl1 hR1 h hz hn
  rcases bnd_some hz9 with ⟨x, hx, rfl⟩ | ⟨x, q, hx, hq⟩
  · refine nr_de hlo hP nn hbL hnb hps hnm hn1 hx _ (fun _ _ _ _ hd h => ⟨hd.symm.trans h.1, h.2⟩) ?_ ?_
    · intro x9 a w' hd9 e9 hk
      cases e9
      exact ⟨hd9, lpo_err (HLi.out.fr.kp hk)⟩
    · intro u2 u3 u4 u5 u6 u7 u8 u9 u10 x q X w2 g' cap' e9
      cases e9
  · cases hq
    refine nr_de hlo hP nn hbL hnb hps hnm hn1 hx _ (fun _ _ _ _ hd h => ⟨hd.symm.trans h.1, h.2⟩) ?_ ?_
    · intro x9 a w' hd9 e9 hk
      cases e9
    · intro u2 u3 u4 u5 u6 u7 u8 u9 u10 x' q' X w2 g' cap' e9 hkX hpX hrX hgrow hat hown2
      cases e9
      have fX := HLi.out.fr.kp hkX
      have svX := sv1.keep (hkX.blk _ sv1.lt hPL)
      have hLX := svX.lt
      have hgL : g' ≠ Lb := by
        rcases hat with h1 | h1
        · exact fun e => nn (e ▸ h1)
        · omega
      have hlo' : lo ≤ g' := by
        rcases hat with h1 | h1
        · exact (hrX.lt _ h1).1
        · rw [h1]; exact fX.size
      have sv2 := svX.keep (hgrow.block Lb hLX (fun e => nn e.symm))
      have sv3 := sv2.set 2 (.slice (some ⟨g', 0, none⟩) (s.length + 1) cap')
      simp only [List.set_cons_zero, List.set_cons_succ] at sv3
      have hg3 : ∀ g, g < X.heap.size → nv.ownBlock ≠ some g → g ≠ Lb → (w2.setCell ⟨Lb, 2, none⟩ (.slice (some ⟨g', 0, none⟩) (s.length + 1) cap')).heap[g]? = X.heap[g]? := fun g h1 h2 h3 => (Below.heap_setCell _ ⟨Lb, 2, none⟩ _ g h3).trans (hgrow.block g h1 fun e => h2 e.symm)
      have hnl : ∀ g, g < lo → nv.ownBlock ≠ some g := fun g hg e => by have := (nr.lt _ e).1; omega
      have hsX := fX.size
      have hF3 : FrL P lo Lb W0 (w2.setCell ⟨Lb, 2, none⟩ (.slice (some ⟨g', 0, none⟩) (s.length + 1) cap')) := ⟨hgrow.os.trans fX.os, hgrow.tape.trans fX.tape, hgrow.output.trans fX.output, by rw [size_set]; exact Nat.le_trans fX.size hgrow.size, fun g h1 h2 h3 => (hg3 g (by omega) (hnl g h1) h3).trans (fX.blk g h1 h2 h3)⟩
      have hp3 := hpX.keep (hg3 P (by omega) (hnl P hP) (fun e => hPL e.symm)) (hg3 T (by omega) (hnl T hT) hTL)
      go_end0
      exact ⟨rfl, hp3, hF3, _, sv3, by simpa using own_heap hown2 (fun g hg => Below.heap_setCell _ ⟨Lb, 2, none⟩ _ g (fun e => hgL ((ob_eq hg).trans e))), fun e => hgL (ob_eq e)⟩

theorem PsA.inTo {P T : Nat} {w : World} {p : Ps} (h : PsA P T w p) (d : Bool) : PsA P T (w.setCell ⟨P, 3, none⟩ (.bool d)) (p.din d) := by
  obtain ⟨a, c, o, h1, h2, h3, h4, h5, h6, h7, h8, h9⟩ := h
  refine ⟨a, c, o, ?_, h2, h3, h4, fun j hj => ?_, h6, by simp [World.setCell]; exact h7, h8, h9⟩
  · rw [Go.Joins.block_setCell h1]; rfl
  · show _ = (tcs p.toks)[j]?
    rw [← h5 j hj]
    have e2 := Below.heap_setCell w ⟨P, 3, none⟩ (.bool d) T h6
    simp [World.cell?, e2]
end Go.Proofs.YtcaeeackccgclaaGreatDoor

/- definition, whole. -/
namespace Go.Proofs.YtcaeeackccgclaaGreatDoor
open Go.RowKit Go.Shelf
attribute [local go_sem ↓] fld0 fld1 fld2 fld3
attribute [local go_sem] mk_func

theorem KP.transF {P Lb : Nat} {a b c : World} (h : KP P a b) (f : FrL P b.heap.size Lb b c) (hL : a.heap.size ≤ Lb) : KP P a c := ⟨f.os.trans h.os, f.tape.trans h.tape, f.output.trans h.output, Nat.le_trans h.size f.size, fun g hg hp => (f.blk g (Nat.lt_of_lt_of_le hg h.size) hp (by omega)).trans (h.blk g hg hp)⟩
/-- What stays all the way: the parser's box, the answer's variable. -/
structure DQ (P : Nat) (W w : World) : Prop where
  kp : KP P W w
  r : w.heap[W.heap.size + 1]? = some sz
  b : w.heap[W.heap.size]? = some (.cells #[pt P] 73 (0, 0))
theorem DQ.up {P : Nat} {W w w' : World} (h : DQ P W w) (k : KP P w w') (hP : P < W.heap.size) : DQ P W w' := ⟨h.kp.trans k, k.heapEq h.r (by omega), k.heapEq h.b (by omega)⟩
theorem DQ.box {P : Nat} {W w : World} (h : DQ P W w) : w.cell? ⟨W.heap.size, 0, none⟩ = some (pt P) := by rw [Lib.cell_of_heap h.b]; rfl
theorem DQ.lt {P : Nat} {W w : World} (h : DQ P W w) : W.heap.size + 1 < w.heap.size := (Array.getElem?_eq_some_iff.1 h.r).1
theorem DQ.put {P L : Nat} {W w : World} (h : DQ P W w) (hL : W.heap.size + 1 < L) (i : Nat) (v : Value) : DQ P W (w.setCell ⟨L, i, none⟩ v) :=
  ⟨h.kp.setIn (by omega) i v, (Below.heap_setCell _ ⟨L, i, none⟩ _ _ (by show ¬ _ = L; omega)).trans h.r, (Below.heap_setCell _ ⟨L, i, none⟩ _ _ (by show ¬ _ = L; omega)).trans h.b⟩
theorem DQ.fr {P Lb : Nat} {W w w' : World} (h : DQ P W w) (f : FrL P w.heap.size Lb w w') (hL : W.heap.size + 1 < Lb) (hP : P < W.heap.size) : DQ P W w' := by
  have hl := h.lt
  exact ⟨h.kp.transF f (by omega), (f.blk _ (by omega) (by omega) (by omega)).trans h.r, (f.blk _ (by omega) (by omega) (by omega)).trans h.b⟩
theorem DQ.own {P : Nat} {W w : World} (h : DQ P W w) (hP : P < W.heap.size) (i : Nat) (v : Value) : DQ P W (w.setCell ⟨P, i, none⟩ v) := h.up ((KP.refl P w).setCell i v) hP

set_option maxHeartbeats 16000000 in
set_option maxRecDepth 100000 in
theorem definition_any {P T : Nat} {B : Ps → Px (List Sm)} (hB : MethB P T 71 B) : MethS P T 47 (defS B) := by
  intro W p z h hr hz
  have hPl := h.lt
  have hTl := h.ltT
  have s1 : (W.alloc (.cells #[pt P] 73)).heap.size = W.heap.size + 1 := World.size_alloc _ _
  have h0 : PsA P T ((W.alloc (.cells #[pt P] 73)).alloc sz) p := (h.up (alB W (.cells #[pt P] 73))).up (alB _ sz)
  have hk0 : KP P W ((W.alloc (.cells #[pt P] 73)).alloc sz) := (KP.al P W (.cells #[pt P] 73)).trans (KP.al P _ sz)
  have hr0 : ((W.alloc (.cells #[pt P] 73)).alloc sz).heap[W.heap.size + 1]? = some sz := by
    have := heap_alloc_new (W.alloc (.cells #[pt P] 73)) sz
    rwa [s1] at this
  have hx0 : ((W.alloc (.cells #[pt P] 73)).alloc sz).heap[W.heap.size]? = some (.cells #[pt P] 73 (0, 0)) := (heap_al _ _ _ (by omega)).trans (heap_alloc_new W _)
  have hbx : ((W.alloc (.cells #[pt P] 73)).alloc sz).cell? ⟨W.heap.size, 0, none⟩ = some (pt P) := by rw [Lib.cell_of_heap hx0]; rfl
  have HB : Hid (MethB P T 71 B) := hB
  have HEr : Hid (∀ W', KP P W W' → ErrR W') := fun W' hk => hr.kp (hr.ne h) hk
  clear h hB hr s1
  have HV0 : Hid (PsA P T ((W.alloc (.cells #[pt P] 73)).alloc sz).drew p) := h0.drewN 1
  obtain ⟨V, hV⟩ : ∃ V, V = ((W.alloc (.cells #[pt P] 73)).alloc sz).drew := ⟨_, rfl⟩
  have hVb : V.cell? ⟨W.heap.size, 0, none⟩ = some (pt P) := by rw [hV]; exact hbx
  have hVd : V.cell? ⟨P, 2, none⟩ = some (.int .i64 p.blk) := by rw [hV]; exact h0.d2
  have hVp : PsA P T V p := by rw [hV]; exact HV0.out
  have hVk : KP P W V := by rw [hV]; exact hk0.drew
  have hVr : V.heap[W.heap.size + 1]? = some sz := by rw [hV]; exact hr0
  have hVx : V.heap[W.heap.size]? = some (.cells #[pt P] 73 (0, 0)) := by rw [hV]; exact hx0
  clear HV0 h0 hk0 hr0 hx0 hbx
  have HV : Hid (V = ((W.alloc (.cells #[pt P] 73)).alloc sz).drew) := hV
  have HQ : Hid (PsA P T V p ∧ DQ P W V) := ⟨hVp, hVk, hVr, hVx⟩
  have HG := giveUpIf_any hVp (decide (0 < p.blk)) 4
  clear hVp hVk hVr hVx
  have hbl : (0 : Int) < (p.blk : Int) ↔ 0 < p.blk := by omega
  go_enter Tryz.func47, Tryz.ntmps47
  go_wp2_with fail
  refine wp_region_still_tail 6 (by kernel_rfl) (by kernel_rfl) ?_
  simp only [List.take_succ_cons, List.take_zero, List.drop_succ_cons, List.drop_zero]
  change wpStill _ _ ((W.alloc (.cells #[pt P] 73)).alloc sz).drew (fun a' => wpList _ _ _ _ a' ((W.alloc (.cells #[pt P] 73)).alloc sz).drew) _ _
  rw [← hV]
  clear hV
  repeat still_step
  refine wpStill_nil ?_
  cases hd : decide (0 < p.blk) with
  | true =>
    rw [hd] at HG
    unfold defS guIf at hz
    simp only [hd, cond_true] at hz
    cases hz
    go_wp2_with fail
    refine HG.mono ?_
    rintro e1 w1 ⟨he, hb1⟩
    simp only [cond_true] at he
    subst he
    exact ⟨rfl, rfl, HQ.out.2.kp.trans (KP.of_below hb1)⟩
  | false =>
  rw [hd] at HG
  unfold defS guIf at hz
  simp only [hd, cond_false] at hz
  replace hz : (bnd (tkS [100, 101, 102] p) fun _ p => bnd (tkK 1 p) fun t p => bnd (tkS [40] p) fun _ p => bnd (lst [41] nmE [] p) fun l p => bnd (B (p.din true)) fun b p => ok ⟨6, t.text, l, ⟨0, 0, [], [], []⟩, b, []⟩ (p.din false)) = some z := hz
  go_wp2_with fail
  refine HG.mono ?_
  rintro e1 w1 ⟨he, hb1⟩
  simp only [cond_false] at he
  subst he
  have h1 := HQ.out.1.up hb1
  have HD1 : Hid (DQ P W w1) := HQ.out.2.up (KP.of_below hb1) hPl
  have x1 := HD1.out.box
  clear hb1 HG HQ hd hbl HV hVb hVd
  rcases bnd_some hz with ⟨x, hx, rfl⟩ | ⟨_, p2, hx, hz2⟩
  · have HT := takeSign_any h1 [100, 101, 102] hx
    go_wp2_with fail
    refine HT.mono ?_
    rintro eX wX hpo
    obtain ⟨rfl, hkX⟩ := bad_panic hpo HD1.out.kp
    exact ⟨rfl, rfl, hkX⟩
  have HT := takeSign_any h1 [100, 101, 102] hx
  go_wp2_with fail
  refine HT.mono ?_
  rintro e2 w2 ⟨v2, rfl, rfl, h2, hj2⟩
  have HD2 : Hid (DQ P W w2) := HD1.out.up hj2 hPl
  have x2 := HD2.out.box
  clear HT hz hx hj2 h1 HD1 x1
  rcases bnd_some hz2 with ⟨x, hx, rfl⟩ | ⟨t, p3, hx, hz3⟩
  · have HT := take2_any h2 1 (by decide) hx
    go_wp2_with fail
    refine HT.mono ?_
    rintro eX wX hpo
    obtain ⟨rfl, hkX⟩ := bad_panic hpo HD2.out.kp
    exact ⟨rfl, rfl, hkX⟩
  have HT := take2_any h2 1 (by decide) hx
  go_wp2_with fail
  refine HT.mono ?_
  rintro e3 w3 ⟨v3, rfl, rfl, h3, hj3⟩
  have HD3 : DQ P W w3 := HD2.out.up hj3 hPl
  have hl3 := HD3.lt
  have sv4 : SV (w3.alloc (.cells #[.int .i64 6, .string (mkB t.text), .slice none 0 0, .int .i64 0, .int .i64 0, .string ⟨#[]⟩, .slice none 0 0, .slice none 0 0, .slice none 0 0, .slice none 0 0] 40)) w3.heap.size [.int .i64 6, .string (mkB t.text), .slice none 0 0, .int .i64 0, .int .i64 0, .string ⟨#[]⟩, .slice none 0 0, .slice none 0 0, .slice none 0 0, .slice none 0 0] := SV.new w3 rfl
  have h4 := h3.up (alB w3 (.cells #[.int .i64 6, .string (mkB t.text), .slice none 0 0, .int .i64 0, .int .i64 0, .string ⟨#[]⟩, .slice none 0 0, .slice none 0 0, .slice none 0 0, .slice none 0 0] 40))
  have HD4 : Hid (DQ P W (w3.alloc (.cells #[.int .i64 6, .string (mkB t.text), .slice none 0 0, .int .i64 0, .int .i64 0, .string ⟨#[]⟩, .slice none 0 0, .slice none 0 0, .slice none 0 0, .slice none 0 0] 40))) := HD3.up (KP.al P w3 _) hPl
  have hs4 : (w3.alloc (.cells #[.int .i64 6, .string (mkB t.text), .slice none 0 0, .int .i64 0, .int .i64 0, .string ⟨#[]⟩, .slice none 0 0, .slice none 0 0, .slice none 0 0, .slice none 0 0] 40)).heap.size = w3.heap.size + 1 := World.size_alloc _ _
  obtain ⟨w4, hw4⟩ : ∃ w4, w4 = w3.alloc (.cells #[.int .i64 6, .string (mkB t.text), .slice none 0 0, .int .i64 0, .int .i64 0, .string ⟨#[]⟩, .slice none 0 0, .slice none 0 0, .slice none 0 0, .slice none 0 0] 40) := ⟨_, rfl⟩
  rw [← hw4] at sv4 h4 HD4 hs4
  have HW4 : Hid (w4 = w3.alloc (.cells #[.int .i64 6, .string (mkB t.text), .slice none 0 0, .int .i64 0, .int .i64 0, .string ⟨#[]⟩, .slice none 0 0, .slice none 0 0, .slice none 0 0, .slice none 0 0] 40)) := hw4
  have x4 : (w3.alloc (.cells #[.int .i64 6, .string (mkB t.text), .slice none 0 0, .int .i64 0, .int .i64 0, .string ⟨#[]⟩, .slice none 0 0, .slice none 0 0, .slice none 0 0, .slice none 0 0] 40)).cell? ⟨W.heap.size, 0, none⟩ = some (pt P) := by rw [← hw4]; exact HD4.out.box
  clear hw4
  generalize hLb : w3.heap.size = Lb at *
  clear HT hz2 hx hj3 h2 HD2 x2 h3 HD3
  rcases bnd_some hz3 with ⟨x, hx, rfl⟩ | ⟨_, p5, hx, hz5⟩
  · have HT := takeSign_any h4 [40] hx
    go_wp2_with fail
    rw [← HW4.out]
    refine HT.mono ?_
    rintro eX wX hpo
    obtain ⟨rfl, hkX⟩ := bad_panic hpo HD4.out.kp
    exact ⟨rfl, rfl, hkX⟩
  have HT := takeSign_any h4 [40] hx
  go_wp2_with fail
  rw [← HW4.out]
  refine HT.mono ?_
  rintro e5 w5 ⟨v5, rfl, rfl, h5, hj5⟩
  have HD5 : Hid (DQ P W w5) := HD4.out.up hj5 hPl
  have x5 := HD5.out.box
  have sv5 := sv4.keep (hj5.blk Lb sv4.lt (by omega))
  have hs5 := hj5.size
  have hJ : LDf P T w5.heap.size Lb t w5 w5 [] p5 := ⟨h5, ⟨rfl, rfl, rfl, Nat.le_refl _, fun _ _ _ _ => rfl⟩, .slice none 0 0, sv5, World.ownsRow_nil _ _ _ _, fun e => by cases e⟩
  clear HT hz3 hx hj5 h4 HD4 x4 sv4 HW4
  have hjs : (∃ x, lst [41] nmE [] p5 = some (.error x) ∧ z = .error x) ∨ ∃ l p6, lst [41] nmE [] p5 = some (.ok (l, p6)) ∧ (bnd (B (p6.din true)) fun b p => ok (⟨6, t.text, l, ⟨0, 0, [], [], []⟩, b, []⟩ : Sm) (p.din false)) = some z := bnd_some hz5
  clear hz5
  rcases hjs with ⟨x, hx, rfl⟩ | ⟨l, p6, hx, hz6⟩
  · have HC := listed_any (ldf_liv (by omega) (by omega)) (defE_any (b := W.heap.size) (by omega) (by omega) (by omega) (by omega) (by omega) (by omega) (by omega) x5) [41] hJ hx
    go_wp2_with fail
    refine HC.mono ?_
    rintro e6 w6 hpo
    obtain ⟨rfl, hn⟩ := bad_lpo hpo
    exact ⟨rfl, rfl, HD5.out.kp.transF hn (by omega)⟩
  have HC := listed_any (ldf_liv (by omega) (by omega)) (defE_any (b := W.heap.size) (by omega) (by omega) (by omega) (by omega) (by omega) (by omega) (by omega) x5) [41] hJ hx
  go_wp2_with fail
  refine HC.mono ?_
  rintro e6 w6 ⟨rfl, hL6⟩
  have HD6 : Hid (DQ P W w6) := HD5.out.fr hL6.fr (by omega) hPl
  have x6 := HD6.out.box
  have h6 := hL6.ps
  obtain ⟨nv, sv6, nr6, nn6⟩ := hL6.nm
  have hs6 := hL6.fr.size
  have q3 : w6.cell? ⟨P, 3, none⟩ = some (.bool p6.inD) := by
    obtain ⟨_, _, _, _, _, cD, _⟩ := h6.cells
    exact cD
  have f3 := h6.fz 3
  have h7 : PsA P T (w6.setCell ⟨P, 3, none⟩ (.bool true)) (p6.din true) := h6.inTo true
  have HD7 : Hid (DQ P W (w6.setCell ⟨P, 3, none⟩ (.bool true))) := HD6.out.own hPl 3 _
  have x7 := HD7.out.box
  have hg7 : ∀ g, g ≠ P → (w6.setCell ⟨P, 3, none⟩ (.bool true)).heap[g]? = w6.heap[g]? := fun g hg => Below.heap_setCell _ ⟨P, 3, none⟩ _ g hg
  have HN7 : Hid (SV (w6.setCell ⟨P, 3, none⟩ (.bool true)) Lb [.int .i64 6, .string (mkB t.text), nv, .int .i64 0, .int .i64 0, .string ⟨#[]⟩, .slice none 0 0, .slice none 0 0, .slice none 0 0, .slice none 0 0] ∧ (w6.setCell ⟨P, 3, none⟩ (.bool true)).ownsRow w5.heap.size 9 1 nv l.length (l.map sv) ∧ (w6.setCell ⟨P, 3, none⟩ (.bool true)).heap.size = w6.heap.size) := ⟨sv6.keep (hg7 _ (by omega)), own_heap nr6 fun g hg => hg7 g (by have := (nr6.lt g hg).1; omega), size_set _ _ _⟩
  obtain ⟨w7, hw7⟩ : ∃ w7, w7 = (w6.setCell ⟨P, 3, none⟩ (.bool true)) := ⟨_, rfl⟩
  rw [← hw7] at h7 HD7 x7 HN7
  have HW7 : Hid (w7 = (w6.setCell ⟨P, 3, none⟩ (.bool true))) := hw7
  have x7' : (w6.setCell ⟨P, 3, none⟩ (.bool true)).cell? ⟨W.heap.size, 0, none⟩ = some (pt P) := by rw [← hw7]; exact x7
  clear hw7 HC hx hJ x5 sv5 h5 hL6 sv6 nr6 h6 hg7 HD5 HD6
  rcases bnd_some hz6 with ⟨x, hx, rfl⟩ | ⟨bl, p8, hx, hz8⟩
  · have HT := HB.out w7 _ _ h7 (HEr.out _ HD7.out.kp) hx
    go_wp2_with fail
    rw [← HW7.out]
    refine HT.mono ?_
    rintro eX wX hpo
    obtain ⟨rfl, hkX⟩ := bad_panic hpo HD7.out.kp
    exact ⟨rfl, rfl, hkX⟩
  have HT := HB.out w7 _ _ h7 (HEr.out _ HD7.out.kp) hx
  cases hz8
  go_wp2_with fail
  rw [← HW7.out]
  refine HT.mono ?_
  rintro e8 w8 ⟨bv, rfl, hv8, h8, hj8⟩
  obtain ⟨ba, bc, rfl⟩ := hv8.shape
  have hsz7 := HN7.out.2.2
  have hs8 := hj8.size
  have sv8 := HN7.out.1.keep (hj8.blk Lb (by omega) (by omega))
  have nr8 := own_heap HN7.out.2.1 (w' := w8) (fun g hg => hj8.blk g (HN7.out.2.1.lt g hg).2 (by have := (HN7.out.2.1.lt g hg).1; omega))
  have f8 := sv8.fz 8
  have c8 := sv8.at_ 8 rfl
  have sv9 := sv8.set 8 (.slice ba bl.length bc)
  simp only [List.set_cons_zero, List.set_cons_succ] at sv9
  have hg9 : ∀ g, g ≠ Lb → (w8.setCell ⟨Lb, 8, none⟩ (.slice ba bl.length bc)).heap[g]? = w8.heap[g]? := fun g hg => Below.heap_setCell _ ⟨Lb, 8, none⟩ _ g hg
  have h9 : PsA P T (w8.setCell ⟨Lb, 8, none⟩ (.slice ba bl.length bc)) p8 := h8.keep (hg9 P (by omega)) (hg9 T (by omega))
  have HD9 : DQ P W (w8.setCell ⟨Lb, 8, none⟩ (.slice ba bl.length bc)) := (HD7.out.up hj8 hPl).put (by omega) 8 _
  have x9 := HD9.box
  have q9 : (w8.setCell ⟨Lb, 8, none⟩ (.slice ba bl.length bc)).cell? ⟨P, 3, none⟩ = some (.bool p8.inD) := by
    obtain ⟨_, _, _, _, _, cD, _⟩ := h9.cells
    exact cD
  have f9 := h9.fz 3
  have hgA : ∀ g, g ≠ P → ((w8.setCell ⟨Lb, 8, none⟩ (.slice ba bl.length bc)).setCell ⟨P, 3, none⟩ (.bool false)).heap[g]? = (w8.setCell ⟨Lb, 8, none⟩ (.slice ba bl.length bc)).heap[g]? := fun g hg => Below.heap_setCell _ ⟨P, 3, none⟩ _ g hg
  have hA : PsA P T ((w8.setCell ⟨Lb, 8, none⟩ (.slice ba bl.length bc)).setCell ⟨P, 3, none⟩ (.bool false)) (p8.din false) := h9.inTo false
  have HDA : DQ P W ((w8.setCell ⟨Lb, 8, none⟩ (.slice ba bl.length bc)).setCell ⟨P, 3, none⟩ (.bool false)) := HD9.own hPl 3 _
  have svA : SV ((w8.setCell ⟨Lb, 8, none⟩ (.slice ba bl.length bc)).setCell ⟨P, 3, none⟩ (.bool false)) Lb [.int .i64 6, .string (mkB t.text), nv, .int .i64 0, .int .i64 0, .string ⟨#[]⟩, .slice none 0 0, .slice none 0 0, .slice ba bl.length bc, .slice none 0 0] := sv9.keep (hgA _ (by omega))
  have nrA : ((w8.setCell ⟨Lb, 8, none⟩ (.slice ba bl.length bc)).setCell ⟨P, 3, none⟩ (.bool false)).ownsRow w5.heap.size 9 1 nv l.length (l.map sv) := own_heap nr8 fun g hg => (hgA g (by have := (nr8.lt g hg).1; omega)).trans (hg9 g (fun e => nn6 (e ▸ hg)))
  have hvA : VL (W.heap.size + 1 + 1) ((w8.setCell ⟨Lb, 8, none⟩ (.slice ba bl.length bc)).setCell ⟨P, 3, none⟩ (.bool false)) bl (.slice ba bl.length bc) := (hv8.up fun g hg _ => (hgA g (by omega)).trans (hg9 g (by omega))).le (by omega)
  have hsm : SmA ((w8.setCell ⟨Lb, 8, none⟩ (.slice ba bl.length bc)).setCell ⟨P, 3, none⟩ (.bool false)) (fun g => W.heap.size + 1 ≤ g ∧ g ≠ W.heap.size + 1) ⟨6, t.text, l, ⟨0, 0, [], [], []⟩, bl, []⟩ [.int .i64 6, .string (mkB t.text), nv, .int .i64 0, .int .i64 0, .string ⟨#[]⟩, .slice none 0 0, .slice none 0 0, .slice ba bl.length bc, .slice none 0 0] := sm_of (R := W.heap.size + 1) (k := 6) (t := t.text) (ns := l) (ExA.leaf 0 0 []) (row_mono nrA (Nat.zero_le _)) (fun g hg => by have := (nrA.lt g hg).1; omega) hvA (VL.nil _ _)
  obtain ⟨an, cn, rfl⟩ := row_shape nrA
  obtain ⟨t2, i2, o2, l2, j2⟩ := fin10 HDA.r rfl hsm
  have HZ : Hid (PoA P T (VS W.heap.size) W _ (.returned (.agg ((([.int .i64 6, .string (mkB t.text), .slice an l.length cn, .int .i64 0, .int .i64 0, .string ⟨#[]⟩, .slice none 0 0, .slice none 0 0, .slice ba bl.length bc, .slice none 0 0]) : List Value)).toArray)) (((w8.setCell ⟨Lb, 8, none⟩ (.slice ba bl.length bc)).setCell ⟨P, 3, none⟩ (.bool false)).setCells (W.heap.size + 1) 0 ([.int .i64 6, .string (mkB t.text), .slice an l.length cn, .int .i64 0, .int .i64 0, .string ⟨#[]⟩, .slice none 0 0, .slice none 0 0, .slice ba bl.length bc, .slice none 0 0]))) := poS_fin (Nat.le_succ _) hsm (fun g hg => ⟨by omega, hg.2⟩) hA HDA.kp hPl hTl
  have HG : Hid _ := (⟨svA.2.1, j2, t2, i2, o2, l2⟩ : _ ∧ _ ∧ _ ∧ _ ∧ _ ∧ _)
  clear t2 i2 o2 l2 j2 hsm hvA nrA svA HDA hA hgA HD9 h9 hg9 sv9 nr8 sv8 hj8 h8 hv8 HT HN7 HD7 h7
  go_wp2_with (first
    | (refine wpList_load_mid rfl 40 (Operand.tmp 3) rfl Lb 0 rfl _ _ HG.out.1 Tryz.underlying40 rfl HG.out.2.1 ?_)
    | (refine wpList_store_mid rfl 40 (Operand.tmp 2) (Operand.tmp 31) rfl (W.heap.size + 1) 0 _ rfl rfl HG.out.2.2.1 HG.out.2.2.2.1 HG.out.2.2.2.2.1 ?_)
    | fail)
  refine bodyPost_ret (v := .agg _) (res_one Tryz.results47 _ _ rfl HG.out.2.2.2.2.2) rfl HZ.out
end Go.Proofs.YtcaeeackccgclaaGreatDoor

/- isName: whether a text is just a name, by what Split makes of it. -/
namespace Go.Proofs.YtcaeeackccgclaaGreatDoor
open Go.RowKit Go.Shelf

set_option maxHeartbeats 4000000 in
set_option maxRecDepth 100000 in
theorem isName_any (L : List UInt8) (w : World) (hr : ErrR w) :
    Calls Tryz.prog 113 #[.string (mkB L)] w fun e w' => e = .returned (.bool (isNmL L)) ∧ Below w.heap.size w w' := by
  have HS := Split_any L w hr
  clear hr
  unfold isNmL
  match hs : splitA L with
  | .error (k, z) =>
    rw [hs] at HS
    clear hs
    go_enter Tryz.func113, Tryz.ntmps113
    go_wp2_with fail
    refine HS.mono ?_
    rintro e w1 ⟨hbad, _, hb1⟩
    obtain rfl := hbad k z rfl
    have hb2 : Below w.heap.size w (w1.alloc (.cells #[.int .i64 k, .int .i64 z] 25)) := hb1.alloc hb1.size _
    clear hbad hb1 HS
    go_wp2
    go_ret
    exact ⟨rfl, hb2⟩
  | .ok [] =>
    rw [hs] at HS
    clear hs
    go_enter Tryz.func113, Tryz.ntmps113
    go_wp2_with fail
    refine HS.mono ?_
    rintro e w1 ⟨_, hok, hb1⟩
    obtain ⟨tv, rfl, hown⟩ := hok [] rfl
    obtain ⟨ao, cp, rfl⟩ := row_shape hown
    have hb2 : Below w.heap.size w (w1.alloc (.cells #[.int .i64 0, .int .i64 0] 25)) := hb1.alloc hb1.size _
    clear hok hb1 HS hown
    go_wp2
    go_ret
    exact ⟨rfl, hb2⟩
  | .ok (t :: r) =>
    rw [hs] at HS
    clear hs
    have hq : (((t.kind : Nat) : Int) == (1 : Int)) = (t.kind == 1) := by rw [Bool.eq_iff_iff]; simp; omega
    have hq2 : ((mkB t.text).toList == (mkB L).toList) = (t.text == L) := by rw [mk_toList, mk_toList]
    go_enter Tryz.func113, Tryz.ntmps113
    go_wp2_with fail
    refine HS.mono ?_
    rintro e w1 ⟨_, hok, hb1⟩
    obtain ⟨tv, rfl, hown⟩ := hok (t :: r) rfl
    have hb2 : Below w.heap.size w (w1.alloc (.cells #[.int .i64 0, .int .i64 0] 25)) := hb1.alloc hb1.size _
    have hownX : (w1.alloc (.cells #[.int .i64 0, .int .i64 0] 25)).ownsRow w.heap.size 84 4 tv (t :: r).length (tcs (t :: r)) := own_heap hown (fun g hg => heap_al w1 _ g (hown.lt g hg).2)
    rcases hownX.2 with ⟨rfl, h0⟩ | ⟨g, cap, cur, rfl, hB, hg, h1, h2, h3, h4⟩
    · simp at h0
    obtain ⟨d0, d1, d2, d3⟩ := tcs_at t r
    have hcell : ∀ j, j < 4 → ∀ v, (tcs (t :: r))[j]? = some v → (w1.alloc (.cells #[.int .i64 0, .int .i64 0] 25)).cell? ⟨g, j, none⟩ = some v := fun j hj v hv => by
      rw [Lib.cell_of_heap hg]
      have e1 : (cur.toList.take ((t :: r).length * 4))[j]? = (tcs (t :: r))[j]? := by rw [h4]
      rw [List.getElem?_take, if_pos (by simp; omega), hv] at e1
      rw [← Array.getElem?_toList]
      exact e1
    have c0 := hcell 0 (by omega) _ d0
    have c1 := hcell 1 (by omega) _ d1
    have hlen : (0 : Int) < ((t :: r).length : Int) := by simp
    clear hok hb1 HS hown hownX hcell hB hg h1 h2 h3 h4 d0 d1 d2 d3
    generalize (t :: r).length = n at *
    cases hk : t.kind == 1 with
    | false =>
      rw [hk] at hq
      have hne : ¬ ((t.kind : Nat) : Int) = 1 := by simpa using hq
      go_wp2
      go_ret
      exact ⟨by show Ending.returned (.bool false) = .returned (.bool (t.kind == 1 && t.text == L)); rw [hk, Bool.false_and], hb2⟩
    | true =>
      rw [hk] at hq
      have heq : ((t.kind : Nat) : Int) = 1 := by simpa using hq
      rw [heq] at c0
      go_wp2
      go_ret
      exact ⟨by show Ending.returned (.bool (t.text == L)) = .returned (.bool (t.kind == 1 && t.text == L)); rw [hk, Bool.true_and], hb2⟩
end Go.Proofs.YtcaeeackccgclaaGreatDoor
