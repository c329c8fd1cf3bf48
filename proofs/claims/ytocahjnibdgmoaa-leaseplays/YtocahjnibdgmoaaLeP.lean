/- A book of leases, plain, and how it lies in memory. -/
import Derived.Test.YtocahjnibdgmoaaLeI
import Derived.Sort.KeysCollected
namespace Go.Proofs.Ytocahjnibdgmoaa
open Go.RowKit Go.Shelf Go.Maps Go.WideMaps

/-- A job in memory: its name, its block, its map of leases; is it done; how often it was tried; its leases: worker and time, rising. -/
structure Ent where
  nm : List UInt8
  blk : Nat
  tb : Option Nat
  dn : Bool
  tr : Nat
  ts : List (Int × Int)

def tD (p : Int × Int) : Lit × DataW Unit := (.int .i64 p.1, .lit (.int .i64 p.2))
def eD (e : Ent) : Lit × DataW Unit := (.string e.nm, .lit (.int .i64 (e.blk : Int)))
def eids (e : Ent) : List Nat := e.blk :: e.tb.toList
def bids (Bk M : Nat) (E : List Ent) : List Nat := Bk :: M :: E.flatMap eids

/-- A lease among others. -/
def insT (x : Int × Int) : List (Int × Int) → List (Int × Int)
  | [] => [x]
  | y :: r => if x.1 < y.1 then x :: y :: r else y :: insT x r
def offT (k : Int) (l : List (Int × Int)) : List (Int × Int) := l.filter fun p => decide (p.1 ≠ k)
def hasT (k : Int) (l : List (Int × Int)) : Bool := l.any fun p => decide (p.1 = k)

theorem insT_D (x : Int × Int) : ∀ l : List (Int × Int), DataW.insert (tD x) (l.map tD) = (insT x l).map tD
  | [] => rfl
  | y :: r => by
    show (if (tD x).1.before (tD y).1 then tD x :: tD y :: r.map tD else tD y :: DataW.insert (tD x) (r.map tD)) = _
    rw [insT_D x r, show (tD x).1.before (tD y).1 = decide (x.1 < y.1) from rfl]
    show _ = (if x.1 < y.1 then x :: y :: r else y :: insT x r).map tD
    by_cases h : x.1 < y.1 <;> simp [h]
theorem same_tD (p : Int × Int) (k : Int) : (tD p).1.sameKey (.int .i64 k) = decide (p.1 = k) := by
  show decide (IntKind.i64 = IntKind.i64 ∧ p.1 = k) = _
  simp
theorem off_D (k : Int) (l : List (Int × Int)) : (l.map tD).filter (fun p => !p.1.sameKey (.int .i64 k)) = (offT k l).map tD := by
  rw [List.filter_map]
  congr 1
  refine List.filter_congr fun p _ => ?_
  show (!(tD p).1.sameKey (.int .i64 k)) = _
  rw [same_tD]
  simp
theorem put_D (k t : Int) (l : List (Int × Int)) : (DataW.map (l.map tD)).put (.int .i64 k) (.lit (.int .i64 t)) = .map ((insT (k, t) (offT k l)).map tD) := by
  show DataW.map (DataW.insert (tD (k, t)) ((l.map tD).filter fun p => !p.1.sameKey (.int .i64 k))) = _
  rw [off_D, insT_D]
theorem del_D (k : Int) (l : List (Int × Int)) : (DataW.map (l.map tD)).del (.int .i64 k) = .map ((offT k l).map tD) := by
  show DataW.map ((l.map tD).filter fun p => !p.1.sameKey (.int .i64 k)) = _
  rw [off_D]
theorem has_D (k : Int) (l : List (Int × Int)) : Maps.has (DataW.map (l.map tD)) (.int .i64 k) = hasT k l := by
  show (l.map tD).any (fun p => p.1.sameKey (.int .i64 k)) = _
  rw [List.any_map]
  unfold hasT
  congr 1
  funext p
  exact same_tD p k
theorem cut_D (nw : Int) (l : List (Int × Int)) : (l.map tD).filter (fun p => decide (nw ≤ numD p.2)) = (l.filter fun p => decide (nw ≤ p.2)).map tD := by
  rw [List.filter_map]
  rfl
theorem size_D (l : List (Int × Int)) : Maps.size (DataW.map (l.map tD)) = l.length := by
  show (l.map tD).length = _
  simp

theorem norm_own {H : Type} {w : World} {P : Program} {k : TypeId} {R : Value → Option (DataW H × List MemPlace)} {b n : Nat} {D : DataW H} (h : w.ownsMap P k R b n D) : w.ownsMap P k R b (Maps.size D) D := by
  obtain ⟨es, clock, hb, F, hs, rfl⟩ := h
  exact ⟨es, clock, hb, F, by show es.size ≤ List.length _; rw [length_read]; exact Nat.le_refl _, rfl⟩

/-- A job lies in memory. -/
structure JobAt (B : Nat) (w : World) (e : Ent) : Prop where
  lo : B ≤ e.blk
  blk : w.heap[e.blk]? = some (.cells #[.bool e.dn, .int .i64 (e.tr : Int), .map e.tb] 63 (0, 0))
  till : (e.tb = none ∧ e.ts = []) ∨ ∃ t, e.tb = some t ∧ B ≤ t ∧ w.ownsMap Try.prog 3 (plainElem (H := Unit) Try.prog 3) t e.ts.length (.map (e.ts.map tD))

structure BS (B Bk M : Nat) (a b c nw : Int) (E : List Ent) (w : World) : Prop where
  lo : B ≤ Bk
  loM : B ≤ M
  blk : w.heap[Bk]? = some (.cells #[.int .i64 a, .int .i64 b, .int .i64 c, .int .i64 nw, .map (some M)] 58 (0, 0))
  own : w.ownsMap Try.prog 9 ptrE M E.length (.map (E.map eD))
  jobs : ∀ e ∈ E, JobAt B w e
  apart : (bids Bk M E).Nodup

/-- Of all blocks that were there these alone may have turned; all that is its own now was, or is new. -/
structure Upd (I I' : List Nat) (w w' : World) : Prop where
  os : w'.os = w.os
  tape : w'.tape = w.tape
  output : w'.output = w.output
  size : w.heap.size ≤ w'.heap.size
  block : ∀ g : Nat, g < w.heap.size → g ∉ I → w'.heap[g]? = w.heap[g]?
  new : ∀ g ∈ I', g ∈ I ∨ w.heap.size ≤ g
theorem Upd.refl (I : List Nat) (w : World) : Upd I I w w := ⟨rfl, rfl, rfl, Nat.le_refl _, fun _ _ _ => rfl, fun _ h => .inl h⟩
theorem Upd.trans {I J K : List Nat} {a b c : World} (h : Upd I J a b) (k : Upd J K b c) : Upd I K a c :=
  ⟨k.os.trans h.os, k.tape.trans h.tape, k.output.trans h.output, Nat.le_trans h.size k.size,
   fun g hg hn => (k.block g (Nat.lt_of_lt_of_le hg h.size) fun hj => by
      rcases h.new g hj with e | e
      · exact hn e
      · omega).trans (h.block g hg hn),
   fun g hg => by
      rcases k.new g hg with e | e
      · exact h.new g e
      · exact .inr (Nat.le_trans h.size e)⟩
theorem Upd.of_below {I : List Nat} {w w' : World} (h : Below w.heap.size w w') : Upd I I w w' := ⟨h.os, h.tape, h.output, h.size, fun g hg _ => h.block g hg, fun _ h => .inl h⟩
theorem Upd.below {I I' : List Nat} {w w' : World} {B : Nat} (h : Upd I I' w w') (hB : ∀ g ∈ I, B ≤ g) (hw : B ≤ w.heap.size) : Below B w w' :=
  ⟨h.os, h.tape, h.output, h.size, fun g hg => h.block g (by omega) fun hi => by have := hB g hi; omega⟩
theorem Upd.drewN {I I' : List Nat} {w w' : World} (h : Upd I I' w w') (n : Nat) : Upd I I' w (w'.drewN n) := ⟨h.os, h.tape, h.output, h.size, h.block, h.new⟩
theorem Upd.set {I : List Nat} (w : World) (a : Addr) (v : Value) (ha : a.block ∈ I) : Upd I I w (w.setCell a v) :=
  ⟨rfl, rfl, rfl, by simp [World.setCell], fun g _ hg => Below.heap_setCell w a v g (fun e => hg (e ▸ ha)), fun _ h => .inl h⟩
theorem Upd.of_grown {I : List Nat} {w w' : World} {row : Option Nat} (h : w.grownBy w' row) (hr : ∀ j, row = some j → j ∈ I ∨ w.heap.size ≤ j) : Upd I I w w' :=
  ⟨h.os, h.tape, h.output, h.size, fun g hg hn => h.block g hg fun e => by
    rcases hr g e.symm with e | e
    · exact hn e
    · omega, fun _ h => .inl h⟩

theorem JobAt.keep {B : Nat} {w w' : World} {e : Ent} (h : JobAt B w e) (hh : ∀ g ∈ eids e, w'.heap[g]? = w.heap[g]?) : JobAt B w' e :=
  ⟨h.lo, (hh e.blk List.mem_cons_self).trans h.blk, by
    rcases h.till with h1 | ⟨t, h1, h2, h3⟩
    · exact .inl h1
    · exact .inr ⟨t, h1, h2, ownsMap_heap h3 (hh t (List.mem_cons_of_mem _ (by rw [h1]; simp)))⟩⟩
theorem JobAt.lt {B : Nat} {w : World} {e : Ent} (h : JobAt B w e) : ∀ g ∈ eids e, B ≤ g ∧ g < w.heap.size := by
  intro g hg
  rcases List.mem_cons.1 hg with rfl | hg
  · exact ⟨h.lo, (Array.getElem?_eq_some_iff.1 h.blk).1⟩
  · rcases h.till with ⟨h1, _⟩ | ⟨t, h1, h2, h3⟩
    · rw [h1] at hg; cases hg
    · rw [h1] at hg
      simp at hg
      subst hg
      exact ⟨h2, h3.lt⟩
theorem JobAt.c0 {B : Nat} {w : World} {e : Ent} (h : JobAt B w e) : w.cell? ⟨e.blk, 0, none⟩ = some (.bool e.dn) := by rw [Lib.cell_of_heap h.blk]; rfl
theorem JobAt.c1 {B : Nat} {w : World} {e : Ent} (h : JobAt B w e) : w.cell? ⟨e.blk, 1, none⟩ = some (.int .i64 (e.tr : Int)) := by rw [Lib.cell_of_heap h.blk]; rfl
theorem JobAt.c2 {B : Nat} {w : World} {e : Ent} (h : JobAt B w e) : w.cell? ⟨e.blk, 2, none⟩ = some (.map e.tb) := by rw [Lib.cell_of_heap h.blk]; rfl
theorem JobAt.fz {B : Nat} {w : World} {e : Ent} (h : JobAt B w e) (i : Nat) : w.frozen? ⟨e.blk, i, none⟩ = false := Lib.frozen_of_heap h.blk i

theorem mem_bids {Bk M : Nat} {E : List Ent} {e : Ent} (he : e ∈ E) {g : Nat} (hg : g ∈ eids e) : g ∈ bids Bk M E :=
  List.mem_cons_of_mem _ (List.mem_cons_of_mem _ (List.mem_flatMap.2 ⟨e, he, hg⟩))

section
variable {B Bk M : Nat} {a b c nw : Int} {E : List Ent} {w w' : World}
theorem BS.keep (h : BS B Bk M a b c nw E w) (hh : ∀ g ∈ bids Bk M E, w'.heap[g]? = w.heap[g]?) : BS B Bk M a b c nw E w' :=
  ⟨h.lo, h.loM, (hh Bk List.mem_cons_self).trans h.blk, ownsMap_heap h.own (hh M (List.mem_cons_of_mem _ List.mem_cons_self)), fun e he => (h.jobs e he).keep fun g hg => hh g (mem_bids he hg), h.apart⟩
theorem BS.lt (h : BS B Bk M a b c nw E w) : ∀ g ∈ bids Bk M E, B ≤ g ∧ g < w.heap.size := by
  intro g hg
  rcases List.mem_cons.1 hg with rfl | hg
  · exact ⟨h.lo, (Array.getElem?_eq_some_iff.1 h.blk).1⟩
  rcases List.mem_cons.1 hg with rfl | hg
  · exact ⟨h.loM, h.own.lt⟩
  obtain ⟨e, he, hg⟩ := List.mem_flatMap.1 hg
  exact (h.jobs e he).lt g hg
theorem BS.up (h : BS B Bk M a b c nw E w) (hb : Below w.heap.size w w') : BS B Bk M a b c nw E w' := h.keep fun g hg => hb.block g (h.lt g hg).2
theorem BS.drewN (h : BS B Bk M a b c nw E w) (n : Nat) : BS B Bk M a b c nw E (w.drewN n) := h.keep fun _ _ => rfl
theorem BS.c0 (h : BS B Bk M a b c nw E w) : w.cell? ⟨Bk, 0, none⟩ = some (.int .i64 a) := by rw [Lib.cell_of_heap h.blk]; rfl
theorem BS.c1 (h : BS B Bk M a b c nw E w) : w.cell? ⟨Bk, 1, none⟩ = some (.int .i64 b) := by rw [Lib.cell_of_heap h.blk]; rfl
theorem BS.c2 (h : BS B Bk M a b c nw E w) : w.cell? ⟨Bk, 2, none⟩ = some (.int .i64 c) := by rw [Lib.cell_of_heap h.blk]; rfl
theorem BS.c3 (h : BS B Bk M a b c nw E w) : w.cell? ⟨Bk, 3, none⟩ = some (.int .i64 nw) := by rw [Lib.cell_of_heap h.blk]; rfl
theorem BS.c4 (h : BS B Bk M a b c nw E w) : w.cell? ⟨Bk, 4, none⟩ = some (.map (some M)) := by rw [Lib.cell_of_heap h.blk]; rfl
theorem BS.fz (h : BS B Bk M a b c nw E w) (i : Nat) : w.frozen? ⟨Bk, i, none⟩ = false := Lib.frozen_of_heap h.blk i
theorem BS.names (h : BS B Bk M a b c nw E w) : E.Pairwise (fun x y => x.nm ≠ y.nm) := by
  obtain ⟨es, hD, hpw, _⟩ := h.own.entries lawS
  injection hD with hD
  subst hD
  exact (List.pairwise_map.1 hpw).imp fun hne e => hne (by show Lit.string _ = Lit.string _; rw [e])
end

theorem nodup_swap {A X X' C : List Nat} {N : Nat} (h : (A ++ (X ++ C)).Nodup) (hl : ∀ g ∈ A ++ (X ++ C), g < N) (hX : X'.Nodup) (hn : ∀ g ∈ X', g ∈ X ∨ N ≤ g) : (A ++ (X' ++ C)).Nodup := by
  rw [List.nodup_append] at h ⊢
  obtain ⟨h1, h2, h3⟩ := h
  rw [List.nodup_append] at h2
  obtain ⟨h4, h5, h6⟩ := h2
  refine ⟨h1, List.nodup_append.2 ⟨hX, h5, fun x hx y hy e => ?_⟩, fun x hx y hy e => ?_⟩
  · subst e
    rcases hn x hx with e | e
    · exact h6 x e x hy rfl
    · have := hl x (by simp [hy]); omega
  · subst e
    rcases List.mem_append.1 hy with hy | hy
    · rcases hn x hy with e | e
      · exact h3 x hx x (by simp [e]) rfl
      · have := hl x (by simp [hx]); omega
    · exact h3 x hx x (by simp [hy]) rfl

theorem bids_mid (Bk M : Nat) (E1 E2 : List Ent) (e : Ent) : bids Bk M (E1 ++ e :: E2) = (Bk :: M :: E1.flatMap eids) ++ (eids e ++ E2.flatMap eids) := by simp [bids]

/-- One job has turned. -/
theorem BS.setEnt {B Bk M : Nat} {a b c nw : Int} {E1 E2 : List Ent} {e e' : Ent} {w w' : World} (h : BS B Bk M a b c nw (E1 ++ e :: E2) w) (hnm : e'.nm = e.nm) (hblk : e'.blk = e.blk) (hnd : (eids e').Nodup) (htb : ∀ g ∈ eids e', g ∈ eids e ∨ w.heap.size ≤ g) (hj : JobAt B w' e') (hk : ∀ g, g < w.heap.size → g ∉ eids e → w'.heap[g]? = w.heap[g]?) :
    BS B Bk M a b c nw (E1 ++ e' :: E2) w' := by
  have hap := h.apart
  rw [bids_mid] at hap
  have hout : ∀ g ∈ bids Bk M (E1 ++ E2), g ∉ eids e := by
    rw [List.nodup_append] at hap
    obtain ⟨_, h2, h3⟩ := hap
    rw [List.nodup_append] at h2
    intro g hg he
    rw [show bids Bk M (E1 ++ E2) = (Bk :: M :: E1.flatMap eids) ++ E2.flatMap eids from by simp [bids]] at hg
    rcases List.mem_append.1 hg with hg | hg
    · exact h3 g hg g (by simp [he]) rfl
    · exact h2.2.2 g he g hg rfl
  have hin : ∀ g ∈ bids Bk M (E1 ++ E2), g < w.heap.size := fun g hg => (h.lt g (by
    rw [bids_mid]
    rw [show bids Bk M (E1 ++ E2) = (Bk :: M :: E1.flatMap eids) ++ E2.flatMap eids from by simp [bids]] at hg
    rcases List.mem_append.1 hg with hg | hg
    · exact List.mem_append_left _ hg
    · exact List.mem_append_right _ (List.mem_append_right _ hg))).2
  have hkk : ∀ g ∈ bids Bk M (E1 ++ E2), w'.heap[g]? = w.heap[g]? := fun g hg => hk g (hin g hg) (hout g hg)
  have hmem : ∀ x ∈ E1 ++ E2, x ∈ E1 ++ e :: E2 := fun x hx => by
    rcases List.mem_append.1 hx with hx | hx
    · simp [hx]
    · simp [hx]
  have hl : (E1 ++ e' :: E2).length = (E1 ++ e :: E2).length := by simp
  have hD : (E1 ++ e' :: E2).map eD = (E1 ++ e :: E2).map eD := by simp [eD, hnm, hblk]
  refine ⟨h.lo, h.loM, (hkk Bk List.mem_cons_self).trans h.blk, by rw [hl, hD]; exact ownsMap_heap h.own (hkk M (List.mem_cons_of_mem _ List.mem_cons_self)), fun x hx => ?_, ?_⟩
  · rcases List.mem_append.1 hx with hx | hx
    · exact (h.jobs x (by simp [hx])).keep fun g hg => hkk g (mem_bids (by simp [hx]) hg)
    · rcases List.mem_cons.1 hx with rfl | hx
      · exact hj
      · exact (h.jobs x (by simp [hx])).keep fun g hg => hkk g (mem_bids (by simp [hx]) hg)
  · rw [bids_mid]
    exact nodup_swap hap (fun g hg => (h.lt g (by rw [bids_mid]; exact hg)).2) hnd htb
end Go.Proofs.Ytocahjnibdgmoaa
