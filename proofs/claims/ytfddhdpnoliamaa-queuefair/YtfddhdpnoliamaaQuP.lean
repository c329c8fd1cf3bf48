/- A queue, plain, and how it lies in memory. -/
import Derived.ProofKit
import Derived.Below
import Derived.WalkSmall
import Derived.Lib.SmallJoins
import Derived.Lib.MinMax
import Derived.Deep.RegionHeld3
import Derived.Deep.AppendLies
import Derived.Deep.DrawnRows
import Derived.Deep.QuietTactic
import Derived.BigQuiet
import Derived.BigRegion
import Derived.Laws.CopyOwn
import Derived.Shelf.Strconv.Clone
import Derived.Test.YtfddhdpnoliamaaChecked
namespace Go.Proofs.Ytfddhdpnoliamaa
open Go.RowKit Go.Shelf

structure Jb where
  ten : Nat
  name : ByteArray
  cost : Nat
structure Tn where
  num : Nat
  cr : Nat
  jobs : List Jb
structure Qu where
  qm : Nat
  ring : List Tn
  beg : Bool

def jc (j : Jb) : List Value := [.int .i64 j.ten, .string j.name, .int .i64 j.cost]
def jcs (l : List Jb) : List Value := l.flatMap jc
theorem jcs_len (l : List Jb) : (jcs l).length = l.length * 3 := by
  induction l with
  | nil => rfl
  | cons a r ih =>
    show (jc a ++ jcs r).length = _
    rw [List.length_append, ih, List.length_cons, show (jc a).length = 3 from rfl]
    omega
theorem jcs_app (l m : List Jb) : jcs (l ++ m) = jcs l ++ jcs m := by simp [jcs]
theorem jcs_at : ∀ (l : List Jb) (k : Nat) (h : k < l.length) (j : Nat), j < 3 → (jcs l)[k * 3 + j]? = (jc l[k])[j]?
  | a :: r, 0, _, j, hj => by
    show (jc a ++ jcs r)[0 * 3 + j]? = _
    rw [List.getElem?_append_left (by show 0 * 3 + j < 3; omega)]
    simp
  | a :: r, k + 1, h, j, hj => by
    show (jc a ++ jcs r)[(k + 1) * 3 + j]? = _
    rw [List.getElem?_append_right (by show 3 ≤ _; omega), show (k + 1) * 3 + j - (jc a).length = k * 3 + j from by show _ - 3 = _; omega]
    exact jcs_at r k (by simpa using h) j hj

/-- A tenant in memory: its block, its row of jobs, and what it is. -/
structure Ce where
  blk : Nat
  jv : Value
  t : Tn
def pc (c : Ce) : Value := .pointer (some ⟨c.blk, 0, none⟩)
def ob (v : Value) : List Nat := v.ownBlock.toList
def cids (c : Ce) : List Nat := c.blk :: ob c.jv
/-- The blocks of a queue. -/
def ids (P : Nat) (rv : Value) (cs : List Ce) : List Nat := P :: (ob rv ++ cs.flatMap cids)

structure TenAt (B : Nat) (w : World) (c : Ce) : Prop where
  lo : B ≤ c.blk
  blk : w.heap[c.blk]? = some (.cells #[.int .i64 c.t.num, .int .i64 c.t.cr, c.jv] 66 (0, 0))
  row : w.ownsRow B 34 3 c.jv c.t.jobs.length (jcs c.t.jobs)

structure QS (B P : Nat) (rv : Value) (cs : List Ce) (w : World) (q : Qu) : Prop where
  lo : B ≤ P
  ring : cs.map Ce.t = q.ring
  blk : w.heap[P]? = some (.cells #[.int .i64 q.qm, rv, .bool q.beg] 56 (0, 0))
  row : w.ownsRow B 64 1 rv cs.length (cs.map pc)
  tens : ∀ c ∈ cs, TenAt B w c
  apart : (ids P rv cs).Nodup

theorem own_heap {w w' : World} {base : Nat} {e : TypeId} {size : Nat} {v : Value} {n : Nat} {xs : List Value} (h : w.ownsRow base e size v n xs) (hh : ∀ g, v.ownBlock = some g → w'.heap[g]? = w.heap[g]?) : w'.ownsRow base e size v n xs := by
  refine ⟨h.1, ?_⟩
  rcases h.2 with hn | ⟨g, cap, cur, rfl, hb, hgg, rest⟩
  · exact .inl hn
  · exact .inr ⟨g, cap, cur, rfl, hb, (hh g rfl).trans hgg, rest⟩
theorem row_shape {w : World} {base : Nat} {e : TypeId} {size : Nat} {v : Value} {n : Nat} {xs : List Value} (h : w.ownsRow base e size v n xs) : ∃ ao cap, v = .slice ao n cap := by
  rcases h.2 with ⟨rfl, rfl⟩ | ⟨g, cap, cur, rfl, _⟩
  · exact ⟨_, _, rfl⟩
  · exact ⟨_, _, rfl⟩
theorem row_max {w : World} {base : Nat} {e : TypeId} {size : Nat} {v : Value} {n : Nat} {xs : List Value} (h : w.ownsRow base e size v n xs) : n ≤ maxLen := by
  rcases h.2 with ⟨_, b⟩ | ⟨g, cap, cur, _, _, _, h1, h2, _⟩
  · subst b; exact Nat.zero_le _
  · exact Nat.le_trans h1 h2
theorem mem_ob {v : Value} {g : Nat} : g ∈ ob v ↔ v.ownBlock = some g := by
  unfold ob
  cases v.ownBlock <;> simp [eq_comm]

theorem TenAt.keep {B : Nat} {w w' : World} {c : Ce} (h : TenAt B w c) (hh : ∀ g ∈ cids c, w'.heap[g]? = w.heap[g]?) : TenAt B w' c :=
  ⟨h.lo, (hh c.blk List.mem_cons_self).trans h.blk, own_heap h.row fun g hg => hh g (List.mem_cons_of_mem _ (mem_ob.2 hg))⟩
theorem mem_ids_c {P : Nat} {rv : Value} {cs : List Ce} {c : Ce} (hc : c ∈ cs) {g : Nat} (hg : g ∈ cids c) : g ∈ ids P rv cs :=
  List.mem_cons_of_mem _ (List.mem_append_right _ (List.mem_flatMap.2 ⟨c, hc, hg⟩))
theorem mem_ids_r {P : Nat} {rv : Value} {cs : List Ce} {g : Nat} (hg : rv.ownBlock = some g) : g ∈ ids P rv cs :=
  List.mem_cons_of_mem _ (List.mem_append_left _ (mem_ob.2 hg))
section
variable {B P : Nat} {rv : Value} {cs : List Ce} {w : World} {q : Qu}
/-- Nothing of it has turned. -/
theorem QS.keep (h : QS B P rv cs w q) {w' : World} (hh : ∀ g ∈ ids P rv cs, w'.heap[g]? = w.heap[g]?) : QS B P rv cs w' q :=
  ⟨h.lo, h.ring, (hh P List.mem_cons_self).trans h.blk, own_heap h.row fun g hg => hh g (mem_ids_r hg), fun c hc => (h.tens c hc).keep fun g hg => hh g (mem_ids_c hc hg), h.apart⟩
theorem QS.lt (h : QS B P rv cs w q) : ∀ g ∈ ids P rv cs, B ≤ g ∧ g < w.heap.size := by
  intro g hg
  rcases List.mem_cons.1 hg with rfl | hg
  · exact ⟨h.lo, (Array.getElem?_eq_some_iff.1 h.blk).1⟩
  rcases List.mem_append.1 hg with hg | hg
  · exact h.row.lt g (mem_ob.1 hg)
  obtain ⟨c, hc, hg⟩ := List.mem_flatMap.1 hg
  have ht := h.tens c hc
  rcases List.mem_cons.1 hg with rfl | hg
  · exact ⟨ht.lo, (Array.getElem?_eq_some_iff.1 ht.blk).1⟩
  · exact ht.row.lt g (mem_ob.1 hg)
theorem QS.up (h : QS B P rv cs w q) {w' : World} (hb : Below w.heap.size w w') : QS B P rv cs w' q := h.keep fun g hg => hb.block g (h.lt g hg).2
theorem QS.drewN (h : QS B P rv cs w q) (n : Nat) : QS B P rv cs (w.drewN n) q := h.keep fun _ _ => rfl
theorem QS.c0 (h : QS B P rv cs w q) : w.cell? ⟨P, 0, none⟩ = some (.int .i64 q.qm) := by rw [Lib.cell_of_heap h.blk]; rfl
theorem QS.c1 (h : QS B P rv cs w q) : w.cell? ⟨P, 1, none⟩ = some rv := by rw [Lib.cell_of_heap h.blk]; rfl
theorem QS.c2 (h : QS B P rv cs w q) : w.cell? ⟨P, 2, none⟩ = some (.bool q.beg) := by rw [Lib.cell_of_heap h.blk]; rfl
theorem QS.fz (h : QS B P rv cs w q) (i : Nat) : w.frozen? ⟨P, i, none⟩ = false := Lib.frozen_of_heap h.blk i
end
section
variable {B : Nat} {w : World} {c : Ce}
theorem TenAt.c0 (h : TenAt B w c) : w.cell? ⟨c.blk, 0, none⟩ = some (.int .i64 c.t.num) := by rw [Lib.cell_of_heap h.blk]; rfl
theorem TenAt.c1 (h : TenAt B w c) : w.cell? ⟨c.blk, 1, none⟩ = some (.int .i64 c.t.cr) := by rw [Lib.cell_of_heap h.blk]; rfl
theorem TenAt.c2 (h : TenAt B w c) : w.cell? ⟨c.blk, 2, none⟩ = some c.jv := by rw [Lib.cell_of_heap h.blk]; rfl
theorem TenAt.fz (h : TenAt B w c) (i : Nat) : w.frozen? ⟨c.blk, i, none⟩ = false := Lib.frozen_of_heap h.blk i
theorem TenAt.lt (h : TenAt B w c) : c.blk < w.heap.size := (Array.getElem?_eq_some_iff.1 h.blk).1
end

/-- Of all blocks that were there these alone may have turned; all that is its own now was, or is new. -/
structure Upd (I I' : List Nat) (w w' : World) : Prop where
  os : w'.os = w.os
  tape : w'.tape = w.tape
  output : w'.output = w.output
  size : w.heap.size ≤ w'.heap.size
  block : ∀ g : Nat, g < w.heap.size → g ∉ I → w'.heap[g]? = w.heap[g]?
  new : ∀ g ∈ I', g ∈ I ∨ w.heap.size ≤ g
theorem Upd.refl (I : List Nat) (w : World) : Upd I I w w := ⟨rfl, rfl, rfl, Nat.le_refl _, fun _ _ _ => rfl, fun _ h => .inl h⟩
theorem Upd.trans {I J K : List Nat} {a b c : World} (h : Upd I J a b) (k : Upd J K b c) : Upd I K a c :=
  ⟨k.os.trans h.os, k.tape.trans h.tape, k.output.trans h.output, Nat.le_trans h.size k.size,
   fun g hg hn => (k.block g (Nat.lt_of_lt_of_le hg h.size) fun hj => by
      rcases h.new g hj with e | e
      · exact hn e
      · omega).trans (h.block g hg hn),
   fun g hg => by
      rcases k.new g hg with e | e
      · exact h.new g e
      · exact .inr (Nat.le_trans h.size e)⟩
theorem Upd.of_below {I : List Nat} {w w' : World} (h : Below w.heap.size w w') : Upd I I w w' := ⟨h.os, h.tape, h.output, h.size, fun g hg _ => h.block g hg, fun _ h => .inl h⟩
theorem Upd.below {I I' : List Nat} {w w' : World} {B : Nat} (h : Upd I I' w w') (hB : ∀ g ∈ I, B ≤ g) (hw : B ≤ w.heap.size) : Below B w w' :=
  ⟨h.os, h.tape, h.output, h.size, fun g hg => h.block g (by omega) fun hi => by have := hB g hi; omega⟩
theorem Upd.drewN {I I' : List Nat} {w w' : World} (h : Upd I I' w w') (n : Nat) : Upd I I' w (w'.drewN n) := ⟨h.os, h.tape, h.output, h.size, h.block, h.new⟩

/-- A cell of one of its blocks is written. -/
theorem Upd.set {I : List Nat} (w : World) (a : Addr) (v : Value) (ha : a.block ∈ I) : Upd I I w (w.setCell a v) :=
  ⟨rfl, rfl, rfl, by simp [World.setCell], fun g _ hg => Below.heap_setCell w a v g (fun e => hg (e ▸ ha)), fun _ h => .inl h⟩
end Go.Proofs.Ytfddhdpnoliamaa
