/- The document's ring in memory: putting. -/
import Derived.Test.YtfddhdpnoliamaaQuNr
namespace Go.Proofs.Ytfddhdpnoliamaa
open Go.RowKit Go.Shelf
attribute [local go_sem ↓] appS_eq

def ns (l : List Nat) : List Value := l.map fun (n : Nat) => Value.int .i64 (n : Int)
theorem ns_len (l : List Nat) : (ns l).length = l.length * 1 := by simp [ns]

def rids (P : Nat) (tv cv jv : Value) : List Nat := P :: (ob tv ++ (ob cv ++ ob jv))
structure RS (B P : Nat) (tv cv jv : Value) (W : World) (r : Rg) : Prop where
  blk : W.heap[P]? = some (.cells #[.int .i64 r.qm, tv, cv, .bool r.turn, jv] 32 (0, 0))
  lo : B ≤ P
  tens : RowL W B 3 1 tv r.tens.length (ns r.tens)
  creds : RowL W B 3 1 cv r.creds.length (ns r.creds)
  jobs : RowL W B 34 3 jv r.jobs.length (jcs r.jobs)
  nd : (rids P tv cv jv).Nodup

section
variable {B P : Nat} {tv cv jv : Value} {W W' : World} {r : Rg}
theorem RS.lt (h : RS B P tv cv jv W r) : ∀ g ∈ rids P tv cv jv, B ≤ g ∧ g < W.heap.size := by
  intro g hg
  rcases List.mem_cons.1 hg with rfl | hg
  · exact ⟨h.lo, (Array.getElem?_eq_some_iff.1 h.blk).1⟩
  rcases List.mem_append.1 hg with hg | hg
  · exact h.tens.lt g (mem_ob.1 hg)
  rcases List.mem_append.1 hg with hg | hg
  · exact h.creds.lt g (mem_ob.1 hg)
  · exact h.jobs.lt g (mem_ob.1 hg)
theorem RS.keep (h : RS B P tv cv jv W r) (hh : ∀ g ∈ rids P tv cv jv, W'.heap[g]? = W.heap[g]?) : RS B P tv cv jv W' r :=
  ⟨(hh P List.mem_cons_self).trans h.blk, h.lo, h.tens.keep fun g hg => hh g (List.mem_cons_of_mem _ (List.mem_append_left _ (mem_ob.2 hg))),
   h.creds.keep fun g hg => hh g (List.mem_cons_of_mem _ (List.mem_append_right _ (List.mem_append_left _ (mem_ob.2 hg)))),
   h.jobs.keep fun g hg => hh g (List.mem_cons_of_mem _ (List.mem_append_right _ (List.mem_append_right _ (mem_ob.2 hg)))), h.nd⟩
theorem RS.up (h : RS B P tv cv jv W r) (hb : Below W.heap.size W W') : RS B P tv cv jv W' r := h.keep fun g hg => hb.block g (h.lt g hg).2
theorem RS.c (h : RS B P tv cv jv W r) (k : Nat) (v : Value) (hk : (#[.int .i64 (r.qm : Int), tv, cv, .bool r.turn, jv] : Array Value)[k]? = some v) : W.cell? ⟨P, k, none⟩ = some v := by
  rw [Lib.cell_of_heap h.blk]
  exact hk
end

def rput (r : Rg) (j : Jb) : Rg := { r with tens := if jat r.jobs (fun x => decide ((x.ten : Int) = (j.ten : Int))) < 0 then r.tens ++ [j.ten] else r.tens, creds := if jat r.jobs (fun x => decide ((x.ten : Int) = (j.ten : Int))) < 0 then r.creds ++ [0] else r.creds, jobs := r.jobs ++ [j] }

def rE (r : Rg) (x : Int) (s : ByteArray) (y : Int) : Int := if jobE x s y ≠ 0 then jobE x s y else if 0 ≤ jat r.jobs (fun j => eqN j.name s) then 6 else if r.jobs.length = 200 then 2 else 0
end Go.Proofs.Ytfddhdpnoliamaa
