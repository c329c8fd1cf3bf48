/- The document's ring in memory: one is cut out of its tenants, or its credits. -/
import Derived.Test.YtfddhdpnoliamaaQuTu
import Derived.Test.YtfddhdpnoliamaaQuSm
namespace Go.Proofs.Ytfddhdpnoliamaa
open Go.RowKit Go.Shelf

theorem ns_cutN (l : List Nat) (k : Nat) : ns (cutN l k) = (ns l).take (k * 1) ++ (ns l).drop ((k + 1) * 1) := ns_cut l k
theorem cutN_len {α : Type} {l : List α} {k : Nat} (hk : k < l.length) : (cutN l k).length = l.length - 1 := by
  unfold cutN
  rw [List.length_append, List.length_take, List.length_drop]
  omega

section
variable {B P g cap n : Nat} {tv cv jv : Value} {X : World} {r : Rg}
theorem RS.tens_cut (h : RS B P (.slice (some ⟨g, 0, none⟩) n cap) cv jv X r) (hn : n = r.tens.length) (hcap : n ≤ cap) (k k1 : Nat) (hk : k < n) (hk1 : k1 = k + 1) (hb : n ≤ 1000) :
    ∃ v1 w1, (appS #[29, 29] 29 #[.slice (some ⟨g, 0, none⟩) k k, .slice (if cap = k1 then some (⟨g, 0, none⟩ : Addr) else some ⟨g, k1, none⟩) (n - k1) (cap - k1)]).run Try.prog X.drew = .ok v1 w1 ∧ (∃ a c, v1 = .slice a (n - 1) c) ∧
      w1.cell? ⟨P, 1, none⟩ = some (.slice (some ⟨g, 0, none⟩) n cap) ∧ w1.frozen? ⟨P, 1, none⟩ = false ∧ RS B P v1 cv jv (w1.setCell ⟨P, 1, none⟩ v1) { r with tens := cutN r.tens k } ∧
      Upd (rids P (.slice (some ⟨g, 0, none⟩) n cap) cv jv) (rids P v1 cv jv) X (w1.setCell ⟨P, 1, none⟩ v1) := by
  subst hn hk1
  obtain ⟨i0, hi0, hz0, hz1, hz2⟩ := info_p infI
  obtain ⟨ad, had⟩ : ∃ ad : Addr, (if cap = k + 1 then some (⟨g, 0, none⟩ : Addr) else some ⟨g, k + 1, none⟩) = some ad := by
    split
    · exact ⟨_, rfl⟩
    · exact ⟨_, rfl⟩
  have had2 : r.tens.length - (k + 1) ≠ 0 → ad = ⟨g, (k + 1) * 1, none⟩ := fun e => by
    rw [if_neg (by omega)] at had
    rw [Nat.mul_one]
    exact (Option.some.inj had).symm
  obtain ⟨v', w', hrun, hrow, hgr, hat⟩ := RowL.cut (P := Try.prog) (w := X.drew) (h := (h.tens.keep fun _ _ => rfl)) 29 29 i0 (.int .i64 0) 8 Try.underlying29 hi0 hz0 hz1 hz2 rfl k (cap - (k + 1)) hk ad had2 (by omega) (by have := h.lo; have := (h.lt P List.mem_cons_self).2; show B ≤ X.heap.size; omega)
  rw [← ns_cutN, ← cutN_len hk] at hrow
  obtain ⟨s1, s2, s3, s4⟩ := h.tensTo (Below.of_grown hgr) hrow (fun x hx => by
    rcases hat with a | a
    · rw [a] at hx; exact .inl hx
    · rw [a] at hx; cases hx; exact .inr (Nat.le_refl _))
  refine ⟨v', w', by rw [had]; exact hrun, ?_, s1, s2, s3, s4⟩
  rw [cutN_len hk] at hrow
  exact hrow.shape

theorem RS.creds_cut (h : RS B P tv (.slice (some ⟨g, 0, none⟩) n cap) jv X r) (hn : n = r.creds.length) (hcap : n ≤ cap) (k k1 : Nat) (hk : k < n) (hk1 : k1 = k + 1) (hb : n ≤ 1000) :
    ∃ v1 w1, (appS #[29, 29] 29 #[.slice (some ⟨g, 0, none⟩) k k, .slice (if cap = k1 then some (⟨g, 0, none⟩ : Addr) else some ⟨g, k1, none⟩) (n - k1) (cap - k1)]).run Try.prog X.drew = .ok v1 w1 ∧ (∃ a c, v1 = .slice a (n - 1) c) ∧
      w1.cell? ⟨P, 2, none⟩ = some (.slice (some ⟨g, 0, none⟩) n cap) ∧ w1.frozen? ⟨P, 2, none⟩ = false ∧ RS B P tv v1 jv (w1.setCell ⟨P, 2, none⟩ v1) { r with creds := cutN r.creds k } ∧
      Upd (rids P tv (.slice (some ⟨g, 0, none⟩) n cap) jv) (rids P tv v1 jv) X (w1.setCell ⟨P, 2, none⟩ v1) := by
  subst hn hk1
  obtain ⟨i0, hi0, hz0, hz1, hz2⟩ := info_p infI
  obtain ⟨ad, had⟩ : ∃ ad : Addr, (if cap = k + 1 then some (⟨g, 0, none⟩ : Addr) else some ⟨g, k + 1, none⟩) = some ad := by
    split
    · exact ⟨_, rfl⟩
    · exact ⟨_, rfl⟩
  have had2 : r.creds.length - (k + 1) ≠ 0 → ad = ⟨g, (k + 1) * 1, none⟩ := fun e => by
    rw [if_neg (by omega)] at had
    rw [Nat.mul_one]
    exact (Option.some.inj had).symm
  obtain ⟨v', w', hrun, hrow, hgr, hat⟩ := RowL.cut (P := Try.prog) (w := X.drew) (h := (h.creds.keep fun _ _ => rfl)) 29 29 i0 (.int .i64 0) 8 Try.underlying29 hi0 hz0 hz1 hz2 rfl k (cap - (k + 1)) hk ad had2 (by omega) (by have := h.lo; have := (h.lt P List.mem_cons_self).2; show B ≤ X.heap.size; omega)
  rw [← ns_cutN, ← cutN_len hk] at hrow
  obtain ⟨s1, s2, s3, s4⟩ := h.credsTo (Below.of_grown hgr) hrow (fun x hx => by
    rcases hat with a | a
    · rw [a] at hx; exact .inl hx
    · rw [a] at hx; cases hx; exact .inr (Nat.le_refl _))
  refine ⟨v', w', by rw [had]; exact hrun, ?_, s1, s2, s3, s4⟩
  rw [cutN_len hk] at hrow
  exact hrow.shape
end

/-- The job is laid out as what comes. -/
theorem take_end {B P N : Nat} {tv cv jv : Value} {I : List Nat} {w W2 : World} {r : Rg} {jx : Jb} (f1 : RS B P tv cv jv W2 r) (f2 : Upd I (rids P tv cv jv) w W2) (hN : w.heap.size ≤ N) (f4 : W2.heap[N]? = some (.cells #[.int .i64 0, .string ⟨#[]⟩, .int .i64 0] 34 (0, 0))) (f5 : ¬ N ∈ rids P tv cv jv) :
    (RS B P tv cv jv (((W2.setCell ⟨N, 0, none⟩ (.int .i64 (jx.ten : Int))).setCell ⟨N, 1, none⟩ (.string jx.name)).setCell ⟨N, 2, none⟩ (.int .i64 (jx.cost : Int))) r ∧ Upd I (rids P tv cv jv) w (((W2.setCell ⟨N, 0, none⟩ (.int .i64 (jx.ten : Int))).setCell ⟨N, 1, none⟩ (.string jx.name)).setCell ⟨N, 2, none⟩ (.int .i64 (jx.cost : Int)))) ∧
    (((W2.setCell ⟨N, 0, none⟩ (.int .i64 (jx.ten : Int))).setCell ⟨N, 1, none⟩ (.string jx.name)).setCell ⟨N, 2, none⟩ (.int .i64 (jx.cost : Int))).heap[N]? = some (.cells #[.int .i64 (jx.ten : Int), .string jx.name, .int .i64 (jx.cost : Int)] 34 (0, 0)) := by
  obtain ⟨h5, ho⟩ := three (x := .int .i64 (jx.ten : Int)) (y := .string jx.name) (z := .int .i64 (jx.cost : Int)) f4
  refine ⟨⟨f1.keep fun g hg => ho g (fun e => f5 (e ▸ hg)), ⟨f2.os, f2.tape, f2.output, ?_, fun g x1 x2 => (ho g (by omega)).trans (f2.block g x1 x2), f2.new⟩⟩, h5⟩
  have := f2.size
  simpa [World.setCell] using this
end Go.Proofs.Ytfddhdpnoliamaa
