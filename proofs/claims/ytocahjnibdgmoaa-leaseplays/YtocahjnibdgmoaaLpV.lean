/- The document's book: time is told. -/
import Derived.Test.YtocahjnibdgmoaaLpU
import Derived.Deep.LoopGhost
namespace Go.Proofs.Ytocahjnibdgmoaa
open Go.RowKit Go.Shelf Go.Sort

theorem lsP_nd : ∀ (P : List Pj), P.Pairwise (fun x y => x.nm ≠ y.nm) → (∀ p ∈ P, p.ts.Pairwise fun x y => x.1 < y.1) → (lsP P).Nodup
  | [], _, _ => List.nodup_nil
  | p :: r, h, hw => by
    rw [List.pairwise_cons] at h
    rw [lsP_cons, List.nodup_append]
    refine ⟨List.pairwise_map.2 ((hw p (by simp)).imp fun {x y} hxy e => by injection e with _ e; injection e with e; omega), lsP_nd r h.2 fun q hq => hw q (by simp [hq]), fun x hx y hy e => ?_⟩
    obtain ⟨q, hq, rfl⟩ := List.mem_map.1 hx
    obtain ⟨p2, hp2, hn, _⟩ := mem_lsP.1 hy
    exact h.1 p2 hp2 (by rw [hn, ← e])
theorem cutL_mid (pre r : List (List UInt8 × Int × Int)) (x : List UInt8 × Int × Int) : cutL (pre ++ x :: r) pre.length = pre ++ r := by
  unfold cutL
  simp

section
variable {B R : Nat} {a b c : Int} {nv sv tv av : Value} {d : Db} {w : World} {P : List Pj}
theorem drop_sim {pre r : List (List UInt8 × Int × Int)} {x : List UInt8 × Int × Int} (h : DB B R a b c nv sv tv av d w) (hs : Sim b P d) (ho : PO b P) (hA : d.A = pre ++ x :: r) (hb : d.A.length ≤ 1000000) (hnb : d.N.length ≤ 1000000) :
    ∃ p, fndP P x.1 = some p ∧ x.2 ∈ p.ts ∧ Calls Try.prog 37 #[.pointer (some ⟨R, 0, none⟩), .int .i64 (pre.length : Int)] w fun e w' => e = .returned (.bool (decide (offT x.2.1 p.ts = []))) ∧ ∃ av' d', DB B R a b c nv sv tv av' d' w' ∧ Upd (rid R (rws nv sv tv av d)) (rid R (rws nv sv tv av' d')) w w' ∧ Sim b (setP P x.1 (offP x.2.1)) d' ∧ d'.A = pre ++ r ∧ d'.N = d.N ∧ d'.now = d.now := by
  have hi : pre.length < d.A.length := by rw [hA]; simp
  obtain ⟨k, p, hk, hkf, hf, hpt, hB, hsim⟩ := hs.drop ho hi
  have hx : d.A[pre.length] = x := by simp [hA]
  rw [hx] at hkf hf hpt hB hsim
  refine ⟨p, hf, hpt, ?_⟩
  have := drop_any h hb hnb pre.length hi k (by rw [hx]; exact hkf) (by rw [hs.sl]; exact hk) (by rw [hs.tl]; exact hk)
  rw [hx, hB] at this
  refine this.mono ?_
  rintro e w' ⟨rfl, av', r1, r2⟩
  refine ⟨rfl, av', _, r1, r2, hsim, ?_, ?_, ?_⟩
  · unfold drpD
    split
    · show cutL d.A pre.length = _; rw [hA, cutL_mid]
    · show cutL d.A pre.length = _; rw [hA, cutL_mid]
  · unfold drpD; split <;> rfl
  · unfold drpD; split <;> rfl

/-- While it goes through all leases. -/
structure TI (B R : Nat) (a b c : Int) (nv sv tv av : Value) (d0 : Db) (w0 : World) (P : List Pj) (now : Int) (gk : Nat) (ov : Value) (n : Nat) (w : World) : Prop where
  ex : ∃ av' pre rest d, DB B R a b c nv sv tv av' d w ∧ Sim b (fPl now rest P) d ∧ d.A = pre ++ rest ∧ d.now = now ∧ d.N = d0.N ∧ n = pre.length ∧ gk = rest.length ∧ rest.Nodup ∧ (∀ x ∈ rest, x ∈ lsP P) ∧ Upd (rid R (rws nv sv tv av d0)) (rid R (rws nv sv tv av' d)) w0 w ∧ w.ownsRow w0.heap.size 9 1 ov (outs now rest P).length ((outs now rest P).map encStr) ∧ (outs now rest P = [] → ov = .slice none 0 0) ∧ (∀ g, ov.ownBlock = some g → g ∉ rid R (rws nv sv tv av' d)) ∧ n + gk ≤ 1000

theorem AddText_out {O : List (List UInt8)} {O2 : List (List UInt8)} {W : World} {Bz : Nat} {v : Value} {s : ByteArray} (hB : Bz ≤ W.heap.size) (h : W.ownsRow Bz 9 1 v O.length (O.map encStr)) (h0 : O = [] → v = .slice none 0 0) (hn : O.length ≤ 1000000) (hs : s.data.toList ∉ O) (hup : O.Pairwise fun x y => x ≤ y) (hnd : O.Nodup) (hup2 : O2.Pairwise fun x y => x ≤ y) (hnd2 : O2.Nodup) (hm : ∀ x, x ∈ O2 ↔ x = s.data.toList ∨ x ∈ O) :
    Calls Try.prog 38 #[v, .string s] W fun e w' => ∃ v', e = .returned v' ∧ w'.ownsRow Bz 9 1 v' O2.length (O2.map encStr) ∧ O2 ≠ [] ∧ Below W.heap.size W w' ∧ ∀ g, v'.ownBlock = some g → W.heap.size ≤ g := by
  have hne : O2 ≠ [] := fun e => by have := (hm s.data.toList).2 (.inl rfl); rw [e] at this; cases this
  by_cases e : O = []
  · subst e
    rw [h0 rfl]
    have e2 := ins_sorted (O := []) (O2 := O2) (s := s.data.toList) (k := 0) (Nat.le_refl _) (fun j hj => (by cases hj)) (fun hk => (by cases hk)) .nil .nil hs hup2 hnd2 hm
    refine (AddText_nil Bz s W hB).mono ?_
    rintro e w' ⟨v', rfl, r1, r2, r3⟩
    refine ⟨v', rfl, ?_, hne, r2, r3⟩
    rw [← e2]
    exact r1
  · refine (AddText_some Bz v O s W h (List.length_pos_iff.2 e) hn hs).mono ?_
    rintro e w' ⟨v', k, rfl, hk, h1, h2, r1, r2, r3⟩
    have e2 := ins_sorted hk h1 h2 hup hnd hs hup2 hnd2 hm
    refine ⟨v', rfl, ?_, hne, r2, r3⟩
    rw [← e2]
    have hl : (O.take k ++ s.data.toList :: O.drop k).length = O.length + 1 := by rw [List.length_append, List.length_cons, List.length_take, List.length_drop]; omega
    rw [hl]
    exact r1
end
end Go.Proofs.Ytocahjnibdgmoaa
