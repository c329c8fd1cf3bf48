/- The files of a map, collected. -/
import Derived.RangeFuncFrom
import Derived.Shelf.SlIter.Keys
import Derived.RangeFuncGives
import Derived.Shelf.SlIter.Collect
import Derived.Test.YtelcflmjagjbfaaGreatDoorTe6
namespace Go.Proofs.YtelcflmjagjbfaaGreatDoor
open Go.RowKit Go.Shelf Go.Maps Go.WideMaps Go.Sort

/-- All files of a map have come, each once. -/
def AllF (D : DataW Unit) (F : List Fl) : Prop := ∃ ks : List (List UInt8), ks.length = F.length ∧ ks.Nodup ∧ (∀ x, x ∈ ks ↔ Maps.has D (.string x) = true) ∧ ∀ (j : Nat) (h1 : j < ks.length) (h2 : j < F.length), ∀ z, D.atKey (.string ks[j]) z = fD F[j]

set_option maxRecDepth 100000 in
set_option maxHeartbeats 4000000 in
theorem values1 (F : Fence) (n : Nat) (hf : F.fn 83) (hro : F.round = none) (hn : 1 ≤ n) (Bm b nn : Nat) (D0 : DataW Unit) (w : World) (hBm : Bm < w.heap.size) (hm : w.cell? ⟨Bm, 0, none⟩ = some (.map (some b))) (hown : w.ownsMap Tryz.prog 9 fileE b nn D0) :
    SeqStopsK F n Tryz.prog 83 #[.pointer (some ⟨Bm, 0, none⟩)] (fun f : Fl => #[encF f]) KeepsWalks (AllF D0) (fun _ => True) (Maps.size D0) w := by
  intro l J Jx W hW hJ hJx hY h0
  have hmW : W.cell? ⟨Bm, 0, none⟩ = some (.map (some b)) := (hW.cell (p := ⟨Bm, 0, none⟩) hBm).trans hm
  have hownW : W.ownsMap Tryz.prog 9 fileE b nn D0 := ownsMap_heap hown (hW.block b hown.lt)
  clear hm hown hW
  show CallsIn F n Tryz.prog 83 #[.func (.yield l) #[] #[], .pointer (some ⟨Bm, 0, none⟩)] W _
  refine callsIn_of_wp Tryz.func83 rfl hf ?_ hro
  simp only [Tryz.ntmps83, List.size_toArray, List.length_cons, List.length_nil, Nat.reduceAdd, Nat.reduceSub, Array.replicate_succ, Array.replicate_zero, List.push_toArray, List.append_toArray, List.nil_append, List.cons_append]
  gi_wp2_with (first
    | (gi_at_range; refine wpListIn_range_own _ rfl _ 51 rfl 9 30 lawS Tryz.underlying51 _ b nn _ rfl hownW ?_; intro w0 hrg0 hg0 hs0)
    | gi_in)
  try go_frame
  gi_loopw [7] (fun _ wr => ∃ (left : Lit → Bool) (cnt : Nat) (ps : List (List UInt8 × Fl)), wr.ranges Tryz.prog 9 fileE b W.heap.size nn D0 left cnt ∧ ps.length + cnt ≤ Maps.size D0 ∧ Collected D0 left (ps.map (·.1)) ∧ (∀ p ∈ ps, ∀ z, D0.atKey (.string p.1) z = fD p.2) ∧ J (ps.map (·.2)) wr)
    (fun _ wr => wr.rangeLeft b W.heap.size)
  case atStart =>
    exact ⟨_, _, [], hrg0, by simp, Collected.start D0, by simp, hJ [] W w0 none h0 hg0 (fun r e => by cases e)⟩
  case round =>
    obtain ⟨left, cnt, ps, hrg, hcs, hC, hV, hJs⟩ := hrel
    gi_wp2_with (first
      | (gi_at_next; refine wpListIn_next_ranges _ rfl _ rfl 9 lawS fileE encStr encF invKF invVF b W.heap.size nn _ _ _ rfl hrg ?_ ?_)
      | gi_in)
    · intro hc0 hl0
      have hE : AllF D0 (ps.map (·.2)) := ⟨ps.map (·.1), by simp, hC.1, fun x => by rw [hC.2 x, hl0]; simp, fun j h1 h2 z => by
        simp only [List.getElem_map]
        exact hV _ (List.getElem_mem _) z⟩
      gi_wp2
      go_end0
      exact ⟨⟨_, rfl⟩, .inl ⟨_, hE, hJs⟩⟩
    · intro x f kl yd yp w2 cnt2 hkey hlk hv hat hrg2 hlt hg2 hs2 hen
      obtain ⟨x', ex, rfl, _⟩ := Maps.keyOf_str Tryz.underlying9 hkey
      obtain rfl : x = x' := encStr_inj ex
      have hyd : yd = fD f := by
        rw [fileE_mk f] at hv
        injection hv with hv
        injection hv with hv _
        exact hv.symm
      subst hyd
      have hJ2 : J (ps.map (·.2)) w2 := hJ _ wr w2 (some W.heap.size) hJs hg2 (fun r e => by cases e; exact ⟨Nat.le_refl _, hrg.iter_walk⟩)
      have hA2 : J (ps.map (·.2)) (w2.alloc (.cells #[.string f.pa, .string f.tx, .bool f.rn] 30)) := hJ _ w2 _ none hJ2 (World.grownBy_alloc _ _ none) (fun r e => by cases e)
      have hrg2a : (w2.alloc (.cells #[.string f.pa, .string f.tx, .bool f.rn] 30)).ranges Tryz.prog 9 fileE b W.heap.size nn D0 (fun z => left z && !z.sameKey (.string x)) cnt2 := hrg2.kept (World.grownBy_alloc _ _ none) (fun e => by cases e) (fun e => by cases e)
      obtain ⟨fn, tmps, assign, body, hy, hR⟩ := hY (ps.map (·.2)) f _ hA2 (by simp; omega)
      have hC2 : Collected D0 (fun z => left z && !z.sameKey (.string x)) ((ps ++ [(x, f)]).map (·.1)) := by simpa using hC.step hlk hat
      have hV2 : ∀ p ∈ ps ++ [(x, f)], ∀ z, D0.atKey (.string p.1) z = fD p.2 := fun p hp => (List.mem_append.1 hp).elim (hV p) (fun e => by simp at e; subst e; exact hat)
      obtain ⟨p, t, r⟩ := f
      unfold encF at hen hy
      simp only at hen hy hR hrg2a
      clear hs2 hg2 hJ2 hA2 hv hat
      gi_wp2
      refine hR.mono ?_
      rintro e W3 (⟨rfl, hJ3, hk3⟩ | ⟨rfl, hJx3⟩)
      · gi_wp2
        have hrg3 := hrg2a.of_walks hk3
        refine ⟨⟨_, cnt2, ps ++ [(x, ⟨p, t, r⟩)], hrg3, by simp; omega, hC2, hV2, by simpa using hJ3⟩, ?_⟩
        rw [hrg3.left_eq, hrg.left_eq]
        exact hlt
      · gi_wp2
        refine bodyPost_ret (results_none rfl _ _ _) rfl ?_
        exact ⟨⟨_, rfl⟩, .inr ⟨_, trivial, hJx3⟩⟩
end Go.Proofs.YtelcflmjagjbfaaGreatDoor

/- A tree over another, plain. -/
namespace Go.Proofs.YtelcflmjagjbfaaGreatDoor
open Go.RowKit Go.Shelf Go.Maps Go.WideMaps Go.Sort

def hasP (L : List Fl) (k : List UInt8) : Bool := L.any fun f => decide (pth f = k)
theorem hasP_iff (L : List Fl) (k : List UInt8) : hasP L k = true ↔ ∃ f ∈ L, pth f = k := by
  unfold hasP
  rw [List.any_eq_true]
  simp
/-- The files of both; where both have a path, the second's. -/
def ovU (A C : List Fl) : List Fl := A.filter (fun f => !hasP C (pth f)) ++ C
def ovF (A C : List Fl) : List Fl := (ovU A C).mergeSort fun f g => decide (pth f ≤ pth g)
theorem ovU_mem (A C : List Fl) (f : Fl) : f ∈ ovU A C ↔ (f ∈ A ∧ hasP C (pth f) = false) ∨ f ∈ C := by
  unfold ovU
  rw [List.mem_append, List.mem_filter]
  simp
theorem ovU_nodup {A C : List Fl} (ha : (A.map pth).Nodup) (hc : (C.map pth).Nodup) : ((ovU A C).map pth).Nodup := by
  unfold ovU
  rw [List.map_append, List.nodup_append]
  refine ⟨List.Nodup.sublist (List.Sublist.map _ List.filter_sublist) ha, hc, fun a h1 b h2 e => ?_⟩
  obtain ⟨f, hf, rfl⟩ := List.mem_map.1 h1
  obtain ⟨g, hg, rfl⟩ := List.mem_map.1 h2
  have h3 := (List.mem_filter.1 hf).2
  have h4 : hasP C (pth f) = true := (hasP_iff _ _).2 ⟨g, hg, e.symm⟩
  rw [h4] at h3
  cases h3
theorem ovF_perm (A C : List Fl) : (ovU A C).Perm (ovF A C) := (List.mergeSort_perm _ _).symm
theorem ovF_up {A C : List Fl} (ha : (A.map pth).Nodup) (hc : (C.map pth).Nodup) : (ovF A C).Pairwise fun f g => pth f < pth g := by
  have h1 : (ovF A C).Pairwise fun f g => decide (pth f ≤ pth g) = true := List.pairwise_mergeSort (fun a b c h1 h2 => by rw [decide_eq_true_eq] at *; exact List.le_trans h1 h2) (fun a b => by rw [Bool.or_eq_true, decide_eq_true_eq, decide_eq_true_eq]; exact List.le_total _ _) _
  have h2 : ((ovF A C).map pth).Nodup := ((ovF_perm A C).map pth).nodup_iff.1 (ovU_nodup ha hc)
  have h3 : (ovF A C).Pairwise fun f g => pth f ≠ pth g := List.pairwise_map.1 h2
  refine (h1.and h3).imp fun {f g} h => ?_
  have h4 : pth f ≤ pth g := by simpa using h.1
  rcases Decidable.em (pth f < pth g) with h5 | h5
  · exact h5
  · exact absurd (List.le_antisymm h4 (List.not_lt.1 h5)) h.2
theorem has_hasP (L : List Fl) (k : List UInt8) : Maps.has (byD L) (.string k) = hasP L k := has_byD L k

theorem both_at {D : DataW Unit} {A C : List Fl} (hD : BothD D (byD A) (byD C)) (ha : (A.map pth).Nodup) (hc : (C.map pth).Nodup) {f : Fl} (hf : f ∈ ovU A C) : Maps.has D (.string (pth f)) = true ∧ ∀ z, D.atKey (.string (pth f)) z = fD f := by
  rcases (ovU_mem A C f).1 hf with ⟨h1, h2⟩ | h1
  · refine ⟨?_, fun z => ?_⟩
    · rw [hD.1, has_hasP, has_hasP, (hasP_iff A _).2 ⟨f, h1, rfl⟩]
      rfl
    · rw [hD.2, has_hasP, h2, if_neg (by decide)]
      exact at_byD ha h1 z
  · have h2 := (hasP_iff C _).2 ⟨f, h1, rfl⟩
    refine ⟨?_, fun z => ?_⟩
    · rw [hD.1, has_hasP, has_hasP, h2, Bool.or_true]
    · rw [hD.2, has_hasP, h2, if_pos rfl]
      exact at_byD hc h1 z
theorem both_of {D : DataW Unit} {A C : List Fl} (hD : BothD D (byD A) (byD C)) {k : List UInt8} (hk : Maps.has D (.string k) = true) : ∃ f ∈ ovU A C, pth f = k := by
  rw [hD.1, has_hasP, has_hasP] at hk
  by_cases h : hasP C k = true
  · obtain ⟨f, hf, e⟩ := (hasP_iff C k).1 h
    exact ⟨f, (ovU_mem A C f).2 (.inr hf), e⟩
  · have h' : hasP C k = false := by simpa using h
    rw [h', Bool.or_false] at hk
    obtain ⟨f, hf, rfl⟩ := (hasP_iff A k).1 hk
    exact ⟨f, (ovU_mem A C f).2 (.inl ⟨hf, h'⟩), rfl⟩
/-- What the map gives is what both have, in some order. -/
theorem allF_perm {D : DataW Unit} {A C F : List Fl} (hD : BothD D (byD A) (byD C)) (ha : (A.map pth).Nodup) (hc : (C.map pth).Nodup) (hF : AllF D F) : F.Perm (ovF A C) := by
  obtain ⟨ks, hl, hnd, hks, hat⟩ := hF
  have hp : ∀ (j : Nat) (h2 : j < F.length), F[j] ∈ ovU A C ∧ pth F[j] = ks[j]'(by omega) := fun j h2 => by
    have h1 : j < ks.length := by omega
    obtain ⟨f, hf, e⟩ := both_of hD ((hks _).1 (List.getElem_mem h1))
    have e2 : F[j] = f := by
      have h3 := hat j h1 h2 (fD zeroFl)
      rw [← e, (both_at hD ha hc hf).2] at h3
      exact (fD_inj h3).symm
    rw [e2]
    exact ⟨hf, e⟩
  have hm : F.map pth = ks := by
    refine List.ext_getElem (by simp [hl]) fun j h1 h2 => ?_
    rw [List.getElem_map]
    exact (hp j (by simpa using h1)).2
  have nF : F.Nodup := by
    rw [← hm] at hnd
    exact (List.pairwise_map.1 hnd).imp fun h e => h (by rw [e])
  have nU : (ovU A C).Nodup := (List.pairwise_map.1 (ovU_nodup ha hc)).imp fun h e => h (by rw [e])
  refine ((List.perm_ext_iff_of_nodup nF nU).2 fun f => ⟨fun h => ?_, fun h => ?_⟩).trans (ovF_perm A C)
  · obtain ⟨j, hj, rfl⟩ := List.mem_iff_getElem.1 h
    exact (hp j hj).1
  · have h1 := both_at hD ha hc h
    obtain ⟨j, hj, e⟩ := List.mem_iff_getElem.1 ((hks _).2 h1.1)
    have h2 : j < F.length := by omega
    have h3 := hat j hj h2 (fD zeroFl)
    rw [e, h1.2] at h3
    rw [fD_inj h3]
    exact List.getElem_mem h2
/-- A list that rises and has the same files is the same. -/
theorem ovF_uniq {A C X : List Fl} (ha : (A.map pth).Nodup) (hc : (C.map pth).Nodup) (hx : X.Pairwise fun f g => pth f < pth g) (h : ∀ f, f ∈ X ↔ f ∈ ovU A C) : X = ovF A C := by
  have nX : X.Nodup := hx.imp fun h e => by rw [e] at h; exact List.lt_irrefl _ h
  have nU : (ovU A C).Nodup := (List.pairwise_map.1 (ovU_nodup ha hc)).imp fun h e => h (by rw [e])
  have hp : X.Perm (ovF A C) := ((List.perm_ext_iff_of_nodup nX nU).2 h).trans (ovF_perm A C)
  exact List.Perm.eq_of_pairwise (le := fun f g : Fl => pth f < pth g) (fun x y _ _ h1 h2 => absurd (List.lt_trans h1 h2) (List.lt_irrefl _)) hx (ovF_up ha hc) hp
end Go.Proofs.YtelcflmjagjbfaaGreatDoor

/- A tree over another, as the document lays it; maps.Values. -/
namespace Go.Proofs.YtelcflmjagjbfaaGreatDoor
open Go.RowKit Go.Shelf Go.Maps Go.WideMaps Go.Sort

/-- A file among others that rise. -/
def insF (f : Fl) : List Fl → List Fl
  | [] => [f]
  | g :: l => if pth g < pth f then g :: insF f l else f :: g :: l
theorem insF_mem (f x : Fl) : ∀ L : List Fl, x ∈ insF f L ↔ x = f ∨ x ∈ L
  | [] => by simp [insF]
  | g :: l => by
    unfold insF
    split
    · rw [List.mem_cons, insF_mem f x l, List.mem_cons]
      constructor
      · rintro (h | h | h)
        · exact .inr (.inl h)
        · exact .inl h
        · exact .inr (.inr h)
      · rintro (h | h | h)
        · exact .inr (.inl h)
        · exact .inl h
        · exact .inr (.inr h)
    · rw [List.mem_cons]
theorem insF_up (f : Fl) : ∀ L : List Fl, L.Pairwise (fun a b => pth a < pth b) → (∀ g ∈ L, pth g ≠ pth f) → (insF f L).Pairwise fun a b => pth a < pth b
  | [], _, _ => by simp [insF]
  | g :: l, h, hn => by
    rw [List.pairwise_cons] at h
    unfold insF
    split
    · rename_i hlt
      rw [List.pairwise_cons]
      refine ⟨fun a ha => ?_, insF_up f l h.2 fun g hg => hn g (List.mem_cons_of_mem _ hg)⟩
      rcases (insF_mem f a l).1 ha with rfl | ha
      · exact hlt
      · exact h.1 a ha
    · rename_i hlt
      have h1 : pth f < pth g := by
        rcases Decidable.em (pth f < pth g) with h2 | h2
        · exact h2
        · exact absurd (List.le_antisymm (List.not_lt.1 h2) (List.not_lt.1 hlt)) (hn g (by simp))
      rw [List.pairwise_cons, List.pairwise_cons]
      refine ⟨fun a ha => ?_, h⟩
      rcases List.mem_cons.1 ha with rfl | ha
      · exact h1
      · exact List.lt_trans h1 (h.1 a ha)
/-- One file over a tree: in its place, or among the others. -/
def putF (L : List Fl) (f : Fl) : List Fl := if hasP L (pth f) = true then L.map (fun g => if pth g = pth f then f else g) else insF f L
theorem putF_mem (L : List Fl) (f x : Fl) : x ∈ putF L f ↔ x = f ∨ (x ∈ L ∧ pth x ≠ pth f) := by
  unfold putF
  split
  · rename_i h
    obtain ⟨g, hg, e⟩ := (hasP_iff L _).1 h
    rw [List.mem_map]
    constructor
    · rintro ⟨a, ha, rfl⟩
      by_cases e2 : pth a = pth f
      · rw [if_pos e2]; exact .inl rfl
      · rw [if_neg e2]; exact .inr ⟨ha, e2⟩
    · rintro (rfl | ⟨h1, h2⟩)
      · exact ⟨g, hg, if_pos e⟩
      · exact ⟨x, h1, if_neg h2⟩
  · rename_i h
    rw [insF_mem]
    constructor
    · rintro (h1 | h1)
      · exact .inl h1
      · exact .inr ⟨h1, fun e => h ((hasP_iff L _).2 ⟨x, h1, e⟩)⟩
    · rintro (h1 | h1)
      · exact .inl h1
      · exact .inr h1.1
theorem putF_up (L : List Fl) (f : Fl) (h : L.Pairwise fun a b => pth a < pth b) : (putF L f).Pairwise fun a b => pth a < pth b := by
  unfold putF
  split
  · rw [List.pairwise_map]
    have e : ∀ g : Fl, pth (if pth g = pth f then f else g) = pth g := fun g => by
      split
      · rename_i e; exact e.symm
      · rfl
    exact h.imp fun {a b} hab => by rw [e, e]; exact hab
  · rename_i hn
    exact insF_up f L h fun g hg e => hn ((hasP_iff L _).2 ⟨g, hg, e⟩)
/-- All files of the second over the first. -/
def ovR (A C : List Fl) : List Fl := C.foldl putF A
theorem ovR_snoc (A C : List Fl) (f : Fl) : ovR A (C ++ [f]) = putF (ovR A C) f := by simp [ovR, List.foldl_append]
theorem ovR_up (A C : List Fl) (h : A.Pairwise fun a b => pth a < pth b) : (ovR A C).Pairwise fun a b => pth a < pth b := by
  refine snocInd (P := fun C => (ovR A C).Pairwise fun a b => pth a < pth b) h (fun l a ih => ?_) C
  rw [ovR_snoc]
  exact putF_up _ _ ih
theorem ovR_mem (A C : List Fl) (hc : (C.map pth).Nodup) (x : Fl) : x ∈ ovR A C ↔ x ∈ ovU A C := by
  refine snocInd (P := fun C => (C.map pth).Nodup → (x ∈ ovR A C ↔ x ∈ ovU A C)) (fun _ => by simp [ovR, ovU, hasP]) (fun l a ih => ?_) C hc
  intro hn
  rw [List.map_append, List.nodup_append] at hn
  have h1 : ∀ g ∈ l, pth g ≠ pth a := fun g hg e => hn.2.2 _ (List.mem_map.2 ⟨g, hg, rfl⟩) (pth a) (by simp) e
  have h2 : ∀ k, hasP (l ++ [a]) k = false ↔ hasP l k = false ∧ k ≠ pth a := fun k => by
    unfold hasP
    rw [List.any_append, Bool.or_eq_false_iff]
    refine and_congr Iff.rfl ?_
    rw [List.any_cons, List.any_nil, Bool.or_false, decide_eq_false_iff_not]
    exact ⟨fun h e => h e.symm, fun h e => h e.symm⟩
  rw [ovR_snoc, putF_mem, ih hn.1, ovU_mem, ovU_mem, h2, List.mem_append, List.mem_singleton]
  constructor
  · rintro (h | ⟨⟨h3, h4⟩ | h3, h5⟩)
    · exact .inr (.inr h)
    · exact .inl ⟨h3, h4, h5⟩
    · exact .inr (.inl h3)
  · rintro (⟨h3, h4, h5⟩ | h3 | h3)
    · exact .inr ⟨.inl ⟨h3, h4⟩, h5⟩
    · exact .inr ⟨.inr h3, h1 x h3⟩
    · exact .inl h3
/-- The document's and the program's are one list. -/
theorem ov_same {A C : List Fl} (ha : A.Pairwise fun a b => pth a < pth b) (hc : (C.map pth).Nodup) : ovR A C = ovF A C :=
  ovF_uniq (List.pairwise_map.2 (ha.imp fun h e => by rw [e] at h; exact List.lt_irrefl _ h)) hc (ovR_up A C ha) (ovR_mem A C hc)

set_option maxRecDepth 100000 in
set_option maxHeartbeats 1000000 in
theorem Values_any (mb : Option Nat) (w : World) :
    Calls Tryz.prog 58 #[.map mb] w fun e w' => e = .returned (.func (.func 83) #[] #[.pointer (some ⟨w.heap.size, 0, none⟩)]) ∧ w' = w.alloc (.cells #[.map mb] 51) := by
  go_enter Tryz.func58, Tryz.ntmps58
  go_wp2
  go_ret
  exact ⟨rfl, rfl⟩
end Go.Proofs.YtelcflmjagjbfaaGreatDoor

/- slices.AppendSeq, Collect and SortedFunc of files; laidOver. -/
namespace Go.Proofs.YtelcflmjagjbfaaGreatDoor
open Go.RowKit Go.Shelf Go.Maps Go.WideMaps Go.Sort

/-- A part of a text, by the way that leads to it. -/
def subO : List Bool → Code → Code
  | [], c => c
  | false :: p, .seq a _ => subO p a
  | true :: p, .seq _ b => subO p b
  | _ :: p, .block _ c => subO p c
  | _ :: p, .loop c => subO p c
  | false :: p, .cond _ a _ => subO p a
  | true :: p, .cond _ _ b => subO p b
  | false :: p, .rangeFunc _ _ a _ => subO p a
  | true :: p, .rangeFunc _ _ _ b => subO p b
  | _ :: _, c => c
/-- The loop's record. -/
def apR (ca cb : Code) (fn : FuncId) (sv : Value) (Bs D : Nat) (st : LoopState) (pend : Option Code) : Loop :=
  { state := st, pending := pend, fn, tmps := #[.slice none 0 0, sv, .pointer (some ⟨Bs, 0, none⟩), undef, .slice none 0 0, undef, sv, undef, undef, undef, undef, undef, undef], params := #[7], assign := ca, body := cb, defers := D }
/-- Between two rounds. -/
structure ApF (ca cb : Code) (w0 : World) (fn : FuncId) (sv : Value) (Bs l D : Nat) (F : List Fl) (W : World) : Prop where
  box : ∃ v, W.heap[Bs]? = some (.cells #[v] 22 (0, 0)) ∧ W.ownsRow w0.heap.size 30 3 v F.length (flCells F)
  L : W.heap[l]? = some (.loop (apR ca cb fn sv Bs D .ready none))
  K : W.heap[D]? = some (.deferred (some []))
  below : Below w0.heap.size w0 W
theorem ap_abides (ca cb : Code) (w0 : World) (fn : FuncId) (sv : Value) (Bs l D B : Nat) (hB : w0.heap.size ≤ B) : AbidesFrom B (ApF ca cb w0 fn sv Bs l D) := fun s W W' row h hg hrow => by
  have hrow' : ∀ r, row = some r → ∃ o : Obj, W.heap[r]? = some o ∧ o.isWalk = true := fun r e => (hrow r e).2
  obtain ⟨v, hv, hr⟩ := h.box
  exact ⟨⟨v, (grownBy_keeps hg hrow' hv rfl).trans hv, ownsRow_abides_a hr hg hrow'⟩, (grownBy_keeps hg hrow' h.L rfl).trans h.L, (grownBy_keeps hg hrow' h.K rfl).trans h.K,
    h.below.grown hg h.below.size (fun k e => Nat.le_trans hB (hrow k e).1)⟩

set_option maxRecDepth 100000 in
set_option maxHeartbeats 4000000 in
theorem apYieldF (ca cb : Code) (hca : ca = (subO [true, false, true, false, false] (Tryz.f120.body.getD .skip))) (hcb : cb = (subO [true, false, true, false, true] (Tryz.f120.body.getD .skip))) (F : Fence) (m : Nat) (w0 : World) (fn : FuncId) (hfn : F.fn fn) (sv : Value) (Bs l D : Nat) (hBl : Bs ≠ l) (hDl : D ≠ l) (hDB : D ≠ Bs) (h0B : w0.heap.size ≤ Bs) (h0l : w0.heap.size ≤ l) (fs : List Fl) (x : Fl) (W : World) (h : ApF ca cb w0 fn sv Bs l D fs W) (hlen : fs.length ≤ 1000000) :
    YieldAt F m Tryz.prog l #[encF x] W fun e W' => e = .returned (.bool true) ∧ ApF ca cb w0 fn sv Bs l D (fs ++ [x]) W' ∧ KeepsWalks W W' := by
  obtain ⟨i0, hi, hz0, hz1, hz2⟩ := info_p infF
  obtain ⟨v, hv, hrow⟩ := h.box
  refine ⟨fn, #[.slice none 0 0, sv, .pointer (some ⟨Bs, 0, none⟩), undef, .slice none 0 0, undef, sv, encF x, undef, undef, undef, undef, undef], ca, cb, by simpa [apR] using run_yield (P := Tryz.prog) (args := #[encF x]) h.L rfl, roundIn_of_wpIn hfn ?_⟩
  obtain ⟨p, t, r⟩ := x
  have hl : l < W.heap.size := (Array.getElem?_eq_some_iff.1 h.L).1
  obtain ⟨W1, hW1⟩ : ∃ W1, W1 = W.alloc (.cells #[.string p, .string t, .bool r] 30) := ⟨_, rfl⟩
  have ho1 : ∀ b, b < W.heap.size → W1.heap[b]? = W.heap[b]? := fun b hb => by rw [hW1]; exact Below.heap_alloc _ _ b hb
  have hs1 : W1.heap.size = W.heap.size + 1 := by rw [hW1]; exact World.size_alloc _ _
  have hL1 : W1.heap[l]? = some (.loop (apR ca cb fn sv Bs D .ready none)) := (ho1 l hl).trans h.L
  have hbr := run_beginRound (P := Tryz.prog) hL1 rfl
  obtain ⟨W2, hW2⟩ : ∃ W2, W1.putObj l (.loop { apR ca cb fn sv Bs D .ready none with state := .busy }) = W2 := ⟨_, rfl⟩
  rw [hW2] at hbr
  have hg2 : W1.grownBy W2 (some l) := by rw [← hW2]; exact grownBy_putObj_a _ _ _
  have hk2 : KeepsWalks W W2 := by
    have hk1 : KeepsWalks W W1 := by rw [hW1]; exact KeepsWalks.alloc _ _
    refine hk1.trans ?_
    rw [← hW2]
    exact KeepsWalks.putObj _ hL1 rfl
  have hBw : Bs < W.heap.size := (Array.getElem?_eq_some_iff.1 hv).1
  have hDw : D < W.heap.size := (Array.getElem?_eq_some_iff.1 h.K).1
  have hv2 : W2.heap[Bs]? = some (.cells #[v] 22 (0, 0)) := by rw [← hW2]; exact (World.putObj_heap_other hBl).trans ((ho1 Bs hBw).trans hv)
  have hK2 : W2.heap[D]? = some (.deferred (some [])) := by rw [← hW2]; exact (World.putObj_heap_other hDl).trans ((ho1 D hDw).trans h.K)
  have hL2 : W2.heap[l]? = some (.loop { apR ca cb fn sv Bs D .ready none with state := .busy }) := by rw [← hW2]; exact World.putObj_heap_same (by omega)
  have hX2 : W2.heap[W.heap.size]? = some (.cells #[.string p, .string t, .bool r] 30 (0, 0)) := by
    rw [← hW2]
    refine (World.putObj_heap_other (by omega)).trans ?_
    rw [hW1]
    exact World.alloc_heap_new W _
  have hs2 : W2.heap.size = W.heap.size + 1 := by rw [← hW2, ← hs1]; simp
  have hrow1 : W1.ownsRow w0.heap.size 30 3 v fs.length (flCells fs) := by rw [hW1]; exact hrow.alloc _
  have hrow2 : W2.ownsRow w0.heap.size 30 3 v fs.length (flCells fs) := hrow1.kept hg2 (ownsRow_ne_a hrow1 hL1 (fun cur e => by cases e))
  have hb1 : Below w0.heap.size w0 W1 := by rw [hW1]; exact h.below.alloc h.below.size _
  have hb2 : Below w0.heap.size w0 W2 := hb1.grown hg2 hb1.size (fun k e => by cases e; exact h0l)
  obtain ⟨hc2, hf2⟩ := cell_of_box_a hv2
  have x0 : W2.cell? ⟨W.heap.size, 0, none⟩ = some (.string p) := Lib.cell_of_heap hX2 0
  have x1 : W2.cell? ⟨W.heap.size, 1, none⟩ = some (.string t) := Lib.cell_of_heap hX2 1
  have x2 : W2.cell? ⟨W.heap.size, 2, none⟩ = some (.bool r) := Lib.cell_of_heap hX2 2
  have hBlt : Bs < W2.heap.size := by omega
  have hl2 : l < W2.heap.size := by omega
  have hDlt : D < W2.heap.size := by omega
  have ne_of : ∀ {j : Nat} {o : Obj}, W2.heap[j]? = some o → (∀ cur, o ≠ .cells cur 30 (0, 0)) → some j ≠ v.ownBlock := fun hj hno => by
    rcases ownsRow_ne_a hrow2 hj hno with e | e
    · rw [e]; simp
    · exact fun e' => e e'.symm
  have HCA : Hid (ca = (subO [true, false, true, false, false] (Tryz.f120.body.getD .skip))) := hca
  have HCB : Hid (cb = (subO [true, false, true, false, true] (Tryz.f120.body.getD .skip))) := hcb
  clear hca hcb
  unfold encF
  simp only
  conv => arg 4; rw [HCA.out]; whnf
  gi_wp2_with gi_round_op_a
  refine ⟨W2, by rw [← hW1]; exact hbr, ?_⟩
  clear hW1 hW2 hs1 hs2 ho1
  conv => arg 4; rw [HCB.out]; whnf
  gi_wp2_with (first
    | (gi_at_builtin; refine wpListIn_append_own _ rfl _ _ 22 rfl w0.heap.size 30 i0 (.agg #[.string ⟨#[]⟩, .string ⟨#[]⟩, .bool false]) 3 40 Tryz.underlying22 hi hz0 hz1 hz2 rfl (by decide) _ _ _ rfl (hrow2.alloc _) ⟨W2.heap.size, 0, none⟩ 1 1 [.string p, .string t, .bool r] rfl rfl (new_cells W2 _ _) (by simp [Value.oneCell']) (by unfold maxLen; omega) (by omega) (by have := hb2.size; simp; omega) ?_; intro v' w3 hown' hg3 hnil3
       have hv3 : w3.heap[Bs]? = some (.cells #[v] 22 (0, 0)) := (hg3.block Bs (by simp; omega) (ne_of hv2 (fun cur e => by cases e))).trans ((Below.heap_alloc _ _ Bs hBlt).trans hv2)
       obtain ⟨hc3, hf3⟩ := cell_of_box_a hv3
       obtain ⟨g', cap', cur', rfl, hbase', hgb', hr1, hr2, hr3, hr4⟩ : ∃ g' cap' cur', v' = .slice (some ⟨g', 0, none⟩) (fs.length + 1) cap' ∧ w0.heap.size ≤ g' ∧ w3.heap[g']? = some (.cells cur' 30 (0, 0)) ∧ fs.length + 1 ≤ cap' ∧ cap' ≤ maxLen ∧ cur'.size = cap' * 3 ∧ cur'.toList.take ((fs.length + 1) * 3) = flCells fs ++ [.string p, .string t, .bool r] := by
         rcases hown'.2 with ⟨_, h0⟩ | h'
         · exact absurd h0 (by omega)
         · exact h'
       go_frame)
    | gi_round_op_a)
  have hg3' : (W2.alloc (.cells #[.string p, .string t, .bool r] 30)).grownBy w3 v.ownBlock := hg3
  have hL3 : w3.heap[l]? = some (.loop { apR ca cb fn sv Bs D .ready none with state := .busy }) := (hg3'.block l (by simp; omega) (ne_of hL2 (fun cur e => by cases e))).trans ((Below.heap_alloc _ _ l hl2).trans hL2)
  have hK3 : w3.heap[D]? = some (.deferred (some [])) := (hg3'.block D (by simp; omega) (ne_of hK2 (fun cur e => by cases e))).trans ((Below.heap_alloc _ _ D hDlt).trans hK2)
  obtain ⟨w4, hw4⟩ : ∃ w4, w3.setCell ⟨Bs, 0, none⟩ (.slice (some ⟨g', 0, none⟩) (fs.length + 1) cap') = w4 := ⟨_, rfl⟩
  rw [hw4]
  have hg4 : w3.grownBy w4 (some Bs) := by rw [← hw4]; exact grownBy_setCell0_a _ _ _
  have hv4 : w4.heap[Bs]? = some (.cells #[.slice (some ⟨g', 0, none⟩) (fs.length + 1) cap'] 22 (0, 0)) := by rw [← hw4]; exact heap_setCell_box_a _ hv3
  have hL4 : w4.heap[l]? = some (.loop { apR ca cb fn sv Bs D .ready none with state := .busy }) := (hg4.block l (Array.getElem?_eq_some_iff.1 hL3).1 (fun e => hBl (by cases e; rfl))).trans hL3
  have hK4 : w4.heap[D]? = some (.deferred (some [])) := (hg4.block D (Array.getElem?_eq_some_iff.1 hK3).1 (fun e => hDB (by cases e; rfl))).trans hK3
  have hrow4 := hown'.kept hg4 (ownsRow_ne_a hown' hv3 (fun cur e => by cases e))
  have hl4 : l < w4.heap.size := (Array.getElem?_eq_some_iff.1 hL4).1
  have hb3 : Below w0.heap.size w0 w3 := (hb2.alloc hb2.size _).grown hg3' (by have := hb2.size; simp; omega) (fun k e => (hrow2.lt k e).1)
  have hb4 : Below w0.heap.size w0 w4 := hb3.grown hg4 hb3.size (fun k e => by cases e; exact h0B)
  have hk4 : KeepsWalks W w4 := ((hk2.trans (KeepsWalks.alloc _ _)).trans (KeepsWalks.of_grownBy hg3' (ownsRow_not_walk_a (hrow2.alloc _)))).trans (by rw [← hw4]; exact KeepsWalks.setCell _ _ _)
  clear hw4
  have ec : flCells (fs ++ [⟨p, t, r⟩]) = flCells fs ++ [.string p, .string t, .bool r] := by simp [flCells]
  refine ⟨_, _, run_endRound none hL4, rfl, ⟨⟨_, (World.putObj_heap_other hBl).trans hv4, ?_⟩, World.putObj_heap_same hl4, (World.putObj_heap_other hDl).trans hK4, hb4.grown (grownBy_putObj_a _ _ _) hb4.size (fun k e => by cases e; exact h0l)⟩, hk4.trans (KeepsWalks.putObj _ hL4 rfl)⟩
  have := hrow4.kept (grownBy_putObj_a w4 l (.loop { { apR ca cb fn sv Bs D .ready none with state := .busy } with state := if (none : Option Code).isNone then .ready else .done, pending := none })) (ownsRow_ne_a hrow4 hL4 (fun cur e => by cases e))
  rw [ec, List.length_append]
  exact this
end Go.Proofs.YtelcflmjagjbfaaGreatDoor

/- slices.AppendSeq, Collect and SortedFunc of the files of a map; laidOver. -/
namespace Go.Proofs.YtelcflmjagjbfaaGreatDoor
open Go.RowKit Go.Shelf Go.Maps Go.WideMaps Go.Sort

/-- How the files of a map are answered. -/
def SqP (D0 : DataW Unit) (w : World) (e : Ending) (w' : World) : Prop := ∃ (v : Value) (fs : List Fl), e = .returned v ∧ AllF D0 fs ∧ w'.ownsRow w.heap.size 30 3 v fs.length (flCells fs) ∧ Below w.heap.size w w'

set_option maxRecDepth 100000 in
set_option maxHeartbeats 4000000 in
theorem appendSeqF (g : Nat) (lb : Array Value) (eg : ∀ args w, (callFunc g args).run Tryz.prog w = .ok (.enter g args) w) (D0 : DataW Unit) (N : Nat) (hN : N ≤ 1000000) (w : World) (hseq : SeqStopsK Fence.wide 3 Tryz.prog g lb (fun f : Fl => #[encF f]) KeepsWalks (AllF D0) (fun _ => True) N w) :
    CallsIn Fence.wide 4 Tryz.prog 120 #[.slice none 0 0, .func (.func g) #[] lb] w (SqP D0 w) := by
  obtain ⟨ca, hca⟩ : ∃ ca, ca = (subO [true, false, true, false, false] (Tryz.f120.body.getD .skip)) := ⟨_, rfl⟩
  obtain ⟨cb, hcb⟩ : ∃ cb, cb = (subO [true, false, true, false, true] (Tryz.f120.body.getD .skip)) := ⟨_, rfl⟩
  have hla := hca.symm
  have hlb := hcb.symm
  conv at hla => lhs; whnf
  conv at hlb => lhs; whnf
  have HCA : Hid (ca = (subO [true, false, true, false, false] (Tryz.f120.body.getD .skip))) := hca
  have HCB : Hid (cb = (subO [true, false, true, false, true] (Tryz.f120.body.getD .skip))) := hcb
  clear hca hcb
  have HSeq : Hid (SeqStopsK Fence.wide 3 Tryz.prog g lb (fun f : Fl => #[encF f]) KeepsWalks (AllF D0) (fun _ => True) N w) := hseq
  have HEg : Hid (∀ args w, (callFunc g args).run Tryz.prog w = .ok (.enter g args) w) := eg
  clear hseq eg
  refine callsIn_of_wp_marks Tryz.func120 rfl trivial ?_ rfl
  simp only [Tryz.ntmps120, List.size_toArray, List.length_cons, List.length_nil, Nat.reduceAdd, Nat.reduceSub, Array.replicate_succ, Array.replicate_zero, List.push_toArray, List.append_toArray, List.nil_append, List.cons_append]
  gi_wp2
  rw [hla, hlb]
  clear hla hlb
  refine wpIn_rangeFunc ?_
  intro fn hfn
  obtain ⟨W0, hW0⟩ : ∃ W0, w.alloc (.cells #[.slice none 0 0] 22) = W0 := ⟨_, rfl⟩
  have hs0 : W0.heap.size = w.heap.size + 1 := by rw [← hW0]; simp
  have hv0 : W0.heap[w.heap.size]? = some (.cells #[.slice none 0 0] 22 (0, 0)) := by rw [← hW0]; exact World.alloc_heap_new w _
  have hb0 : Below w.heap.size w W0 := by rw [← hW0]; exact (Below.refl _ w).alloc (Nat.le_refl _) _
  rw [hW0]
  obtain ⟨W1, hW1⟩ : ∃ W1, (W0.alloc (.deferred (some []))).alloc (.loop (apR ca cb fn (.func (.func g) #[] lb) w.heap.size W0.heap.size .ready none)) = W1 := ⟨_, rfl⟩
  have hold : ∀ k, k < W0.heap.size → W1.heap[k]? = W0.heap[k]? := fun k hk => by
    rw [← hW1]; exact (Below.heap_alloc _ _ k (by simp; omega)).trans (Below.heap_alloc _ _ k hk)
  have hb1 : Below w.heap.size w W1 := by rw [← hW1]; exact (hb0.alloc hb0.size _).alloc (by have := hb0.size; simp; omega) _
  have hs1 : W1.heap.size = W0.heap.size + 2 := by rw [← hW1]; simp
  have hM : ApF ca cb w fn (.func (.func g) #[] lb) w.heap.size (W0.heap.size + 1) W0.heap.size [] W1 :=
    ⟨⟨_, (hold w.heap.size (by omega)).trans hv0, World.ownsRow_nil _ _ _ _⟩,
     by rw [← hW1]; have := World.alloc_heap_new (W0.alloc (.deferred (some []))) (.loop (apR ca cb fn (.func (.func g) #[] lb) w.heap.size W0.heap.size .ready none)); rwa [World.size_alloc] at this,
     by rw [← hW1]; exact (Below.heap_alloc _ _ _ (by simp)).trans (World.alloc_heap_new W0 _), hb1⟩
  refine ⟨W0.heap.size + 1, [{ target := .collected W0.heap.size, args := #[] }], W1, { target := .fn (.func g) lb, args := #[.func (.yield (W0.heap.size + 1)) #[] #[]] }, W1, g,
    #[.func (.yield (W0.heap.size + 1)) #[] #[]] ++ lb, W1, ?_, ?_, ?_, ?_, fun _ => by omega, ?_⟩
  · rw [← hW1]; exact run_enterLoop_outer _ _ _ _ _
  · simp [resolve, go_sem]
  · intro f' hf'; trivial
  · simp [invoke, go_sem, HEg.out]
  · refine (HSeq.out (W0.heap.size + 1) (ApF ca cb w fn (.func (.func g) #[] lb) w.heap.size (W0.heap.size + 1) W0.heap.size) (fun _ _ => False) W1 hb1 (ap_abides ca cb _ _ _ _ _ _ _ hb1.size) (fun _ _ _ _ h => h.elim)
      (fun pre x W hJ hl => ?_) hM).mono ?_
    · obtain ⟨f1, t1, a1, b1, hy, hR⟩ := apYieldF ca cb HCA.out HCB.out Fence.wide (3 - 1) w fn hfn _ w.heap.size (W0.heap.size + 1) W0.heap.size (by omega) (by omega) (by omega) (Nat.le_refl _) (by omega) pre x W hJ (by omega)
      exact ⟨f1, t1, a1, b1, hy, hR.mono fun e W' h => .inl h⟩
    rintro e W2 ⟨⟨v0, rfl⟩, ⟨fs, hS, h2⟩ | ⟨_, _, h⟩⟩
    · obtain ⟨v, hv, hrow⟩ := h2.box
      have hend := run_endLoop (P := Tryz.prog) h2.L (by simp [apR])
      obtain ⟨W3, hW3⟩ : ∃ W3, W2.putObj (W0.heap.size + 1) (.loop { apR ca cb fn (.func (.func g) #[] lb) w.heap.size W0.heap.size .ready none with state := .exhausted }) = W3 := ⟨_, rfl⟩
      rw [hW3] at hend
      have hg3 : W2.grownBy W3 (some (W0.heap.size + 1)) := by rw [← hW3]; exact grownBy_putObj_a _ _ _
      have hv3 : W3.heap[w.heap.size]? = some (.cells #[v] 22 (0, 0)) := by rw [← hW3]; exact (World.putObj_heap_other (by omega)).trans hv
      have hK3 : W3.heap[W0.heap.size]? = some (.deferred (some [])) := by rw [← hW3]; exact (World.putObj_heap_other (by omega)).trans h2.K
      have hrow3 := hrow.kept hg3 (ownsRow_ne_a hrow h2.L (fun cur e => by cases e))
      have hb3 : Below w.heap.size w W3 := h2.below.grown hg3 h2.below.size (fun k e => by cases e; omega)
      obtain ⟨hc3, hf3⟩ := cell_of_box_a hv3
      clear hW3
      refine ⟨none, W3, hend, ?_⟩
      gi_wp2
      rw [← hs0]
      refine ⟨by simp, .inl ⟨_, _, rfl, run_takeDeferred hK3, ?_⟩⟩
      exact ⟨_, results_tmp rfl _ _ _, v, fs, rfl, hS, hrow3.kept (grownBy_putObj_a _ _ _) (ownsRow_ne_a hrow3 hK3 (fun cur e => by cases e)), hb3.grown (grownBy_putObj_a _ _ _) hb3.size (fun k e => by cases e; omega)⟩
    · exact h.elim
end Go.Proofs.YtelcflmjagjbfaaGreatDoor

/- What is under a directory. -/
namespace Go.Proofs.YtelcflmjagjbfaaGreatDoor
open Go.RowKit Go.Shelf Go.Maps Go.WideMaps Go.Sort
attribute [local go_sem ↓] appS_eq

/-- One file more, at the end of a row. -/
theorem rowF_add {B : Nat} {F : List Fl} {v : Value} {w : World} (h : w.ownsRow B 30 3 v F.length (flCells F)) (hB : B ≤ w.heap.size) (x : Fl) (hF : F.length ≤ 1000) (d : Nat) :
    ∃ G C w', (appS #[22, 22] 22 #[v, .slice (some ⟨w.heap.size, 0, none⟩) 1 1]).run Tryz.prog ((w.alloc (.cells #[.string x.pa, .string x.tx, .bool x.rn] 30)).drewN d) = .ok (.slice (some ⟨G, 0, none⟩) (F.length + 1) C) w' ∧
      w'.ownsRow B 30 3 (.slice (some ⟨G, 0, none⟩) (F.length + 1) C) (F ++ [x]).length (flCells (F ++ [x])) ∧ Below B w w' := by
  obtain ⟨i0, hi, hz0, hz1, hz2⟩ := info_p infF
  have hsz : ((w.alloc (.cells #[.string x.pa, .string x.tx, .bool x.rn] 30)).drewN d).heap.size = w.heap.size + 1 := World.size_alloc _ _
  have hA : Below w.heap.size w ((w.alloc (.cells #[.string x.pa, .string x.tx, .bool x.rn] 30)).drewN d) := below_drewN ((Below.refl _ w).alloc (Nat.le_refl _) _) d
  have hr := row_heap h fun b hb => hA.block b (h.lt b hb).2
  obtain ⟨G, C, w3, hrun, hrow, hgr, hat, hlt⟩ := run_append_lies (P := Tryz.prog) ((w.alloc (.cells #[.string x.pa, .string x.tx, .bool x.rn] 30)).drewN d) 22 22 B 30 i0 (.agg #[.string ⟨#[]⟩, .string ⟨#[]⟩, .bool false]) 3 40 Tryz.underlying22 hi hz0 hz1 hz2 rfl (by decide) v F.length (flCells F) hr ⟨w.heap.size, 0, none⟩ 1 1 [.string x.pa, .string x.tx, .bool x.rn] rfl (new_cells w _ _) (fun u hu => by simp at hu; rcases hu with rfl | rfl | rfl <;> rfl) (by decide) (by unfold maxLen; omega) (by omega) (by omega) (w.heap.size + 1) hsz
  refine ⟨G, C, w3, hrun, ?_, (hA.mono hB).grown hgr (by omega) fun k hk => (hr.lt k hk).1⟩
  have e : flCells (F ++ [x]) = flCells F ++ [.string x.pa, .string x.tx, .bool x.rn] := by simp [flCells]
  rw [e, List.length_append]
  exact hrow

/-- How files are answered, with an error. -/
def RsP (er : Int) (L : List Fl) (w : World) (e : Ending) (w' : World) : Prop := ∃ ao cap, e = .returned (.tuple #[.slice ao L.length cap, .int .i64 er]) ∧ w'.ownsRow w.heap.size 30 3 (.slice ao L.length cap) L.length (flCells L) ∧ Below w.heap.size w w'
theorem RsP_nil (er : Int) {w w' : World} (hb : Below w.heap.size w w') : RsP er [] w (.returned (.tuple #[.slice none 0 0, .int .i64 er])) w' := ⟨none, 0, rfl, World.ownsRow_nil _ _ _ _, hb⟩

/-- A path further in. -/
def cutP (d : ByteArray) (f : Fl) : Fl := ⟨f.pa.extract (d.size + 1) f.pa.size, f.tx, f.rn⟩
def undF (L : List Fl) (d : ByteArray) : List Fl := (L.filter fun f => inB f.pa d).map (cutP d)
theorem undF_snoc (L : List Fl) (d : ByteArray) (f : Fl) : undF (L ++ [f]) d = if inB f.pa d = true then undF L d ++ [cutP d f] else undF L d := by
  unfold undF
  rw [List.filter_append, List.map_append]
  by_cases h : inB f.pa d = true
  · rw [if_pos h]; simp [h]
  · rw [if_neg h]; simp [h]
theorem undF_len (L : List Fl) (d : ByteArray) : (undF L d).length ≤ L.length := by
  unfold undF
  rw [List.length_map]
  exact List.length_filter_le _ _
theorem inB_lt {p d : ByteArray} (h : inB p d = true) : d.size < p.size := by
  unfold inB at h
  rw [Bool.and_eq_true, Bool.and_eq_true] at h
  exact of_decide_eq_true h.1.1
def unE (L : List Fl) (d : ByteArray) : Int := if chF L ≠ 0 then chF L else if pathOk d = false then 1 else if undF L d = [] then 5 else 0
def unL (L : List Fl) (d : ByteArray) : List Fl := if unE L d = 0 then undF L d else []

set_option maxHeartbeats 8000000 in
set_option maxRecDepth 100000 in
theorem Under_any (ao : Option Addr) (cap : Nat) (L : List Fl) (d : ByteArray) (w : World) (hl : IsFl w ao L) (hm : MaxIs w) :
    Calls Tryz.prog 8 #[.slice ao L.length cap, .string d] w (RsP (unE L d) (unL L d) w) := by
  have HC : Hid (Calls Tryz.prog 22 #[.slice ao L.length cap] w fun e w' => e = .returned (.int .i64 (chF L)) ∧ Below w.heap.size w w') := Check_any ao cap L w hl hm
  by_cases h0 : chF L = 0
  · rw [h0] at HC
    have hok := okT_of h0
    have HP : Hid (∀ W, Below w.heap.size w W → Calls Tryz.prog 23 #[.string d] W fun e w' => e = .returned (.bool (pathOk d)) ∧ Below W.heap.size W w') := fun W hW => IsPath_any d W (hm.up hW)
    by_cases hp : pathOk d = true
    · rw [hp] at HP
      have HE : Hid (unE L d = if undF L d = [] then 5 else 0) := by
        show _ = _
        unfold unE
        rw [if_neg (by simp [h0]), if_neg (by rw [hp]; decide)]
      have HI : Hid (∀ (x : ByteArray) (W : World), Calls Tryz.prog 24 #[.string x, .string d] W fun e w' => e = .returned (.bool (inB x d)) ∧ w' = W) := fun x W => isInside_any x d W
      have HL : Hid (IsFl w ao L) := hl
      have hn1 : (L.length : Int) ≤ 60 := by have := hok.1; omega
      have hds : d.size ≤ 100 := pathOk_size hp
      have hds2 : (d.size : Int) ≤ 100 := by omega
      clear hl hm h0 hp hok
      go_enter Tryz.func8, Tryz.ntmps8
      go_wp2_with fail
      refine HC.out.mono ?_
      rintro e w1 ⟨rfl, hb1⟩
      go_wp2_with fail
      refine (HP.out _ hb1).mono ?_
      rintro e w2 ⟨rfl, hb2⟩
      have hB2 : Below w.heap.size w w2 := hb1.trans (hb2.mono hb1.size)
      have HB2 : Hid (Below w.heap.size w w2) := hB2
      clear hb1 hb2 hB2 HC HP
      go_wp2
      go_loopw [7, 20] (fun uv i wr => ∃ k : Nat, k ≤ L.length ∧ i = .int .i64 k ∧ wr.ownsRow w.heap.size 30 3 uv (undF (L.take k) d).length (flCells (undF (L.take k) d)) ∧ Below w.heap.size w wr) (fun _ i _ => L.length - (intOf i).toNat)
      case atStart => exact ⟨0, by omega, rfl, World.ownsRow_nil _ _ _ _, HB2.out⟩
      case round =>
        obtain ⟨k, hk, rfl, hrow, hb⟩ := hrel
        have hsz := hb.size
        by_cases hlt : k < L.length
        · rcases HL.out.below hb (Nat.le_refl _) with h | ⟨g, o, rfl, hg, hc⟩
          · exfalso; rw [h] at hlt; exact absurd hlt (by simp)
          obtain ⟨c0, c1, c2⟩ := hc k hlt
          have htk : L.take (k + 1) = L.take k ++ [L[k]] := List.take_succ_eq_append_getElem hlt
          have hul := undF_len (L.take k) d
          have hkl : (L.take k).length ≤ 60 := by rw [List.length_take]; omega
          have HRow : Hid (wr.ownsRow w.heap.size 30 3 u7 (undF (L.take k) d).length (flCells (undF (L.take k) d))) := hrow
          have HB : Hid (Below w.heap.size w wr) := hb
          have HU : Hid (undF (L.take (k + 1)) d = if inB L[k].pa d = true then undF (L.take k) d ++ [cutP d L[k]] else undF (L.take k) d) := by
            show _ = _
            rw [htk, undF_snoc]
          clear hc htk
          generalize L[k] = x at *
          generalize undF (L.take k) d = U at *
          have hAx := heap_alloc_new wr (.cells #[.string x.pa, .string x.tx, .bool x.rn] 30)
          have hAz : (wr.alloc (.cells #[.string x.pa, .string x.tx, .bool x.rn] 30)).heap.size = wr.heap.size + 1 := World.size_alloc _ _
          have hA : Below w.heap.size w (wr.alloc (.cells #[.string x.pa, .string x.tx, .bool x.rn] 30)) := hb.alloc hsz _
          have HIx : Hid (∀ W, Calls Tryz.prog 24 #[.string x.pa, .string d] W fun e w' => e = .returned (.bool (inB x.pa d)) ∧ w' = W) := HI.out x.pa
          cases hin : inB x.pa d with
          | false =>
            rw [hin] at HIx HU
            have HA : Hid (Below w.heap.size w (wr.alloc (.cells #[.string x.pa, .string x.tx, .bool x.rn] 30))) := hA
            have HRow2 : Hid ((wr.alloc (.cells #[.string x.pa, .string x.tx, .bool x.rn] 30)).ownsRow w.heap.size 30 3 u7 U.length (flCells U)) := HRow.out.alloc _
            clear hAx hAz hA hin hrow hb
            go_wp2_with fail
            refine (HIx.out _).mono ?_
            rintro e w3 ⟨rfl, rfl⟩
            go_wp2
            refine ⟨⟨k + 1, by omega, by go_num, ?_, HA.out⟩, by simp [intOf]; omega⟩
            rw [HU.out, if_neg (by decide)]
            exact HRow2.out
          | true =>
            rw [hin] at HIx HU
            have hdl := inB_lt hin
            have hdl2 : (d.size : Int) + 1 ≤ (x.pa.size : Int) := by omega
            have hW : (wr.alloc (.cells #[.string (x.pa.extract (d.size + 1) x.pa.size), .string x.tx, .bool x.rn] 30)).heap.size = wr.heap.size + 1 := World.size_alloc _ _
            obtain ⟨G, C, w4, hap, hrow4, hb4⟩ := rowF_add (w := wr.alloc (.cells #[.string (x.pa.extract (d.size + 1) x.pa.size), .string x.tx, .bool x.rn] 30)) (HRow.out.alloc _) (by omega) (cutP d x) (by omega) 0
            rw [hW] at hap
            have hap2 : (appS #[22, 22] 22 #[u7, .slice (some ⟨wr.heap.size + 1, 0, none⟩) 1 1]).run Tryz.prog ((wr.alloc (.cells #[.string (x.pa.extract (d.size + 1) x.pa.size), .string x.tx, .bool x.rn] 30)).alloc (.cells #[.string (x.pa.extract (d.size + 1) x.pa.size), .string x.tx, .bool x.rn] 30)) = .ok (.slice (some ⟨G, 0, none⟩) (U.length + 1) C) w4 := hap
            have HR4 : Hid (w4.ownsRow w.heap.size 30 3 (.slice (some ⟨G, 0, none⟩) (U.length + 1) C) (U ++ [cutP d x]).length (flCells (U ++ [cutP d x])) ∧ Below w.heap.size w w4) := ⟨hrow4, (HB.out.alloc hsz _).trans hb4⟩
            clear hAx hAz hA hin hrow hb hW hap hrow4 hb4
            go_wp2_with fail
            refine (HIx.out _).mono ?_
            rintro e w3 ⟨rfl, rfl⟩
            go_wp2
            refine ⟨⟨k + 1, by omega, by go_num, ?_, HR4.out.2⟩, by simp [intOf]; omega⟩
            rw [HU.out, if_pos trivial]
            exact HR4.out.1
        · obtain rfl : k = L.length := by omega
          have hki : ¬ (L.length : Int) < (L.length : Int) := by omega
          rw [List.take_length] at hrow
          have HB : Hid (Below w.heap.size w wr) := hb
          obtain ⟨ua, uc, rfl⟩ := own_shape hrow
          have HRow : Hid (wr.ownsRow w.heap.size 30 3 (.slice ua (undF L d).length uc) (undF L d).length (flCells (undF L d))) := hrow
          clear hrow hb
          by_cases hu : undF L d = []
          · have HZ : Hid (unE L d = 5 ∧ unL L d = []) := by
              have e : unE L d = 5 := by rw [HE.out, if_pos hu]
              exact ⟨e, by unfold unL; rw [e, if_neg (by decide)]⟩
            have hul : (undF L d).length = 0 := by rw [hu]; rfl
            clear hu
            go_wp2
            refine bodyPost_ret (v := .tuple #[.slice none 0 0, .int .i64 5]) (by simp [results, Tryz.results8, go_sem]) rfl ?_
            rw [HZ.out.1, HZ.out.2]
            exact RsP_nil 5 HB.out
          · have HZ : Hid (unE L d = 0 ∧ unL L d = undF L d) := by
              have e : unE L d = 0 := by rw [HE.out, if_neg hu]
              exact ⟨e, by unfold unL; rw [e, if_pos rfl]⟩
            have hul : ((undF L d).length : Int) ≠ 0 := by
              intro e
              exact hu (List.length_eq_zero_iff.1 (by omega))
            clear hu
            go_wp2
            refine bodyPost_ret (v := .tuple #[.slice ua (undF L d).length uc, .int .i64 0]) (by simp [results, Tryz.results8, go_sem]) rfl ?_
            rw [HZ.out.1, HZ.out.2]
            exact ⟨ua, uc, rfl, HRow.out, HB.out⟩
    · have hp' : pathOk d = false := by simpa using hp
      rw [hp'] at HP
      have HZ : Hid (unE L d = 1 ∧ unL L d = []) := by
        have e : unE L d = 1 := by unfold unE; rw [if_neg (by simp [h0]), if_pos hp']
        exact ⟨e, by unfold unL; rw [e, if_neg (by decide)]⟩
      clear hl hm h0 hp hp' hok
      go_enter Tryz.func8, Tryz.ntmps8
      go_wp2_with fail
      refine HC.out.mono ?_
      rintro e w1 ⟨rfl, hb1⟩
      go_wp2_with fail
      refine (HP.out _ hb1).mono ?_
      rintro e w2 ⟨rfl, hb2⟩
      have HB : Hid (Below w.heap.size w w2) := hb1.trans (hb2.mono hb1.size)
      clear hb1 hb2
      go_wp2
      refine bodyPost_ret (v := .tuple #[.slice none 0 0, .int .i64 1]) (by simp [results, Tryz.results8, go_sem]) rfl ?_
      rw [HZ.out.1, HZ.out.2]
      exact RsP_nil 1 HB.out
  · have HZ : Hid (unE L d = chF L ∧ unL L d = []) := by
      have e : unE L d = chF L := by unfold unE; rw [if_pos h0]
      exact ⟨e, by unfold unL; rw [e, if_neg h0]⟩
    clear hl hm
    rw [HZ.out.1, HZ.out.2]
    generalize chF L = c at *
    have h0' : (c != 0) = true := by simpa using h0
    clear h0 HZ
    go_enter Tryz.func8, Tryz.ntmps8
    go_wp2_with fail
    refine HC.out.mono ?_
    rintro e w1 ⟨rfl, hb1⟩
    have HB : Hid (Below w.heap.size w w1) := hb1
    clear hb1
    go_wp2
    refine bodyPost_ret (v := .tuple #[.slice none 0 0, .int .i64 c]) (by simp [results, Tryz.results8, go_sem]) rfl ?_
    exact RsP_nil c HB.out
end Go.Proofs.YtelcflmjagjbfaaGreatDoor

/- A tree over another: the program's. -/
namespace Go.Proofs.YtelcflmjagjbfaaGreatDoor
open Go.RowKit Go.Shelf Go.Maps Go.WideMaps Go.Sort

theorem okT_nodup0 {L : List Fl} (h : okT L) : (L.map pth).Nodup := List.pairwise_map.2 (h.2.2.imp fun hh e => by have := hh.1; rw [e] at this; exact List.lt_irrefl _ this)

set_option maxRecDepth 100000 in
set_option maxHeartbeats 2000000 in
theorem CollectF (g : Nat) (lb : Array Value) (eg : ∀ args w, (callFunc g args).run Tryz.prog w = .ok (.enter g args) w) (D0 : DataW Unit) (N : Nat) (hN : N ≤ 1000000) (w : World) (hseq : SeqStopsK Fence.wide 3 Tryz.prog g lb (fun f : Fl => #[encF f]) KeepsWalks (AllF D0) (fun _ => True) N w) :
    Calls Tryz.prog 82 #[.func (.func g) #[] lb] w (SqP D0 w) := by
  have HA : Hid (Calls Tryz.prog 120 #[.slice none 0 0, .func (.func g) #[] lb] w (SqP D0 w)) := (callsIn_wide (n := 4)).1 (appendSeqF g lb eg D0 N hN w hseq)
  clear eg hseq
  go_enter Tryz.func82, Tryz.ntmps82
  go_wp2_with fail
  refine HA.out.mono ?_
  rintro e w1 ⟨v, fs, rfl, h1, h2, h3⟩
  have HE : Hid (AllF D0 fs ∧ w1.ownsRow w.heap.size 30 3 v fs.length (flCells fs) ∧ Below w.heap.size w w1) := ⟨h1, h2, h3⟩
  clear h1 h2 h3
  go_wp2
  go_ret
  exact ⟨v, fs, rfl, HE.out⟩

set_option maxRecDepth 100000 in
set_option maxHeartbeats 2000000 in
theorem SortedF (g : Nat) (lb : Array Value) (eg : ∀ args w, (callFunc g args).run Tryz.prog w = .ok (.enter g args) w) (D0 : DataW Unit) (N : Nat) (hN : N ≤ 1000000) (L : List Fl) (hL : L.Pairwise fun f g => pth f < pth g) (hl : L.length ≤ 1000000) (hp : ∀ F, AllF D0 F → F.Perm L) (w : World) (hseq : SeqStopsK Fence.wide 3 Tryz.prog g lb (fun f : Fl => #[encF f]) KeepsWalks (AllF D0) (fun _ => True) N w) :
    Calls Tryz.prog 57 #[.func (.func g) #[] lb, .func (.func 42) #[] #[]] w fun e w' => ∃ v, e = .returned v ∧ w'.ownsRow w.heap.size 30 3 v L.length (flCells L) ∧ Below w.heap.size w w' := by
  have HA : Hid (Calls Tryz.prog 82 #[.func (.func g) #[] lb] w (SqP D0 w)) := CollectF g lb eg D0 N hN w hseq
  have HP : Hid (L.Pairwise (fun f g => pth f < pth g) ∧ L.length ≤ 1000000 ∧ ∀ F, AllF D0 F → F.Perm L) := ⟨hL, hl, hp⟩
  clear eg hseq hL hl hp
  go_enter Tryz.func57, Tryz.ntmps57
  go_wp2_with fail
  refine HA.out.mono ?_
  rintro e w1 ⟨v, fs, rfl, h1, h2, h3⟩
  have hpp := HP.out.2.2 fs h1
  have HS : Hid (Calls Tryz.prog 52 #[v, .func (.func 42) #[] #[]] w1 fun e w' => e = .returned (.tuple #[]) ∧ w'.ownsRow w.heap.size 30 3 v L.length (flCells L) ∧ w1.grownBy w' v.ownBlock) := sortFiles h2 HP.out.1 hpp (by have := hpp.length_eq; have := HP.out.2.1; omega)
  have HB : Hid (Below w.heap.size w w1 ∧ ∀ k, v.ownBlock = some k → w.heap.size ≤ k) := ⟨h3, fun k hk => (h2.lt k hk).1⟩
  clear h1 h2 h3 hpp HA
  go_wp2_with fail
  refine HS.out.mono ?_
  rintro e w2 ⟨rfl, h4, h5⟩
  have HE : Hid (w2.ownsRow w.heap.size 30 3 v L.length (flCells L) ∧ Below w.heap.size w w2) := ⟨h4, HB.out.1.grown h5 HB.out.1.size HB.out.2⟩
  clear h4 h5 HS
  go_wp2
  go_ret
  exact ⟨v, rfl, HE.out⟩

set_option maxRecDepth 100000 in
set_option maxHeartbeats 4000000 in
theorem laidOver_any (A C : List Fl) (hA : okT A) (hC : okT C) (bl bh nl nh : Nat) (w : World) (hl : w.ownsMap Tryz.prog 9 fileE bl nl (byD A)) (hh : w.ownsMap Tryz.prog 9 fileE bh nh (byD C)) (hnl : nl ≤ 60) (hnh : nh ≤ 60) :
    Calls Tryz.prog 33 #[.map (some bl), .map (some bh)] w fun e w' => ∃ a c, e = .returned (.slice a (ovF A C).length c) ∧ w'.ownsRow w.heap.size 30 3 (.slice a (ovF A C).length c) (ovF A C).length (flCells (ovF A C)) ∧ Below w.heap.size w w' := by
  have nA := okT_nodup0 hA
  have nC := okT_nodup0 hC
  have HC : Hid (Calls Tryz.prog 55 #[.map (some bl)] w fun e w' => e = .returned (.map (some w.heap.size)) ∧ w'.ownsMap Tryz.prog 9 fileE w.heap.size nl (byD A) ∧ w'.ownsMap Tryz.prog 9 fileE bl nl (byD A) ∧ Below w.heap.size w w') := cloneF_any _ _ bl nl (byD A) w hl
  have HH : Hid (w.ownsMap Tryz.prog 9 fileE bh nh (byD C) ∧ bh < w.heap.size) := ⟨hh, hh.lt⟩
  have HZ : Hid (Maps.size (byD C) ≤ 60) := Nat.le_trans hh.size_le hnh
  have HP : Hid ((ovF A C).Pairwise (fun f g => pth f < pth g) ∧ (ovF A C).length ≤ 1000000 ∧ ∀ D, BothD D (byD A) (byD C) → ∀ F, AllF D F → F.Perm (ovF A C)) := by
    refine ⟨ovF_up nA nC, ?_, fun D hD F hF => allF_perm hD nA nC hF⟩
    have h1 := (ovF_perm A C).length_eq
    unfold ovU at h1
    rw [List.length_append] at h1
    have h2 : (A.filter fun f => !hasP C (pth f)).length ≤ A.length := List.length_filter_le _ _
    have := hA.1
    have := hC.1
    omega
  clear hl hh hA hC nA nC
  go_enter Tryz.func33, Tryz.ntmps33
  go_wp2_with fail
  refine HC.out.mono ?_
  rintro e w1 ⟨rfl, h1, _, hb1⟩
  have HCp : Hid (Calls Tryz.prog 56 #[.map (some w.heap.size), .map (some bh)] w1 fun e w' => e = .returned (.tuple #[]) ∧ (∃ D, w'.ownsMap Tryz.prog 9 fileE w.heap.size (nl + Maps.size (byD C)) D ∧ BothD D (byD A) (byD C)) ∧ w1.grownBy w' (some w.heap.size)) := Copy_any w.heap.size bh nl nh (byD A) (byD C) w1 h1 (ownsMap_heap HH.out.1 (hb1.block bh HH.out.2)) (by have := HH.out.2; omega) (by have := HZ.out; unfold maxLen; omega)
  have HB1 : Hid (Below w.heap.size w w1) := hb1
  clear h1 hb1 HC HH
  go_wp2_with fail
  refine HCp.out.mono ?_
  rintro e w2 ⟨rfl, ⟨D, hD, hBoth⟩, hg2⟩
  have HB2 : Hid (Below w.heap.size w w2) := HB1.out.grown hg2 HB1.out.size (fun k hk => by cases hk; exact Nat.le_refl _)
  have HD : Hid (w2.ownsMap Tryz.prog 9 fileE w.heap.size (nl + Maps.size (byD C)) D) := hD
  have HPD : Hid (∀ F, AllF D F → F.Perm (ovF A C)) := HP.out.2.2 D hBoth
  have HV : Hid (Calls Tryz.prog 58 #[.map (some w.heap.size)] w2 fun e w' => e = .returned (.func (.func 83) #[] #[.pointer (some ⟨w2.heap.size, 0, none⟩)]) ∧ w' = w2.alloc (.cells #[.map (some w.heap.size)] 51)) := Values_any (some w.heap.size) w2
  clear hD hBoth hg2 HCp HB1
  go_wp2_with fail
  refine HV.out.mono ?_
  rintro e w3 ⟨rfl, hw3⟩
  have hb3 : Below w2.heap.size w2 w3 := by rw [hw3]; exact (Below.refl _ w2).alloc (Nat.le_refl _) _
  have hsz3 : w3.heap.size = w2.heap.size + 1 := by rw [hw3]; exact World.size_alloc _ _
  have hD3 : w3.ownsMap Tryz.prog 9 fileE w.heap.size (nl + Maps.size (byD C)) D := ownsMap_heap HD.out (hb3.block _ HD.out.lt)
  have hc3 : w3.cell? ⟨w2.heap.size, 0, none⟩ = some (.map (some w.heap.size)) := by rw [hw3]; exact Lib.cell_of_heap (heap_alloc_new w2 _) 0
  have HS : Hid (Calls Tryz.prog 57 #[.func (.func 83) #[] #[.pointer (some ⟨w2.heap.size, 0, none⟩)], .func (.func 42) #[] #[]] w3 fun e w' => ∃ v, e = .returned v ∧ w'.ownsRow w3.heap.size 30 3 v (ovF A C).length (flCells (ovF A C)) ∧ Below w3.heap.size w3 w') :=
    SortedF 83 #[.pointer (some ⟨w2.heap.size, 0, none⟩)] (enters_of Tryz.func83 (by kernel_rfl) rfl) D (Maps.size D) (Nat.le_trans hD3.size_le (by have := HZ.out; omega)) (ovF A C) HP.out.1 HP.out.2.1 HPD.out w3
      (values1 Fence.wide 3 trivial rfl (by decide) w2.heap.size w.heap.size (nl + Maps.size (byD C)) D w3 (by omega) hc3 hD3)
  have HB3 : Hid (Below w.heap.size w w3) := HB2.out.trans (hb3.mono HB2.out.size)
  clear hb3 hsz3 hD3 hc3 hw3 HV HD HPD
  go_wp2_with fail
  refine HS.out.mono ?_
  rintro e w4 ⟨v, rfl, hr4, hb4⟩
  obtain ⟨a, c, rfl⟩ := own_shape hr4
  have HE : Hid (w4.ownsRow w.heap.size 30 3 (.slice a (ovF A C).length c) (ovF A C).length (flCells (ovF A C)) ∧ Below w.heap.size w w4) := ⟨own_mono hr4 HB3.out.size, HB3.out.trans (hb4.mono HB3.out.size)⟩
  clear hr4 hb4 HS
  go_wp2
  go_ret
  exact ⟨a, c, rfl, HE.out⟩

/-- What Over answers. -/
def ovE (A C : List Fl) : Int := if erF A C ≠ 0 then erF A C else if (thruF A C || thruF C A) = true then 6 else if 60 < (ovF A C).length then 2 else 0
def ovL (A C : List Fl) : List Fl := if ovE A C = 0 then ovF A C else []

set_option maxHeartbeats 8000000 in
set_option maxRecDepth 100000 in
theorem Over_any (ao co : Option Addr) (ac cc : Nat) (A C : List Fl) (w : World) (ha : IsFl w ao A) (hc : IsFl w co C) (hm : MaxIs w) :
    Calls Tryz.prog 14 #[.slice ao A.length ac, .slice co C.length cc] w (RsP (ovE A C) (ovL A C) w) := by
  have hAb : Below w.heap.size w (w.alloc (.cells #[.slice ao A.length ac, .slice co C.length cc] 22)) := (Below.refl _ w).alloc (Nat.le_refl _) _
  have HF1 : Hid (Calls Tryz.prog 30 #[.slice (some ⟨w.heap.size, 0, none⟩) 2 2] (w.alloc (.cells #[.slice ao A.length ac, .slice co C.length cc] 22)) fun e w' => e = .returned (.int .i64 (erF A C)) ∧ Below w.heap.size w w') := by
    refine (firstError_two ao co ac cc A C w.heap.size _ (ha.below hAb (Nat.le_refl _)) (hc.below hAb (Nat.le_refl _)) (hm.up hAb) (al_at w _ _ _ 0 _ rfl rfl) (al_at w _ _ _ 1 _ rfl rfl)).mono ?_
    rintro e w' ⟨rfl, hb⟩
    exact ⟨rfl, hAb.trans (hb.mono hAb.size)⟩
  clear hAb
  by_cases h0 : erF A C = 0
  · obtain ⟨hA, hC⟩ := erF_zero h0
    have oA := okT_of hA
    have oC := okT_of hC
    have pA := ok_paths oA
    have pC := ok_paths oC
    rw [h0] at HF1
    have HBA : Hid (∀ W, Below w.heap.size w W → Calls Tryz.prog 31 #[.slice ao A.length ac] W fun e w' => e = .returned (.map (some W.heap.size)) ∧ w'.ownsMap Tryz.prog 9 fileE W.heap.size A.length (byD A) ∧ Below W.heap.size W w') := fun W hW => byPath_any ao ac A W (by have := oA.1; omega) (ha.below hW (Nat.le_refl _)) (fun f hf => by have := pA f hf; unfold maxLen; omega)
    have HBC : Hid (∀ W, Below w.heap.size w W → Calls Tryz.prog 31 #[.slice co C.length cc] W fun e w' => e = .returned (.map (some W.heap.size)) ∧ w'.ownsMap Tryz.prog 9 fileE W.heap.size C.length (byD C) ∧ Below W.heap.size W w') := fun W hW => byPath_any co cc C W (by have := oC.1; omega) (hc.below hW (Nat.le_refl _)) (fun f hf => by have := pC f hf; unfold maxLen; omega)
    have HGA : Hid (∀ M n W, Below w.heap.size w W → W.ownsMap Tryz.prog 9 fileE M n (byD C) → Calls Tryz.prog 32 #[.slice ao A.length ac, .map (some M)] W fun e w' => e = .returned (.bool (thruF A C)) ∧ Below W.heap.size W w') := fun M n W hW hM => by
      have := someGo_any ao ac A M n (byD C) W (by have := oA.1; omega) (ha.below hW (Nat.le_refl _)) (fun f hf => by have := pA f hf; omega) hM
      rw [anyD] at this
      exact this
    have HGC : Hid (∀ M n W, Below w.heap.size w W → W.ownsMap Tryz.prog 9 fileE M n (byD A) → Calls Tryz.prog 32 #[.slice co C.length cc, .map (some M)] W fun e w' => e = .returned (.bool (thruF C A)) ∧ Below W.heap.size W w') := fun M n W hW hM => by
      have := someGo_any co cc C M n (byD A) W (by have := oC.1; omega) (hc.below hW (Nat.le_refl _)) (fun f hf => by have := pC f hf; omega) hM
      rw [anyD] at this
      exact this
    have HLO : Hid (∀ bl bh W, W.ownsMap Tryz.prog 9 fileE bl A.length (byD A) → W.ownsMap Tryz.prog 9 fileE bh C.length (byD C) → Calls Tryz.prog 33 #[.map (some bl), .map (some bh)] W fun e w' => ∃ a c, e = .returned (.slice a (ovF A C).length c) ∧ w'.ownsRow W.heap.size 30 3 (.slice a (ovF A C).length c) (ovF A C).length (flCells (ovF A C)) ∧ Below W.heap.size W w') := fun bl bh W h1 h2 => laidOver_any A C oA oC bl bh A.length C.length W h1 h2 oA.1 oC.1
    have HE6 : Hid ((thruF A C || thruF C A) = true → ovE A C = 6 ∧ ovL A C = []) := fun h => by
      have e : ovE A C = 6 := by unfold ovE; rw [if_neg (by simp [h0]), if_pos h]
      exact ⟨e, by unfold ovL; rw [e, if_neg (by decide)]⟩
    have HE2 : Hid ((thruF A C || thruF C A) = false → 60 < (ovF A C).length → ovE A C = 2 ∧ ovL A C = []) := fun h h2 => by
      have e : ovE A C = 2 := by unfold ovE; rw [if_neg (by simp [h0]), if_neg (by rw [h]; decide), if_pos h2]
      exact ⟨e, by unfold ovL; rw [e, if_neg (by decide)]⟩
    have HE0 : Hid ((thruF A C || thruF C A) = false → ¬ 60 < (ovF A C).length → ovE A C = 0 ∧ ovL A C = ovF A C) := fun h h2 => by
      have e : ovE A C = 0 := by unfold ovE; rw [if_neg (by simp [h0]), if_neg (by rw [h]; decide), if_neg h2]
      exact ⟨e, by unfold ovL; rw [e, if_pos rfl]⟩
    clear ha hc hm hA hC oA oC pA pC h0
    go_enter Tryz.func14, Tryz.ntmps14
    go_wp2_with fail
    refine HF1.out.mono ?_
    rintro e w1 ⟨rfl, hb1⟩
    have HB1 : Hid (Below w.heap.size w w1) := hb1
    clear hb1 HF1
    go_wp2_with fail
    refine (HBA.out _ HB1.out).mono ?_
    rintro e w2 ⟨rfl, hm2, hb2⟩
    have HB2 : Hid (Below w.heap.size w w2) := HB1.out.trans (hb2.mono HB1.out.size)
    have HM2 : Hid (w2.ownsMap Tryz.prog 9 fileE w1.heap.size A.length (byD A)) := hm2
    clear hm2 hb2
    go_wp2_with fail
    refine (HBC.out _ HB2.out).mono ?_
    rintro e w3 ⟨rfl, hm3, hb3⟩
    have HB3 : Hid (Below w.heap.size w w3) := HB2.out.trans (hb3.mono HB2.out.size)
    have HMA3 : Hid (w3.ownsMap Tryz.prog 9 fileE w1.heap.size A.length (byD A)) := ownsMap_heap HM2.out (hb3.block _ HM2.out.lt)
    have HMC3 : Hid (w3.ownsMap Tryz.prog 9 fileE w2.heap.size C.length (byD C)) := hm3
    clear hm3 hb3 HM2 HBA HBC
    go_wp2_with fail
    refine (HGA.out _ _ _ HB3.out HMC3.out).mono ?_
    rintro e w4 ⟨rfl, hb4⟩
    have HB4 : Hid (Below w.heap.size w w4) := HB3.out.trans (hb4.mono HB3.out.size)
    have HMA4 : Hid (w4.ownsMap Tryz.prog 9 fileE w1.heap.size A.length (byD A)) := ownsMap_heap HMA3.out (hb4.block _ HMA3.out.lt)
    have HMC4 : Hid (w4.ownsMap Tryz.prog 9 fileE w2.heap.size C.length (byD C)) := ownsMap_heap HMC3.out (hb4.block _ HMC3.out.lt)
    clear hb4 HMA3 HMC3 HGA
    cases h1 : thruF A C with
    | true =>
      have HZ : Hid (ovE A C = 6 ∧ ovL A C = []) := HE6.out (by rw [h1]; rfl)
      clear h1
      go_wp2
      refine bodyPost_ret (v := .tuple #[.slice none 0 0, .int .i64 6]) (by simp [results, Tryz.results14, go_sem]) rfl ?_
      rw [HZ.out.1, HZ.out.2]
      exact RsP_nil 6 HB4.out
    | false =>
      rw [h1] at HE6 HE2 HE0
      clear h1
      go_wp2_with fail
      refine (HGC.out _ _ _ HB4.out HMA4.out).mono ?_
      rintro e w5 ⟨rfl, hb5⟩
      have HB5 : Hid (Below w.heap.size w w5) := HB4.out.trans (hb5.mono HB4.out.size)
      have HMA5 : Hid (w5.ownsMap Tryz.prog 9 fileE w1.heap.size A.length (byD A)) := ownsMap_heap HMA4.out (hb5.block _ HMA4.out.lt)
      have HMC5 : Hid (w5.ownsMap Tryz.prog 9 fileE w2.heap.size C.length (byD C)) := ownsMap_heap HMC4.out (hb5.block _ HMC4.out.lt)
      clear hb5 HMA4 HMC4 HGC
      cases h2 : thruF C A with
      | true =>
        have HZ : Hid (ovE A C = 6 ∧ ovL A C = []) := HE6.out (by rw [h2]; rfl)
        clear h2
        go_wp2
        refine bodyPost_ret (v := .tuple #[.slice none 0 0, .int .i64 6]) (by simp [results, Tryz.results14, go_sem]) rfl ?_
        rw [HZ.out.1, HZ.out.2]
        exact RsP_nil 6 HB5.out
      | false =>
        rw [h2] at HE2 HE0
        clear h2
        go_wp2_with fail
        refine (HLO.out _ _ _ HMA5.out HMC5.out).mono ?_
        rintro e w6 ⟨a, c, rfl, hr6, hb6⟩
        have HB6 : Hid (Below w.heap.size w w6) := HB5.out.trans (hb6.mono HB5.out.size)
        have HR6 : Hid (w6.ownsRow w.heap.size 30 3 (.slice a (ovF A C).length c) (ovF A C).length (flCells (ovF A C))) := own_mono hr6 HB5.out.size
        clear hr6 hb6 HMA5 HMC5 HLO
        by_cases hln : 60 < (ovF A C).length
        · have HZ : Hid (ovE A C = 2 ∧ ovL A C = []) := HE2.out rfl hln
          have hli : (60 : Int) < ((ovF A C).length : Int) := by omega
          clear hln
          go_wp2
          refine bodyPost_ret (v := .tuple #[.slice none 0 0, .int .i64 2]) (by simp [results, Tryz.results14, go_sem]) rfl ?_
          rw [HZ.out.1, HZ.out.2]
          exact RsP_nil 2 HB6.out
        · have HZ : Hid (ovE A C = 0 ∧ ovL A C = ovF A C) := HE0.out rfl hln
          have hli : ¬ (60 : Int) < ((ovF A C).length : Int) := by omega
          clear hln
          go_wp2
          refine bodyPost_ret (v := .tuple #[.slice a (ovF A C).length c, .int .i64 0]) (by simp [results, Tryz.results14, go_sem]) rfl ?_
          rw [HZ.out.1, HZ.out.2]
          exact ⟨a, c, rfl, HR6.out, HB6.out⟩
  · have HZ : Hid (ovE A C = erF A C ∧ ovL A C = []) := by
      have e : ovE A C = erF A C := by unfold ovE; rw [if_pos h0]
      exact ⟨e, by unfold ovL; rw [e, if_neg h0]⟩
    rw [HZ.out.1, HZ.out.2]
    clear HZ ha hc hm
    generalize erF A C = c at *
    have h0' : (c != 0) = true := by simpa using h0
    clear h0
    go_enter Tryz.func14, Tryz.ntmps14
    go_wp2_with fail
    refine HF1.out.mono ?_
    rintro e w1 ⟨rfl, hb1⟩
    have HB : Hid (Below w.heap.size w w1) := hb1
    clear hb1
    go_wp2
    refine bodyPost_ret (v := .tuple #[.slice none 0 0, .int .i64 c]) (by simp [results, Tryz.results14, go_sem]) rfl ?_
    exact RsP_nil c HB.out
end Go.Proofs.YtelcflmjagjbfaaGreatDoor

/- The document's look at two trees that differ. -/
namespace Go.Proofs.YtelcflmjagjbfaaGreatDoor
open Go.RowKit Go.Shelf Go.Maps Go.WideMaps Go.Sort

/-- Where a path stands first. -/
def FaR (L : List Fl) (s : List UInt8) (i : Int) : Prop := (i = -1 ∧ ∀ f ∈ L, pth f ≠ s) ∨ ∃ (j : Nat) (hj : j < L.length), i = j ∧ pth L[j] = s ∧ ∀ j' (hj' : j' < L.length), j' < j → pth L[j'] ≠ s

set_option maxHeartbeats 4000000 in
set_option maxRecDepth 100000 in
theorem FileAt_any (ao : Option Addr) (ac : Nat) (L : List Fl) (s : ByteArray) (w : World) (hl : IsFl w ao L) (hn : L.length ≤ 4611686018427387904) :
    Calls Tryz.prog 21 #[.slice ao L.length ac, .string s] w fun e w' => ∃ i, e = .returned (.int .i64 i) ∧ FaR L s.data.toList i ∧ w' = w := by
  have HL : Hid (IsFl w ao L) := hl
  have hn1 : (L.length : Int) ≤ 4611686018427387904 := by omega
  clear hl
  go_enter Tryz.func21, Tryz.ntmps21
  go_wp2
  go_loopw [5] (fun i wr => ∃ k : Nat, k ≤ L.length ∧ i = .int .i64 k ∧ (∀ j (hj : j < L.length), j < k → pth L[j] ≠ s.data.toList) ∧ wr = w) (fun i _ => L.length - (intOf i).toNat)
  case atStart => exact ⟨0, by omega, rfl, fun j _ h => absurd h (Nat.not_lt_zero _), rfl⟩
  case round =>
    obtain ⟨k, hk, rfl, hq, rfl⟩ := hrel
    have HQ : Hid (∀ j (hj : j < L.length), j < k → pth L[j] ≠ s.data.toList) := hq
    clear hq
    by_cases hlt : k < L.length
    · rcases HL.out with h | ⟨g, o, rfl, hg, hc⟩
      · exfalso; rw [h] at hlt; exact absurd hlt (by simp)
      obtain ⟨c0, _, _⟩ := hc k hlt
      have hki : (k : Int) < (L.length : Int) := by omega
      have hpe : (L[k].pa.toList == s.toList) = decide (pth L[k] = s.data.toList) := eqL _ _
      clear hc
      by_cases hp : pth L[k] = s.data.toList
      · have HZ : Hid (FaR L s.data.toList k) := .inr ⟨k, hlt, rfl, hp, HQ.out⟩
        rw [decide_eq_true hp] at hpe
        clear hp
        go_wp2
        go_ret
        exact ⟨_, rfl, HZ.out, rfl⟩
      · have HZ : Hid (∀ j (hj : j < L.length), j < k + 1 → pth L[j] ≠ s.data.toList) := fun j hj h => by
          by_cases e : j < k
          · exact HQ.out j hj e
          · have e2 : j = k := by omega
            subst e2
            exact hp
        rw [decide_eq_false hp] at hpe
        clear hp
        go_wp2
        exact ⟨⟨k + 1, by omega, by go_num, HZ.out, trivial⟩, by simp [intOf]; omega⟩
    · obtain rfl : k = L.length := by omega
      have hki : ¬ (L.length : Int) < (L.length : Int) := by omega
      have HZ : Hid (FaR L s.data.toList (-1)) := .inl ⟨rfl, fun f hf => by
        obtain ⟨j, hj, rfl⟩ := List.mem_iff_getElem.1 hf
        exact HQ.out j hj hj⟩
      go_wp2
      go_ret
      exact ⟨_, rfl, HZ.out, rfl⟩

/-- The paths that were added when k of the files have been looked at. -/
def dtL (A C : List Fl) (k : Nat) : List (List UInt8) := addAll (othF (A.take k) C ++ othF (C.take (k - A.length)) A)
theorem dtL_a (A C : List Fl) (k : Nat) (hk : k < A.length) : dtL A C (k + 1) = if sameB (getF C (pth A[k])) A[k] = true then dtL A C k else insN (pth A[k]) (dtL A C k) := by
  unfold dtL
  rw [show k + 1 - A.length = 0 by omega, show k - A.length = 0 by omega, List.take_zero, List.take_succ_eq_append_getElem hk, othF_snoc]
  rw [show othF [] A = [] from rfl, List.append_nil, List.append_nil]
  split
  · rfl
  · rw [addAll_snoc]
theorem dtL_c (A C : List Fl) (k : Nat) (j : Nat) (hk : k = A.length + j) (hc : j < C.length) : dtL A C (k + 1) = if sameB (getF A (pth C[j])) C[j] = true then dtL A C k else insN (pth C[j]) (dtL A C k) := by
  unfold dtL
  rw [show k + 1 - A.length = j + 1 by omega, show k - A.length = j by omega, List.take_of_length_le (l := A) (i := k + 1) (by omega), List.take_of_length_le (l := A) (i := k) (by omega), List.take_succ_eq_append_getElem hc, othF_snoc]
  split
  · rfl
  · rw [← List.append_assoc, addAll_snoc]
theorem dtL_end (A C : List Fl) : dtL A C (A.length + C.length) = difF A C := by
  unfold dtL
  rw [List.take_of_length_le (by omega), List.take_of_length_le (by omega), dif_same]
theorem dtL_zero (A C : List Fl) : dtL A C 0 = [] := by
  unfold dtL
  rw [Nat.zero_sub]
  rfl
theorem dtL_len (A C : List Fl) (k : Nat) : (dtL A C k).length ≤ A.length + C.length := by
  unfold dtL
  refine Nat.le_trans (addAll_len _) ?_
  rw [List.length_append]
  have h1 := othF_len (A.take k) C
  have h2 := othF_len (C.take (k - A.length)) A
  have h3 : (A.take k).length ≤ A.length := by rw [List.length_take]; omega
  have h4 : (C.take (k - A.length)).length ≤ C.length := by rw [List.length_take]; omega
  omega
theorem insN_ne (s : List UInt8) (l : List (List UInt8)) : insN s l ≠ [] := fun e => by
  have := (insN_mem s s l).2 (.inl rfl)
  rw [e] at this
  cases this

/-- How it stands ahead of a round. -/
def DtI (A C : List Fl) (w : World) (ov i : Value) (wr : World) : Prop := ∃ k : Nat, k ≤ A.length + C.length ∧ i = .int .i64 k ∧ wr.ownsRow w.heap.size 9 1 ov (dtL A C k).length ((dtL A C k).map encStr) ∧ (dtL A C k = [] → ov = .slice none 0 0) ∧ Below w.heap.size w wr

set_option maxHeartbeats 16000000 in
set_option maxRecDepth 100000 in
theorem DiffersTree_any (ao co : Option Addr) (ac cc : Nat) (A C : List Fl) (w : World) (ha : IsFl w ao A) (hc : IsFl w co C) (hA : okT A) (hC : okT C) :
    Calls Tryz.prog 18 #[.slice ao A.length ac, .slice co C.length cc] w (TxP (difF A C) w) := by
  have HA : Hid (IsFl w ao A) := ha
  have HC : Hid (IsFl w co C) := hc
  have HFa : Hid (∀ (s : ByteArray) (W : World), Below w.heap.size w W → Calls Tryz.prog 21 #[.slice ao A.length ac, .string s] W fun e w' => ∃ i, e = .returned (.int .i64 i) ∧ FaR A s.data.toList i ∧ w' = W) := fun s W hW => FileAt_any ao ac A s W (ha.below hW (Nat.le_refl _)) (by have := hA.1; omega)
  have HFc : Hid (∀ (s : ByteArray) (W : World), Below w.heap.size w W → Calls Tryz.prog 21 #[.slice co C.length cc, .string s] W fun e w' => ∃ i, e = .returned (.int .i64 i) ∧ FaR C s.data.toList i ∧ w' = W) := fun s W hW => FileAt_any co cc C s W (hc.below hW (Nat.le_refl _)) (by have := hC.1; omega)
  have HNa : Hid (∀ f ∈ A, pth f ≠ []) := fun f hf => pathOk_ne (flE_pa (hA.2.1 f hf)).1
  have HNc : Hid (∀ f ∈ C, pth f ≠ []) := fun f hf => pathOk_ne (flE_pa (hC.2.1 f hf)).1
  have hn1 : (A.length : Int) ≤ 60 := by have := hA.1; omega
  have hn2 : (C.length : Int) ≤ 60 := by have := hC.1; omega
  clear ha hc hA hC
  go_enter Tryz.func18, Tryz.ntmps18
  go_wp2
  go_loopw [5, 6] (fun ov i wr => DtI A C w ov i wr) (fun _ i _ => A.length + C.length - (intOf i).toNat)
  case atStart => exact ⟨0, by omega, rfl, by rw [dtL_zero]; exact World.ownsRow_nil _ _ _ _, fun _ => rfl, Below.refl _ _⟩
  case round =>
    obtain ⟨k, hk, rfl, hrow, hnil, hb⟩ := hrel
    have hsz := hb.size
    have HB : Hid (Below w.heap.size w wr) := hb
    have hUl := dtL_len A C k
    by_cases hlt : k < A.length
    · have hlx : k < A.length := hlt
      have HDt : Hid (dtL A C (k + 1) = if sameB (getF C (pth A[k])) A[k] = true then dtL A C k else insN (pth A[k]) (dtL A C k)) := dtL_a A C k hlt
      have hki : (k : Int) < (A.length : Int) := by omega
      have hki2 : (k : Int) < (A.length : Int) + (C.length : Int) := by omega
      rcases HA.out.below hb (Nat.le_refl _) with h | ⟨g, o, rfl, hg, hc⟩
      · exfalso; rw [h] at hlx; exact absurd hlx (by simp)
      obtain ⟨c0, c1, c2⟩ := hc k hlx
      have HNx : Hid (pth A[k] ≠ []) := HNa.out _ (List.getElem_mem hlx)
      have HRow : Hid (wr.ownsRow w.heap.size 9 1 u5 (dtL A C k).length ((dtL A C k).map encStr)) := hrow
      have HNil : Hid (dtL A C k = [] → u5 = .slice none 0 0) := hnil
      clear hc hrow hnil
      generalize A[k] = x at *
      obtain ⟨xp, xt, xr⟩ := x
      simp only at *
      obtain ⟨B1, hB1⟩ : ∃ B1, B1 = wr.alloc (.cells #[.string xp, .string xt, .bool xr] 30) := ⟨_, rfl⟩
      have hbA : Below w.heap.size w B1 := by rw [hB1]; exact hb.alloc hsz _
      have hzA : B1.heap.size = wr.heap.size + 1 := by rw [hB1]; exact World.size_alloc _ _
      have hR1 : B1.ownsRow w.heap.size 9 1 u5 (dtL A C k).length ((dtL A C k).map encStr) := by rw [hB1]; exact HRow.out.alloc _
      have HRA : Hid (∀ n : Nat, (B1.drewN n).ownsRow w.heap.size 9 1 u5 (dtL A C k).length ((dtL A C k).map encStr) ∧ Below w.heap.size w (B1.drewN n)) := fun n => ⟨row_heap hR1 fun b hb => rfl, below_drewN hbA n⟩
      have HFx : Hid (Calls Tryz.prog 21 #[.slice co C.length cc, .string xp] B1 fun e w' => ∃ i, e = .returned (.int .i64 i) ∧ FaR C xp.data.toList i ∧ w' = B1) := HFc.out xp _ hbA
      have HAd : Hid (∀ n : Nat, Calls Tryz.prog 38 #[u5, .string xp] (B1.drewN n) (AdP w.heap.size u5 (dtL A C k) xp (B1.drewN n))) := fun n => AddText_any _ _ _ xp _ (HRA.out n).1 HNil.out (HRA.out n).2.size (by omega)
      have HMm : Hid (IsFl B1 co C) := HC.out.below hbA (Nat.le_refl _)
      have x0 : B1.cell? ⟨wr.heap.size, 0, none⟩ = some (.string xp) := by rw [hB1]; exact al_at wr _ _ _ 0 _ rfl rfl
      have x1 : B1.cell? ⟨wr.heap.size, 1, none⟩ = some (.string xt) := by rw [hB1]; exact al_at wr _ _ _ 1 _ rfl rfl
      have x2 : B1.cell? ⟨wr.heap.size, 2, none⟩ = some (.bool xr) := by rw [hB1]; exact al_at wr _ _ _ 2 _ rfl rfl
      clear hb hR1 hbA
      go_wp2_with fail
      rw [← hB1]
      clear hB1
      refine HFx.out.mono ?_
      rintro e w1 ⟨i, rfl, hfa, hw1⟩
      subst hw1
      clear HFx
      have stay : sameB (getF C (pth ⟨xp, xt, xr⟩)) ⟨xp, xt, xr⟩ = true → ∀ (n : Nat) (v : Value), v = .int .i64 ((k + 1 : Nat) : Int) → DtI A C w u5 v (w1.drewN n) := fun hs n v hv => by
        have e := HDt.out
        rw [if_pos hs] at e
        refine ⟨k + 1, by omega, hv, ?_, ?_, (HRA.out n).2⟩
        · rw [e]; exact (HRA.out n).1
        · rw [e]; exact HNil.out
      have more : ¬ sameB (getF C (pth ⟨xp, xt, xr⟩)) ⟨xp, xt, xr⟩ = true → ∀ (n : Nat) (v' : Value) (w' : World), w'.ownsRow w.heap.size 9 1 v' (insN xp.data.toList (dtL A C k)).length ((insN xp.data.toList (dtL A C k)).map encStr) → Below (w1.drewN n).heap.size (w1.drewN n) w' → ∀ (v : Value), v = .int .i64 ((k + 1 : Nat) : Int) → DtI A C w v' v w' := fun hs n v' w' hr hbb v hv => by
        have e := HDt.out
        rw [if_neg hs] at e
        have hpe : pth ⟨xp, xt, xr⟩ = xp.data.toList := rfl
        rw [hpe] at e
        refine ⟨k + 1, by omega, hv, ?_, ?_, (HRA.out n).2.trans (hbb.mono (HRA.out n).2.size)⟩
        · rw [e]; exact hr
        · rw [e]; intro h; exact absurd h (insN_ne _ _)
      rcases hfa with ⟨rfl, hno⟩ | ⟨j', hj', rfl, hpj, hfst⟩
      · have hs : ¬ sameB (getF C (pth ⟨xp, xt, xr⟩)) ⟨xp, xt, xr⟩ = true := by
          have e9 : getF C (pth ⟨xp, xt, xr⟩) = zeroFl := getF_no hno
          rw [e9]
          intro h
          have h9 := (sameB_iff _ _).1 h
          exact HNx.out (by rw [← h9]; rfl)
        have MORE := more hs
        clear stay more hs hno
        have HMo : Hid (∀ (n : Nat) (v' : Value) (w' : World), w'.ownsRow w.heap.size 9 1 v' (insN xp.data.toList (dtL A C k)).length ((insN xp.data.toList (dtL A C k)).map encStr) → Below (w1.drewN n).heap.size (w1.drewN n) w' → ∀ (v : Value), v = .int .i64 ((k + 1 : Nat) : Int) → DtI A C w v' v w') := MORE
        clear MORE
        go_wp2
        go_region
        all_goals
          go_wp2_with fail
          refine (HAd.out 1).mono ?_
          rintro e w3 ⟨v', rfl, hr3, hb3, _⟩
          have HG : Hid (∀ (v : Value), v = .int .i64 ((k + 1 : Nat) : Int) → DtI A C w v' v w3) := HMo.out 1 v' w3 hr3 hb3
          clear hr3 hb3
          go_wp2
          exact ⟨HG.out _ (by go_num), by simp [intOf]; omega⟩
      · have hgf : getF C (pth ⟨xp, xt, xr⟩) = C[j'] := getF_at j' hj' hpj hfst
        rw [hgf] at stay more
        rcases HMm.out with h | ⟨g', o', rfl, hg', hc'⟩
        · exfalso; rw [h] at hj'; exact absurd hj' (by simp)
        obtain ⟨m0, m1, m2⟩ := hc' j' hj'
        have hji : (j' : Int) < (C.length : Int) := by omega
        clear hc' hgf hfst
        generalize C[j'] = y at *
        obtain ⟨yp, yt, yr⟩ := y
        simp only at *
        obtain rfl : yp = xp := bytes_ext hpj
        clear hpj
        by_cases h2 : yt.toList = xt.toList
        · obtain rfl := toL_inj h2
          clear h2
          by_cases h3 : yr = xr
          · subst h3
            have STAY := stay ((sameB_iff _ _).2 rfl)
            have HSt : Hid (∀ (n : Nat) (v : Value), v = .int .i64 ((k + 1 : Nat) : Int) → DtI A C w u5 v (w1.drewN n)) := STAY
            clear STAY stay more
            go_wp2
            go_region
            all_goals
              go_wp2
              exact ⟨HSt.out 1 _ (by go_num), by simp [intOf]; omega⟩
          · have MORE := more (fun h => h3 (by have := (sameB_iff _ _).1 h; injection this))
            have h3' : (yr == xr) = false := by simpa using h3
            have HMo : Hid (∀ (n : Nat) (v' : Value) (w' : World), w'.ownsRow w.heap.size 9 1 v' (insN yp.data.toList (dtL A C k)).length ((insN yp.data.toList (dtL A C k)).map encStr) → Below (w1.drewN n).heap.size (w1.drewN n) w' → ∀ (v : Value), v = .int .i64 ((k + 1 : Nat) : Int) → DtI A C w v' v w') := MORE
            clear MORE stay more
            go_wp2
            go_region
            all_goals
              go_wp2_with fail
              refine (HAd.out 1).mono ?_
              rintro e w3 ⟨v', rfl, hr3, hb3, _⟩
              have HG : Hid (∀ (v : Value), v = .int .i64 ((k + 1 : Nat) : Int) → DtI A C w v' v w3) := HMo.out 1 v' w3 hr3 hb3
              clear hr3 hb3
              go_wp2
              exact ⟨HG.out _ (by go_num), by simp [intOf]; omega⟩
        · have MORE := more (fun h => h2 (by have := (sameB_iff _ _).1 h; injection this with _ e _; rw [e]))
          have HMo : Hid (∀ (n : Nat) (v' : Value) (w' : World), w'.ownsRow w.heap.size 9 1 v' (insN yp.data.toList (dtL A C k)).length ((insN yp.data.toList (dtL A C k)).map encStr) → Below (w1.drewN n).heap.size (w1.drewN n) w' → ∀ (v : Value), v = .int .i64 ((k + 1 : Nat) : Int) → DtI A C w v' v w') := MORE
          clear MORE stay more
          go_wp2
          go_region
          all_goals
            go_wp2_with fail
            refine (HAd.out 1).mono ?_
            rintro e w3 ⟨v', rfl, hr3, hb3, _⟩
            have HG : Hid (∀ (v : Value), v = .int .i64 ((k + 1 : Nat) : Int) → DtI A C w v' v w3) := HMo.out 1 v' w3 hr3 hb3
            clear hr3 hb3
            go_wp2
            exact ⟨HG.out _ (by go_num), by simp [intOf]; omega⟩
    by_cases hlt2 : k < A.length + C.length
    · obtain ⟨j, hkj⟩ : ∃ j, k = A.length + j := ⟨k - A.length, by omega⟩
      have hlx : j < C.length := by omega
      have HDt : Hid (dtL A C (k + 1) = if sameB (getF A (pth C[j])) C[j] = true then dtL A C k else insN (pth C[j]) (dtL A C k)) := dtL_c A C k j hkj hlx
      have hki : ¬ (k : Int) < (A.length : Int) := by omega
      have hki2 : (k : Int) < (A.length : Int) + (C.length : Int) := by omega
      have hsub : (k : Int) - (A.length : Int) = (j : Int) := by omega
      rcases HC.out.below hb (Nat.le_refl _) with h | ⟨g, o, rfl, hg, hc⟩
      · exfalso; rw [h] at hlx; exact absurd hlx (by simp)
      obtain ⟨c0, c1, c2⟩ := hc j hlx
      have HNx : Hid (pth C[j] ≠ []) := HNc.out _ (List.getElem_mem hlx)
      have HRow : Hid (wr.ownsRow w.heap.size 9 1 u5 (dtL A C k).length ((dtL A C k).map encStr)) := hrow
      have HNil : Hid (dtL A C k = [] → u5 = .slice none 0 0) := hnil
      clear hc hrow hnil
      generalize C[j] = x at *
      obtain ⟨xp, xt, xr⟩ := x
      simp only at *
      obtain ⟨B1, hB1⟩ : ∃ B1, B1 = wr.alloc (.cells #[.string xp, .string xt, .bool xr] 30) := ⟨_, rfl⟩
      have hbA : Below w.heap.size w B1 := by rw [hB1]; exact hb.alloc hsz _
      have hzA : B1.heap.size = wr.heap.size + 1 := by rw [hB1]; exact World.size_alloc _ _
      have hR1 : B1.ownsRow w.heap.size 9 1 u5 (dtL A C k).length ((dtL A C k).map encStr) := by rw [hB1]; exact HRow.out.alloc _
      have HRA : Hid (∀ n : Nat, (B1.drewN n).ownsRow w.heap.size 9 1 u5 (dtL A C k).length ((dtL A C k).map encStr) ∧ Below w.heap.size w (B1.drewN n)) := fun n => ⟨row_heap hR1 fun b hb => rfl, below_drewN hbA n⟩
      have HFx : Hid (Calls Tryz.prog 21 #[.slice ao A.length ac, .string xp] B1 fun e w' => ∃ i, e = .returned (.int .i64 i) ∧ FaR A xp.data.toList i ∧ w' = B1) := HFa.out xp _ hbA
      have HAd : Hid (∀ n : Nat, Calls Tryz.prog 38 #[u5, .string xp] (B1.drewN n) (AdP w.heap.size u5 (dtL A C k) xp (B1.drewN n))) := fun n => AddText_any _ _ _ xp _ (HRA.out n).1 HNil.out (HRA.out n).2.size (by omega)
      have HMm : Hid (IsFl B1 ao A) := HA.out.below hbA (Nat.le_refl _)
      have x0 : B1.cell? ⟨wr.heap.size, 0, none⟩ = some (.string xp) := by rw [hB1]; exact al_at wr _ _ _ 0 _ rfl rfl
      have x1 : B1.cell? ⟨wr.heap.size, 1, none⟩ = some (.string xt) := by rw [hB1]; exact al_at wr _ _ _ 1 _ rfl rfl
      have x2 : B1.cell? ⟨wr.heap.size, 2, none⟩ = some (.bool xr) := by rw [hB1]; exact al_at wr _ _ _ 2 _ rfl rfl
      clear hb hR1 hbA
      go_wp2_with fail
      rw [← hB1]
      clear hB1
      refine HFx.out.mono ?_
      rintro e w1 ⟨i, rfl, hfa, hw1⟩
      subst hw1
      clear HFx
      have stay : sameB (getF A (pth ⟨xp, xt, xr⟩)) ⟨xp, xt, xr⟩ = true → ∀ (n : Nat) (v : Value), v = .int .i64 ((k + 1 : Nat) : Int) → DtI A C w u5 v (w1.drewN n) := fun hs n v hv => by
        have e := HDt.out
        rw [if_pos hs] at e
        refine ⟨k + 1, by omega, hv, ?_, ?_, (HRA.out n).2⟩
        · rw [e]; exact (HRA.out n).1
        · rw [e]; exact HNil.out
      have more : ¬ sameB (getF A (pth ⟨xp, xt, xr⟩)) ⟨xp, xt, xr⟩ = true → ∀ (n : Nat) (v' : Value) (w' : World), w'.ownsRow w.heap.size 9 1 v' (insN xp.data.toList (dtL A C k)).length ((insN xp.data.toList (dtL A C k)).map encStr) → Below (w1.drewN n).heap.size (w1.drewN n) w' → ∀ (v : Value), v = .int .i64 ((k + 1 : Nat) : Int) → DtI A C w v' v w' := fun hs n v' w' hr hbb v hv => by
        have e := HDt.out
        rw [if_neg hs] at e
        have hpe : pth ⟨xp, xt, xr⟩ = xp.data.toList := rfl
        rw [hpe] at e
        refine ⟨k + 1, by omega, hv, ?_, ?_, (HRA.out n).2.trans (hbb.mono (HRA.out n).2.size)⟩
        · rw [e]; exact hr
        · rw [e]; intro h; exact absurd h (insN_ne _ _)
      rcases hfa with ⟨rfl, hno⟩ | ⟨j', hj', rfl, hpj, hfst⟩
      · have hs : ¬ sameB (getF A (pth ⟨xp, xt, xr⟩)) ⟨xp, xt, xr⟩ = true := by
          have e9 : getF A (pth ⟨xp, xt, xr⟩) = zeroFl := getF_no hno
          rw [e9]
          intro h
          have h9 := (sameB_iff _ _).1 h
          exact HNx.out (by rw [← h9]; rfl)
        have MORE := more hs
        clear stay more hs hno
        have HMo : Hid (∀ (n : Nat) (v' : Value) (w' : World), w'.ownsRow w.heap.size 9 1 v' (insN xp.data.toList (dtL A C k)).length ((insN xp.data.toList (dtL A C k)).map encStr) → Below (w1.drewN n).heap.size (w1.drewN n) w' → ∀ (v : Value), v = .int .i64 ((k + 1 : Nat) : Int) → DtI A C w v' v w') := MORE
        clear MORE
        go_wp2
        go_region
        all_goals
          go_wp2_with fail
          refine (HAd.out 1).mono ?_
          rintro e w3 ⟨v', rfl, hr3, hb3, _⟩
          have HG : Hid (∀ (v : Value), v = .int .i64 ((k + 1 : Nat) : Int) → DtI A C w v' v w3) := HMo.out 1 v' w3 hr3 hb3
          clear hr3 hb3
          go_wp2
          exact ⟨HG.out _ (by go_num), by simp [intOf]; omega⟩
      · have hgf : getF A (pth ⟨xp, xt, xr⟩) = A[j'] := getF_at j' hj' hpj hfst
        rw [hgf] at stay more
        rcases HMm.out with h | ⟨g', o', rfl, hg', hc'⟩
        · exfalso; rw [h] at hj'; exact absurd hj' (by simp)
        obtain ⟨m0, m1, m2⟩ := hc' j' hj'
        have hji : (j' : Int) < (A.length : Int) := by omega
        clear hc' hgf hfst
        generalize A[j'] = y at *
        obtain ⟨yp, yt, yr⟩ := y
        simp only at *
        obtain rfl : yp = xp := bytes_ext hpj
        clear hpj
        by_cases h2 : yt.toList = xt.toList
        · obtain rfl := toL_inj h2
          clear h2
          by_cases h3 : yr = xr
          · subst h3
            have STAY := stay ((sameB_iff _ _).2 rfl)
            have HSt : Hid (∀ (n : Nat) (v : Value), v = .int .i64 ((k + 1 : Nat) : Int) → DtI A C w u5 v (w1.drewN n)) := STAY
            clear STAY stay more
            go_wp2
            go_region
            all_goals
              go_wp2
              exact ⟨HSt.out 1 _ (by go_num), by simp [intOf]; omega⟩
          · have MORE := more (fun h => h3 (by have := (sameB_iff _ _).1 h; injection this))
            have h3' : (yr == xr) = false := by simpa using h3
            have HMo : Hid (∀ (n : Nat) (v' : Value) (w' : World), w'.ownsRow w.heap.size 9 1 v' (insN yp.data.toList (dtL A C k)).length ((insN yp.data.toList (dtL A C k)).map encStr) → Below (w1.drewN n).heap.size (w1.drewN n) w' → ∀ (v : Value), v = .int .i64 ((k + 1 : Nat) : Int) → DtI A C w v' v w') := MORE
            clear MORE stay more
            go_wp2
            go_region
            all_goals
              go_wp2_with fail
              refine (HAd.out 1).mono ?_
              rintro e w3 ⟨v', rfl, hr3, hb3, _⟩
              have HG : Hid (∀ (v : Value), v = .int .i64 ((k + 1 : Nat) : Int) → DtI A C w v' v w3) := HMo.out 1 v' w3 hr3 hb3
              clear hr3 hb3
              go_wp2
              exact ⟨HG.out _ (by go_num), by simp [intOf]; omega⟩
        · have MORE := more (fun h => h2 (by have := (sameB_iff _ _).1 h; injection this with _ e _; rw [e]))
          have HMo : Hid (∀ (n : Nat) (v' : Value) (w' : World), w'.ownsRow w.heap.size 9 1 v' (insN yp.data.toList (dtL A C k)).length ((insN yp.data.toList (dtL A C k)).map encStr) → Below (w1.drewN n).heap.size (w1.drewN n) w' → ∀ (v : Value), v = .int .i64 ((k + 1 : Nat) : Int) → DtI A C w v' v w') := MORE
          clear MORE stay more
          go_wp2
          go_region
          all_goals
            go_wp2_with fail
            refine (HAd.out 1).mono ?_
            rintro e w3 ⟨v', rfl, hr3, hb3, _⟩
            have HG : Hid (∀ (v : Value), v = .int .i64 ((k + 1 : Nat) : Int) → DtI A C w v' v w3) := HMo.out 1 v' w3 hr3 hb3
            clear hr3 hb3
            go_wp2
            exact ⟨HG.out _ (by go_num), by simp [intOf]; omega⟩
    · obtain rfl : k = A.length + C.length := by omega
      have hki : ¬ ((A.length + C.length : Nat) : Int) < (A.length : Int) + (C.length : Int) := by omega
      rw [dtL_end] at hrow hnil
      obtain ⟨oa, oc, rfl⟩ := own_shape hrow
      have HF : Hid (wr.ownsRow w.heap.size 9 1 (.slice oa (difF A C).length oc) (difF A C).length ((difF A C).map encStr) ∧ (difF A C = [] → oa = none ∧ oc = 0)) := ⟨hrow, fun e => by
        have := hnil e
        injection this with h1 _ h3
        exact ⟨h1, h3⟩⟩
      clear hrow hnil hb hUl
      go_wp2
      go_ret
      exact ⟨oa, oc, rfl, HF.out.1, HF.out.2, HB.out⟩
end Go.Proofs.YtelcflmjagjbfaaGreatDoor

/- A file among others, as the document adds it; a copy of files. -/
namespace Go.Proofs.YtelcflmjagjbfaaGreatDoor
open Go.RowKit Go.Shelf Go.Maps Go.WideMaps Go.Sort
attribute [local go_sem ↓] appS_eq

theorem insF_take (f : Fl) : ∀ (L : List Fl) (k : Nat), k ≤ L.length → (∀ (j : Nat) (hj : j < L.length), j < k → pth L[j] < pth f) → (∀ hk : k < L.length, ¬ pth L[k] < pth f) → insF f L = L.take k ++ f :: L.drop k
  | [], k, hk, _, _ => by simp [insF]
  | g :: l, 0, _, _, h2 => by
    have h3 : ¬ pth g < pth f := h2 (by simp)
    unfold insF
    rw [if_neg h3]
    rfl
  | g :: l, k + 1, hk, h1, h2 => by
    have h3 : pth g < pth f := h1 0 (by simp) (by omega)
    have ih := insF_take f l k (by simpa using hk) (fun j hj hjk => h1 (j + 1) (by simp; omega) (by omega)) (fun hk2 => h2 (by simp; omega))
    unfold insF
    rw [if_pos h3, ih]
    rfl
theorem flCells_app (A C : List Fl) : flCells (A ++ C) = flCells A ++ flCells C := by simp [flCells]
theorem flCells_len (A : List Fl) : (flCells A).length = A.length * 3 := by
  induction A with
  | nil => rfl
  | cons f l ih =>
    have e : flCells (f :: l) = [.string f.pa, .string f.tx, .bool f.rn] ++ flCells l := rfl
    rw [e, List.length_append, ih, List.length_cons]
    simp
    omega
theorem flCells_one (A : List Fl) : ∀ u ∈ flCells A, u.oneCell' = true := fun u hu => by
  obtain ⟨f, _, hf⟩ := List.mem_flatMap.1 hu
  simp at hf
  rcases hf with rfl | rfl | rfl <;> rfl
/-- Cell by cell. -/
theorem flAt_cells {w : World} {g o : Nat} {F : List Fl} (h : FlAt g o F w) : ∀ j u, (flCells F)[j]? = some u → w.cell? ⟨g, o + j, none⟩ = some u := fun j u hu => by
  have hj : j < (flCells F).length := (List.getElem?_eq_some_iff.1 hu).1
  rw [flCells_len] at hj
  have hq : j / 3 < F.length := by omega
  obtain ⟨h0, h1, h2⟩ := h (j / 3) hq
  obtain ⟨k0, k1, k2⟩ := flCells_get F (j / 3) hq
  have hm : j % 3 = 0 ∨ j % 3 = 1 ∨ j % 3 = 2 := by omega
  rcases hm with e | e | e
  · have e2 : j = j / 3 * 3 := by omega
    rw [e2] at hu ⊢
    rw [k0] at hu
    rw [← hu]
    exact h0
  · have e2 : j = j / 3 * 3 + 1 := by omega
    rw [e2] at hu ⊢
    rw [k1] at hu
    rw [← hu]
    exact h1
  · have e2 : j = j / 3 * 3 + 2 := by omega
    rw [e2] at hu ⊢
    rw [k2] at hu
    rw [← hu]
    exact h2
theorem flAt_own {w : World} {B g n c : Nat} {F : List Fl} (h : w.ownsRow B 30 3 (.slice (some ⟨g, 0, none⟩) n c) n (flCells F)) (hn : n = F.length) : FlAt g 0 F w := fun j hj => by
  obtain ⟨k0, k1, k2⟩ := flCells_get F j hj
  simp only [Nat.zero_add]
  exact ⟨(h.cellAt _ (by omega)).trans k0, (h.cellAt _ (by omega)).trans k1, (h.cellAt _ (by omega)).trans k2⟩
theorem flAt_drop {w : World} {g o : Nat} {F : List Fl} (h : FlAt g o F w) (k : Nat) : FlAt g (o + k * 3) (F.drop k) w := fun j hj => by
  have hj2 : k + j < F.length := by rw [List.length_drop] at hj; omega
  obtain ⟨h0, h1, h2⟩ := h (k + j) hj2
  have e : o + k * 3 + j * 3 = o + (k + j) * 3 := by omega
  rw [e, List.getElem_drop]
  exact ⟨h0, h1, h2⟩
theorem flAt_take {w : World} {g o : Nat} {F : List Fl} (h : FlAt g o F w) (k : Nat) : FlAt g o (F.take k) w := fun j hj => by
  have hj2 : j < F.length := by rw [List.length_take] at hj; omega
  rw [List.getElem_take]
  exact h j hj2
theorem flAt_heap {w w' : World} {g o : Nat} {F : List Fl} (h : FlAt g o F w) (hb : w'.heap[g]? = w.heap[g]?) : FlAt g o F w' := fun j hj =>
  ⟨(World.cell?_of_block (w := w) hb).trans (h j hj).1, (World.cell?_of_block (w := w) hb).trans (h j hj).2.1, (World.cell?_of_block (w := w) hb).trans (h j hj).2.2⟩

/-- How adding ends. -/
def AfP (B : Nat) (F : List Fl) (w : World) (e : Ending) (w' : World) : Prop := ∃ g c, e = .returned (.slice (some ⟨g, 0, none⟩) F.length c) ∧ w'.ownsRow B 30 3 (.slice (some ⟨g, 0, none⟩) F.length c) F.length (flCells F) ∧ Below w.heap.size w w' ∧ w.heap.size ≤ g

/-- Both appends, wherever the file stands. -/
theorem addF_ap {B g cap : Nat} {F : List Fl} {X : World} (hF : FlAt g 0 F X) (hg : g < X.heap.size) (hB : B ≤ X.heap.size) (f : Fl) (hn : F.length ≤ 1000) (hcap : F.length ≤ cap) (k : Nat) (hk : k ≤ F.length) (n : Nat) :
    ∃ (A : Addr) (v1 : Value) (g2 c2 : Nat) (w1 w2 : World), (if cap = k then some (⟨g, 0, none⟩ : Addr) else some ⟨g, k * 3, none⟩) = some A ∧
      (appS #[22, 22] 22 #[.slice (some ⟨X.heap.size, 0, none⟩) 1 1, .slice (some A) (F.length - k) (cap - k)]).run Tryz.prog ((X.alloc (.cells #[.string f.pa, .string f.tx, .bool f.rn] 30)).drewN n) = .ok v1 w1 ∧
      (appS #[22, 22] 22 #[.slice (some ⟨g, 0, none⟩) k k, v1]).run Tryz.prog w1 = .ok (.slice (some ⟨g2, 0, none⟩) (F.length + 1) c2) w2 ∧
      w2.ownsRow B 30 3 (.slice (some ⟨g2, 0, none⟩) (F.length + 1) c2) (F.length + 1) (flCells (F.take k ++ f :: F.drop k)) ∧ Below X.heap.size X w2 ∧ X.heap.size ≤ g2 := by
  obtain ⟨i0, hi, hz0, hz1, hz2⟩ := info_p infF
  obtain ⟨Y, hY⟩ : ∃ Y, Y = (X.alloc (.cells #[.string f.pa, .string f.tx, .bool f.rn] 30)).drewN n := ⟨_, rfl⟩
  rw [← hY]
  have hzY : Y.heap.size = X.heap.size + 1 := by rw [hY]; exact World.size_alloc _ _
  have hoY : ∀ x : Nat, x < X.heap.size → Y.heap[x]? = X.heap[x]? := fun x hx => by rw [hY]; exact heap_al X _ x hx
  have hnY : Y.heap[X.heap.size]? = some (.cells #[.string f.pa, .string f.tx, .bool f.rn] 30 (0, 0)) := by rw [hY]; exact heap_alloc_new X _
  have hbY : Below X.heap.size X Y := by rw [hY]; exact below_drewN ((Below.refl _ X).alloc (Nat.le_refl _) _) n
  have hFY : FlAt g 0 F Y := flAt_heap hF (hoY g hg)
  obtain ⟨A, hA, hsrc⟩ : ∃ A : Addr, (if cap = k then some (⟨g, 0, none⟩ : Addr) else some ⟨g, k * 3, none⟩) = some A ∧ ∀ j u, (flCells (F.drop k))[j]? = some u → Y.cell? (A.add j) = some u := by
    by_cases hck : cap = k
    · refine ⟨⟨g, 0, none⟩, by simp [hck], fun j u hu => ?_⟩
      have : F.drop k = [] := List.drop_eq_nil_iff.2 (by omega)
      rw [this] at hu
      cases hu
    · refine ⟨⟨g, k * 3, none⟩, by simp [hck], fun j u hu => ?_⟩
      rw [Addr.add_lit]
      have := flAt_cells (flAt_drop hFY k) j u hu
      rwa [Nat.zero_add] at this
  have hown0 : Y.ownsRow X.heap.size 30 3 (.slice (some ⟨X.heap.size, 0, none⟩) 1 1) 1 [.string f.pa, .string f.tx, .bool f.rn] :=
    ⟨rfl, .inr ⟨X.heap.size, 1, #[.string f.pa, .string f.tx, .bool f.rn], rfl, Nat.le_refl _, hnY, Nat.le_refl _, by decide, rfl, rfl⟩⟩
  obtain ⟨v1, w1, hr1, ho1, hg1', _⟩ := run_append_own (P := Tryz.prog) Y X.heap.size 22 22 30 i0 (.agg #[.string ⟨#[]⟩, .string ⟨#[]⟩, .bool false]) 3 40 Tryz.underlying22 hi hz0 hz1 hz2 rfl (by decide) (.slice (some ⟨X.heap.size, 0, none⟩) 1 1) 1 [.string f.pa, .string f.tx, .bool f.rn] hown0 A (F.length - k) (cap - k) (flCells (F.drop k)) (by rw [flCells_len, List.length_drop]) hsrc (flCells_one _) (by unfold maxLen; omega) (by omega) (by omega)
  obtain ⟨g1, c1, hv1, hg3, hg4⟩ := ho1.form (by omega)
  have hw1 : ∀ x : Nat, x < X.heap.size → w1.heap[x]? = X.heap[x]? := fun x hx => (hg1'.block x (by omega) (fun e => by simp [Value.ownBlock] at e; omega)).trans (hoY x hx)
  have hcells1 : ∀ j u, ([.string f.pa, .string f.tx, .bool f.rn] ++ flCells (F.drop k))[j]? = some u → w1.cell? ((⟨g1, 0, none⟩ : Addr).add j) = some u := by
    have := ho1
    rw [hv1] at this
    exact this.cells rfl
  have hFt : ∀ j u, (flCells (F.take k))[j]? = some u → w1.cell? ((⟨g, 0, none⟩ : Addr).add j) = some u := fun j u hu => by
    rw [add0]
    have := flAt_cells (flAt_take (flAt_heap hF (hw1 g hg)) k) j u hu
    rwa [Nat.zero_add] at this
  obtain ⟨v2, w2, hr2, ho2, hg2'⟩ := run_append_arg_grows (P := Tryz.prog) w1 22 22 30 i0 (.agg #[.string ⟨#[]⟩, .string ⟨#[]⟩, .bool false]) 3 40 Tryz.underlying22 hi hz0 hz1 hz2 rfl (by decide) ⟨g, 0, none⟩ k k (flCells (F.take k)) (by rw [flCells_len, List.length_take]; omega) hFt ⟨g1, 0, none⟩ (1 + (F.length - k)) c1 ([.string f.pa, .string f.tx, .bool f.rn] ++ flCells (F.drop k)) (by rw [List.length_append, flCells_len, List.length_drop]; simp; omega) hcells1 (by omega) (by unfold maxLen; omega) (by omega)
  have hsz1 : X.heap.size ≤ w1.heap.size := by have := hg1'.size; omega
  have el : k + (1 + (F.length - k)) = F.length + 1 := by omega
  have ec : flCells (F.take k) ++ ([.string f.pa, .string f.tx, .bool f.rn] ++ flCells (F.drop k)) = flCells (F.take k ++ f :: F.drop k) := by
    rw [flCells_app]
    rfl
  rw [el, ec] at ho2
  obtain ⟨g2, c2, hv2, hg5, _⟩ := ho2.form (by omega)
  subst hv2
  rw [hv1] at hr1
  refine ⟨A, _, g2, c2, w1, w2, hA, hr1, hr2, own_mono ho2 (by omega), ⟨hg2'.os.trans (hg1'.os.trans hbY.os), hg2'.tape.trans (hg1'.tape.trans hbY.tape), hg2'.output.trans (hg1'.output.trans hbY.output), by have := hg2'.size; omega, fun x hx => (hg2'.block x (by omega) (fun e => by cases e)).trans (hw1 x hx)⟩, by omega⟩
end Go.Proofs.YtelcflmjagjbfaaGreatDoor

/- The document's AddFile; a copy of files; a file in the place of another. -/
namespace Go.Proofs.YtelcflmjagjbfaaGreatDoor
open Go.RowKit Go.Shelf Go.Maps Go.WideMaps Go.Sort
attribute [local go_sem ↓] appS_eq

set_option maxHeartbeats 8000000 in
set_option maxRecDepth 100000 in
theorem AddFile_any (B g cap : Nat) (F : List Fl) (f : Fl) (w : World) (h : w.ownsRow B 30 3 (.slice (some ⟨g, 0, none⟩) F.length cap) F.length (flCells F)) (hn : F.length ≤ 1000) (hB : B ≤ w.heap.size) :
    Calls Tryz.prog 34 #[.slice (some ⟨g, 0, none⟩) F.length cap, encF f] w (AfP B (insF f F) w) := by
  have hcap : F.length ≤ cap := by
    rcases h.2 with ⟨e, _⟩ | ⟨g', cap', cur, e, _, _, hle, _⟩
    · cases e
    · cases e; exact hle
  have hg : g < w.heap.size := (h.lt g rfl).2
  obtain ⟨fp, ft, fr⟩ := f
  obtain ⟨X, hX⟩ : ∃ X, X = w.alloc (.cells #[.string fp, .string ft, .bool fr] 30) := ⟨_, rfl⟩
  have hbX : Below w.heap.size w X := by rw [hX]; exact (Below.refl _ w).alloc (Nat.le_refl _) _
  have hzX : X.heap.size = w.heap.size + 1 := by rw [hX]; exact World.size_alloc _ _
  have hFX : FlAt g 0 F X := flAt_heap (flAt_own h rfl) (hbX.block g hg)
  have HC : Hid (∀ (k : Nat) (hk : k < F.length), X.cell? ⟨g, k * 3, none⟩ = some (.string F[k].pa)) := fun k hk => by
    have := (hFX k hk).1
    rwa [Nat.zero_add] at this
  have x0 : X.cell? ⟨w.heap.size, 0, none⟩ = some (.string fp) := by rw [hX]; exact al_at w _ _ _ 0 _ rfl rfl
  have x1 : X.cell? ⟨w.heap.size, 1, none⟩ = some (.string ft) := by rw [hX]; exact al_at w _ _ _ 1 _ rfl rfl
  have x2 : X.cell? ⟨w.heap.size, 2, none⟩ = some (.bool fr) := by rw [hX]; exact al_at w _ _ _ 2 _ rfl rfl
  have HAp : Hid (∀ (k : Nat) (n : Nat), k ≤ F.length → ∃ (A : Addr) (v1 : Value) (g2 c2 : Nat) (w1 w2 : World), (if cap = k then some (⟨g, 0, none⟩ : Addr) else some ⟨g, k * 3, none⟩) = some A ∧
      (appS #[22, 22] 22 #[.slice (some ⟨X.heap.size, 0, none⟩) 1 1, .slice (some A) (F.length - k) (cap - k)]).run Tryz.prog ((X.drewN n).alloc (.cells #[.string fp, .string ft, .bool fr] 30)) = .ok v1 w1 ∧
      (appS #[22, 22] 22 #[.slice (some ⟨g, 0, none⟩) k k, v1]).run Tryz.prog w1 = .ok (.slice (some ⟨g2, 0, none⟩) (F.length + 1) c2) w2 ∧
      Hid (w2.ownsRow B 30 3 (.slice (some ⟨g2, 0, none⟩) (F.length + 1) c2) (F.length + 1) (flCells (F.take k ++ ⟨fp, ft, fr⟩ :: F.drop k)) ∧ Below w.heap.size w w2 ∧ w.heap.size ≤ g2)) := fun k n hk => by
    obtain ⟨A, v1, g2, c2, w1, w2, h1, h2, h3, h4, h5, h6⟩ := addF_ap (B := B) (cap := cap) hFX (by omega) (by omega) ⟨fp, ft, fr⟩ hn hcap k hk n
    exact ⟨A, v1, g2, c2, w1, w2, h1, h2, h3, h4, hbX.trans (h5.mono hbX.size), by omega⟩
  have hn1 : (F.length : Int) ≤ 1000 := by omega
  unfold encF
  simp only
  clear h hbX hFX hg hzX
  go_enter Tryz.func34, Tryz.ntmps34
  go_wp2
  rw [← hX]
  clear hX
  go_loopw [5] (fun v wr => ∃ k m : Nat, k ≤ F.length ∧ v = .int .i64 (k : Int) ∧ wr = X.drewN m ∧ Hid (∀ (j : Nat) (hj : j < F.length), j < k → pth F[j] < fp.data.toList)) (fun v _ => F.length - (RowKit.intOf v).toNat)
  case atStart => exact ⟨0, 0, Nat.zero_le _, rfl, rfl, fun j hj h => absurd h (by omega)⟩
  case round =>
    obtain ⟨k, m, hk, rfl, rfl, HLo⟩ := hrel
    obtain ⟨k1, hk1⟩ : ∃ k1, k1 = k + 1 := ⟨_, rfl⟩
    have hk2 : (k : Int) + 1 = (k1 : Int) := by omega
    have hw2 : IntKind.i64.wrap (k1 : Int) = (k1 : Int) := by rw [IntKind.wrap_i64]; omega
    have HK1 : Hid (k1 = k + 1) := hk1
    have hk4 : k ≤ cap := by omega
    clear hk1
    by_cases hlt : k < F.length
    · have hki : (k : Int) < (F.length : Int) := by omega
      have c1 := HC.out k hlt
      have hbl : Op.bytesLess (F[k].pa).toList fp.toList = decide (pth F[k] < fp.data.toList) := by rw [Lib.toList_data, Lib.toList_data, tlt]; rfl
      by_cases hb : pth F[k] < fp.data.toList
      · rw [decide_eq_true hb] at hbl
        have HLo2 : Hid (∀ (j : Nat) (hj : j < F.length), j < k1 → pth F[j] < fp.data.toList) := fun j hj hj2 => by
          by_cases e : j < k
          · exact HLo.out j hj e
          · have e2 : j = k := by have := HK1.out; omega
            subst e2
            exact hb
        clear hb
        generalize F[k].pa = x at c1 hbl
        go_wp2
        go_quiet (fail)
        go_wp2
        refine ⟨⟨k1, m + nq, by rw [HK1.out]; exact hlt, rfl, by simp, HLo2⟩, ?_⟩
        have := HK1.out
        simp [RowKit.intOf]; omega
      · rw [decide_eq_false hb] at hbl
        have HZ : Hid (insF ⟨fp, ft, fr⟩ F = F.take k ++ ⟨fp, ft, fr⟩ :: F.drop k ∧ (F.take k ++ ⟨fp, ft, fr⟩ :: F.drop k).length = F.length + 1) := ⟨insF_take _ F k hk HLo.out fun _ => hb, by simp; omega⟩
        clear hb
        generalize F[k].pa = x at c1 hbl
        go_wp2
        go_quiet (fail)
        obtain ⟨A, v1, g2, c2, w1, w2, hA, ha1, ha2, HE⟩ := HAp.out k (m + nq + 1) hk
        have HF : Hid (AfP B (insF ⟨fp, ft, fr⟩ F) w (.returned (.slice (some ⟨g2, 0, none⟩) (F.length + 1) c2)) w2) := ⟨g2, c2, by rw [HZ.out.1, HZ.out.2], by rw [HZ.out.1, HZ.out.2]; exact HE.out.1, HE.out.2⟩
        clear hlt
        go_wp2
        go_region
        all_goals
          go_wp2
          go_ret
          exact HF.out
    · have hki : ¬ (k : Int) < (F.length : Int) := by omega
      have HZ : Hid (insF ⟨fp, ft, fr⟩ F = F.take k ++ ⟨fp, ft, fr⟩ :: F.drop k ∧ (F.take k ++ ⟨fp, ft, fr⟩ :: F.drop k).length = F.length + 1) := ⟨insF_take _ F k hk HLo.out fun h => absurd h hlt, by simp; omega⟩
      go_wp2
      go_quiet (fail)
      obtain ⟨A, v1, g2, c2, w1, w2, hA, ha1, ha2, HE⟩ := HAp.out k (m + nq + 1) hk
      have HF : Hid (AfP B (insF ⟨fp, ft, fr⟩ F) w (.returned (.slice (some ⟨g2, 0, none⟩) (F.length + 1) c2)) w2) := ⟨g2, c2, by rw [HZ.out.1, HZ.out.2], by rw [HZ.out.1, HZ.out.2]; exact HE.out.1, HE.out.2⟩
      go_wp2
      go_region
      all_goals
        go_wp2
        go_ret
        exact HF.out
end Go.Proofs.YtelcflmjagjbfaaGreatDoor

/- The document's OverTree. -/
namespace Go.Proofs.YtelcflmjagjbfaaGreatDoor
open Go.RowKit Go.Shelf Go.Maps Go.WideMaps Go.Sort
attribute [local go_sem ↓] appS_eq

/-- A copy of files, laid behind a list with nothing in it. -/
theorem copyF {ao : Option Addr} {ac : Nat} {L : List Fl} {w : World} (hl : IsFl w ao L) (hn : L.length ≤ 1000) :
    ∃ g c w', (appS #[22, 22] 22 #[.slice (some ⟨w.heap.size, 0, none⟩) 0 0, .slice ao L.length ac]).run Tryz.prog (w.alloc (.cells #[] 30)) = .ok (.slice (some ⟨g, 0, none⟩) L.length c) w' ∧
      w'.ownsRow w.heap.size 30 3 (.slice (some ⟨g, 0, none⟩) L.length c) L.length (flCells L) ∧ Below w.heap.size w w' := by
  obtain ⟨i0, hi, hz0, hz1, hz2⟩ := info_p infF
  have hb : Below w.heap.size w (w.alloc (.cells #[] 30)) := (Below.refl _ w).alloc (Nat.le_refl _) _
  have hown0 : (w.alloc (.cells #[] 30)).ownsRow w.heap.size 30 3 (.slice (some ⟨w.heap.size, 0, none⟩) 0 0) 0 [] :=
    ⟨rfl, .inr ⟨w.heap.size, 0, #[], rfl, Nat.le_refl _, heap_alloc_new w _, Nat.le_refl _, by decide, rfl, rfl⟩⟩
  cases ao with
  | none =>
    have hL : L = [] := by
      rcases hl with h | ⟨g, o, e, _⟩
      · exact h
      · cases e
    subst hL
    refine ⟨w.heap.size, 0, w.alloc (.cells #[] 30), ?_, hown0, hb⟩
    unfold appS
    simp [Builtin.append_, run_underlying Tryz.underlying22, sizeOf, typeInfo, hi, Builtin.lenOf, Builtin.firstCells, storeCells]
  | some ad =>
    have hsrc : ∀ j u, (flCells L)[j]? = some u → (w.alloc (.cells #[] 30)).cell? (ad.add j) = some u := fun j u hu => by
      rcases hl.below hb (Nat.le_refl _) with h | ⟨g, o, e, hg, hc⟩
      · subst h; simp [flCells] at hu
      · obtain rfl := Option.some.inj e
        rw [Addr.add_lit]
        exact flAt_cells hc j u hu
    obtain ⟨v1, w1, hr1, ho1, hg1', hnil⟩ := run_append_own (P := Tryz.prog) (w.alloc (.cells #[] 30)) w.heap.size 22 22 30 i0 (.agg #[.string ⟨#[]⟩, .string ⟨#[]⟩, .bool false]) 3 40 Tryz.underlying22 hi hz0 hz1 hz2 rfl (by decide) (.slice (some ⟨w.heap.size, 0, none⟩) 0 0) 0 [] hown0 ad L.length ac (flCells L) (flCells_len L) hsrc (flCells_one _) (by unfold maxLen; omega) (by omega) hb.size
    rw [Nat.zero_add, List.nil_append] at ho1
    rcases ho1.2 with ⟨e, _⟩ | ⟨g1, c1, cur, e, _⟩
    · have := (hnil.1 e).1
      cases this
    · subst e
      exact ⟨g1, c1, w1, hr1, ho1, hb.grown hg1' hb.size fun k hk => by simp [Value.ownBlock] at hk; omega⟩
/-- A file in the place of another. -/
theorem flCells_set (F : List Fl) (f : Fl) (k : Nat) (hk : k < F.length) : flCells (F.set k f) = ((((flCells F).set (k * 3) (.string f.pa)).set (k * 3 + 1) (.string f.tx)).set (k * 3 + 2) (.bool f.rn)) := by
  induction F generalizing k with
  | nil => simp at hk
  | cons g l ih =>
    have e : flCells (g :: l) = .string g.pa :: .string g.tx :: .bool g.rn :: flCells l := rfl
    cases k with
    | zero => rw [e]; rfl
    | succ k =>
      have e2 : flCells ((g :: l).set (k + 1) f) = .string g.pa :: .string g.tx :: .bool g.rn :: flCells (l.set k f) := rfl
      rw [e2, e, ih k (by simpa using hk)]
      have a1 : (k + 1) * 3 = k * 3 + 1 + 1 + 1 := by omega
      rw [a1]
      rfl
theorem setRow {B g c : Nat} {F : List Fl} {w : World} (h : w.ownsRow B 30 3 (.slice (some ⟨g, 0, none⟩) F.length c) F.length (flCells F)) (f : Fl) (k : Nat) (hk : k < F.length) :
    ((((w.setCell ⟨g, k * 3, none⟩ (.string f.pa)).setCell ⟨g, k * 3 + 1, none⟩ (.string f.tx)).setCell ⟨g, k * 3 + 2, none⟩ (.bool f.rn))).ownsRow B 30 3 (.slice (some ⟨g, 0, none⟩) F.length c) F.length (flCells (F.set k f)) := by
  rcases h.2 with ⟨e, _⟩ | ⟨g', c', cur, e, hbase, hb, h1, h2, h3, h4⟩
  · cases e
  · injection e with e1 _ e2
    injection e1 with e1
    injection e1 with e1
    subst e1 e2
    refine ⟨by rw [flCells_len, List.length_set], .inr ⟨g, c, ((cur.setIfInBounds (k * 3) (.string f.pa)).setIfInBounds (k * 3 + 1) (.string f.tx)).setIfInBounds (k * 3 + 2) (.bool f.rn), rfl, hbase, ?_, h1, h2, by simpa using h3, ?_⟩⟩
    · simp only [World.setCell, Array.getElem?_modify, hb]
      rfl
    · rw [flCells_set F f k hk, ← h4]
      simp only [Array.toList_setIfInBounds]
      rw [List.take_set, List.take_set, List.take_set]
end Go.Proofs.YtelcflmjagjbfaaGreatDoor
