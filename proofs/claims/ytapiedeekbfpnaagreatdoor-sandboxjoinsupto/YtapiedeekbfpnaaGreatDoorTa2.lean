/- maps.Copy of files by their paths. -/
import Derived.Lib.SlMapMerge
import Derived.Maps.Ext
import Derived.Maps.RangeWalk
import Derived.Sort.KeysCollected
import Derived.Laws.IdiomRangeMap
import Derived.RangeFuncFrom
import Derived.Shelf.SlIter.Keys
import Derived.Deep.AppendLies
import Derived.RangeFuncGives
import Derived.Shelf.SlIter.Collect
import Derived.Shelf.SlIter.Nil
import Derived.Shelf.SortM.Plain
import Derived.Shelf.SortM.SortNone
import Derived.Shelf.SlSortCmp.WholeK
import Derived.Shelf.SlSortCmp.NoneTotal
import Derived.Ground.GgzProg
import Derived.Ground.SlgmProg
import Derived.Ground.SlsfProg
import Derived.Test.YtapiedeekbfpnaaGreatDoorChecked
import Derived.Sort.OwnSorted
import Derived.Laws.RangeAny
import Derived.Test.YtapiedeekbfpnaaGreatDoorTa1
namespace Go.Proofs.YtapiedeekbfpnaaGreatDoor
open Go.RowKit Go.Shelf Go.Maps Go.WideMaps Go.Sort

theorem invKF : ∀ key kl, keyOf Tryz.prog 9 key = some kl → ∃ x : List UInt8, key = encStr x := fun key kl hk => by
  obtain ⟨x, hx, _⟩ := Maps.keyOf_str Tryz.underlying9 hk
  exact ⟨x, hx⟩
theorem invVF : ∀ (v : Value) (y : DataW Unit × List MemPlace), fileE v = some y → ∃ f : Fl, v = encF f := fun v y hv => by
  obtain ⟨d, ps⟩ := y
  obtain ⟨f, hf, _⟩ := fileE_inv hv
  exact ⟨f, hf⟩
theorem encF_inj {f g : Fl} (h : encF f = encF g) : f = g := by
  have h1 := fileE_mk f
  rw [h, fileE_mk g] at h1
  injection h1 with h1
  injection h1 with h1 _
  exact (fD_inj h1).symm

/-- What both maps hold, the second ahead. -/
def BothD (D Dd Ds : DataW Unit) : Prop := (∀ k, Maps.has D k = (Maps.has Dd k || Maps.has Ds k)) ∧ ∀ k z, D.atKey k z = if Maps.has Ds k = true then Ds.atKey k z else Dd.atKey k z
end Go.Proofs.YtapiedeekbfpnaaGreatDoor

/- The files of a map, collected. -/
namespace Go.Proofs.YtapiedeekbfpnaaGreatDoor
open Go.RowKit Go.Shelf Go.Maps Go.WideMaps Go.Sort

/-- All files of a map have come, each once. -/
def AllF (D : DataW Unit) (F : List Fl) : Prop := ∃ ks : List (List UInt8), ks.length = F.length ∧ ks.Nodup ∧ (∀ x, x ∈ ks ↔ Maps.has D (.string x) = true) ∧ ∀ (j : Nat) (h1 : j < ks.length) (h2 : j < F.length), ∀ z, D.atKey (.string ks[j]) z = fD F[j]

set_option maxRecDepth 100000 in
set_option maxHeartbeats 4000000 in
theorem values1 (F : Fence) (n : Nat) (hf : F.fn 91) (hro : F.round = none) (hn : 1 ≤ n) (Bm b nn : Nat) (D0 : DataW Unit) (w : World) (hBm : Bm < w.heap.size) (hm : w.cell? ⟨Bm, 0, none⟩ = some (.map (some b))) (hown : w.ownsMap Tryz.prog 9 fileE b nn D0) :
    SeqStopsK F n Tryz.prog 91 #[.pointer (some ⟨Bm, 0, none⟩)] (fun f : Fl => #[encF f]) KeepsWalks (AllF D0) (fun _ => True) (Maps.size D0) w := by
  intro l J Jx W hW hJ hJx hY h0
  have hmW : W.cell? ⟨Bm, 0, none⟩ = some (.map (some b)) := (hW.cell (p := ⟨Bm, 0, none⟩) hBm).trans hm
  have hownW : W.ownsMap Tryz.prog 9 fileE b nn D0 := ownsMap_heap hown (hW.block b hown.lt)
  clear hm hown hW
  show CallsIn F n Tryz.prog 91 #[.func (.yield l) #[] #[], .pointer (some ⟨Bm, 0, none⟩)] W _
  refine callsIn_of_wp Tryz.func91 rfl hf ?_ hro
  simp only [Tryz.ntmps91, List.size_toArray, List.length_cons, List.length_nil, Nat.reduceAdd, Nat.reduceSub, Array.replicate_succ, Array.replicate_zero, List.push_toArray, List.append_toArray, List.nil_append, List.cons_append]
  gi_wp2_with (first
    | (gi_at_range; refine wpListIn_range_own _ rfl _ 49 rfl 9 35 lawS Tryz.underlying49 _ b nn _ rfl hownW ?_; intro w0 hrg0 hg0 hs0)
    | gi_in)
  try go_frame
  gi_loopw [7] (fun _ wr => ∃ (left : Lit → Bool) (cnt : Nat) (ps : List (List UInt8 × Fl)), wr.ranges Tryz.prog 9 fileE b W.heap.size nn D0 left cnt ∧ ps.length + cnt ≤ Maps.size D0 ∧ Collected D0 left (ps.map (·.1)) ∧ (∀ p ∈ ps, ∀ z, D0.atKey (.string p.1) z = fD p.2) ∧ J (ps.map (·.2)) wr)
    (fun _ wr => wr.rangeLeft b W.heap.size)
  case atStart =>
    exact ⟨_, _, [], hrg0, by simp, Collected.start D0, by simp, hJ [] W w0 none h0 hg0 (fun r e => by cases e)⟩
  case round =>
    obtain ⟨left, cnt, ps, hrg, hcs, hC, hV, hJs⟩ := hrel
    gi_wp2_with (first
      | (gi_at_next; refine wpListIn_next_ranges _ rfl _ rfl 9 lawS fileE encStr encF invKF invVF b W.heap.size nn _ _ _ rfl hrg ?_ ?_)
      | gi_in)
    · intro hc0 hl0
      have hE : AllF D0 (ps.map (·.2)) := ⟨ps.map (·.1), by simp, hC.1, fun x => by rw [hC.2 x, hl0]; simp, fun j h1 h2 z => by
        simp only [List.getElem_map]
        exact hV _ (List.getElem_mem _) z⟩
      gi_wp2
      go_end0
      exact ⟨⟨_, rfl⟩, .inl ⟨_, hE, hJs⟩⟩
    · intro x f kl yd yp w2 cnt2 hkey hlk hv hat hrg2 hlt hg2 hs2 hen
      obtain ⟨x', ex, rfl, _⟩ := Maps.keyOf_str Tryz.underlying9 hkey
      obtain rfl : x = x' := encStr_inj ex
      have hyd : yd = fD f := by
        rw [fileE_mk f] at hv
        injection hv with hv
        injection hv with hv _
        exact hv.symm
      subst hyd
      have hJ2 : J (ps.map (·.2)) w2 := hJ _ wr w2 (some W.heap.size) hJs hg2 (fun r e => by cases e; exact ⟨Nat.le_refl _, hrg.iter_walk⟩)
      have hA2 : J (ps.map (·.2)) (w2.alloc (.cells #[.string f.pa, .string f.tx, .bool f.rn] 35)) := hJ _ w2 _ none hJ2 (World.grownBy_alloc _ _ none) (fun r e => by cases e)
      have hrg2a : (w2.alloc (.cells #[.string f.pa, .string f.tx, .bool f.rn] 35)).ranges Tryz.prog 9 fileE b W.heap.size nn D0 (fun z => left z && !z.sameKey (.string x)) cnt2 := hrg2.kept (World.grownBy_alloc _ _ none) (fun e => by cases e) (fun e => by cases e)
      obtain ⟨fn, tmps, assign, body, hy, hR⟩ := hY (ps.map (·.2)) f _ hA2 (by simp; omega)
      have hC2 : Collected D0 (fun z => left z && !z.sameKey (.string x)) ((ps ++ [(x, f)]).map (·.1)) := by simpa using hC.step hlk hat
      have hV2 : ∀ p ∈ ps ++ [(x, f)], ∀ z, D0.atKey (.string p.1) z = fD p.2 := fun p hp => (List.mem_append.1 hp).elim (hV p) (fun e => by simp at e; subst e; exact hat)
      obtain ⟨p, t, r⟩ := f
      unfold encF at hen hy
      simp only at hen hy hR hrg2a
      clear hs2 hg2 hJ2 hA2 hv hat
      gi_wp2
      refine hR.mono ?_
      rintro e W3 (⟨rfl, hJ3, hk3⟩ | ⟨rfl, hJx3⟩)
      · gi_wp2
        have hrg3 := hrg2a.of_walks hk3
        refine ⟨⟨_, cnt2, ps ++ [(x, ⟨p, t, r⟩)], hrg3, by simp; omega, hC2, hV2, by simpa using hJ3⟩, ?_⟩
        rw [hrg3.left_eq, hrg.left_eq]
        exact hlt
      · gi_wp2
        refine bodyPost_ret (results_none rfl _ _ _) rfl ?_
        exact ⟨⟨_, rfl⟩, .inr ⟨_, trivial, hJx3⟩⟩
end Go.Proofs.YtapiedeekbfpnaaGreatDoor

/- A tree over another, plain. -/
namespace Go.Proofs.YtapiedeekbfpnaaGreatDoor
open Go.RowKit Go.Shelf Go.Maps Go.WideMaps Go.Sort

def hasP (L : List Fl) (k : List UInt8) : Bool := L.any fun f => decide (pth f = k)
theorem hasP_iff (L : List Fl) (k : List UInt8) : hasP L k = true ↔ ∃ f ∈ L, pth f = k := by
  unfold hasP
  rw [List.any_eq_true]
  simp
/-- The files of both; where both have a path, the second's. -/
def ovU (A C : List Fl) : List Fl := A.filter (fun f => !hasP C (pth f)) ++ C
def ovF (A C : List Fl) : List Fl := (ovU A C).mergeSort fun f g => decide (pth f ≤ pth g)
theorem ovU_mem (A C : List Fl) (f : Fl) : f ∈ ovU A C ↔ (f ∈ A ∧ hasP C (pth f) = false) ∨ f ∈ C := by
  unfold ovU
  rw [List.mem_append, List.mem_filter]
  simp
theorem ovU_nodup {A C : List Fl} (ha : (A.map pth).Nodup) (hc : (C.map pth).Nodup) : ((ovU A C).map pth).Nodup := by
  unfold ovU
  rw [List.map_append, List.nodup_append]
  refine ⟨List.Nodup.sublist (List.Sublist.map _ List.filter_sublist) ha, hc, fun a h1 b h2 e => ?_⟩
  obtain ⟨f, hf, rfl⟩ := List.mem_map.1 h1
  obtain ⟨g, hg, rfl⟩ := List.mem_map.1 h2
  have h3 := (List.mem_filter.1 hf).2
  have h4 : hasP C (pth f) = true := (hasP_iff _ _).2 ⟨g, hg, e.symm⟩
  rw [h4] at h3
  cases h3
theorem ovF_perm (A C : List Fl) : (ovU A C).Perm (ovF A C) := (List.mergeSort_perm _ _).symm
theorem ovF_up {A C : List Fl} (ha : (A.map pth).Nodup) (hc : (C.map pth).Nodup) : (ovF A C).Pairwise fun f g => pth f < pth g := by
  have h1 : (ovF A C).Pairwise fun f g => decide (pth f ≤ pth g) = true := List.pairwise_mergeSort (fun a b c h1 h2 => by rw [decide_eq_true_eq] at *; exact List.le_trans h1 h2) (fun a b => by rw [Bool.or_eq_true, decide_eq_true_eq, decide_eq_true_eq]; exact List.le_total _ _) _
  have h2 : ((ovF A C).map pth).Nodup := ((ovF_perm A C).map pth).nodup_iff.1 (ovU_nodup ha hc)
  have h3 : (ovF A C).Pairwise fun f g => pth f ≠ pth g := List.pairwise_map.1 h2
  refine (h1.and h3).imp fun {f g} h => ?_
  have h4 : pth f ≤ pth g := by simpa using h.1
  rcases Decidable.em (pth f < pth g) with h5 | h5
  · exact h5
  · exact absurd (List.le_antisymm h4 (List.not_lt.1 h5)) h.2
theorem has_hasP (L : List Fl) (k : List UInt8) : Maps.has (byD L) (.string k) = hasP L k := has_byD L k

theorem both_at {D : DataW Unit} {A C : List Fl} (hD : BothD D (byD A) (byD C)) (ha : (A.map pth).Nodup) (hc : (C.map pth).Nodup) {f : Fl} (hf : f ∈ ovU A C) : Maps.has D (.string (pth f)) = true ∧ ∀ z, D.atKey (.string (pth f)) z = fD f := by
  rcases (ovU_mem A C f).1 hf with ⟨h1, h2⟩ | h1
  · refine ⟨?_, fun z => ?_⟩
    · rw [hD.1, has_hasP, has_hasP, (hasP_iff A _).2 ⟨f, h1, rfl⟩]
      rfl
    · rw [hD.2, has_hasP, h2, if_neg (by decide)]
      exact at_byD ha h1 z
  · have h2 := (hasP_iff C _).2 ⟨f, h1, rfl⟩
    refine ⟨?_, fun z => ?_⟩
    · rw [hD.1, has_hasP, has_hasP, h2, Bool.or_true]
    · rw [hD.2, has_hasP, h2, if_pos rfl]
      exact at_byD hc h1 z
theorem both_of {D : DataW Unit} {A C : List Fl} (hD : BothD D (byD A) (byD C)) {k : List UInt8} (hk : Maps.has D (.string k) = true) : ∃ f ∈ ovU A C, pth f = k := by
  rw [hD.1, has_hasP, has_hasP] at hk
  by_cases h : hasP C k = true
  · obtain ⟨f, hf, e⟩ := (hasP_iff C k).1 h
    exact ⟨f, (ovU_mem A C f).2 (.inr hf), e⟩
  · have h' : hasP C k = false := by simpa using h
    rw [h', Bool.or_false] at hk
    obtain ⟨f, hf, rfl⟩ := (hasP_iff A k).1 hk
    exact ⟨f, (ovU_mem A C f).2 (.inl ⟨hf, h'⟩), rfl⟩
/-- What the map gives is what both have, in some order. -/
theorem allF_perm {D : DataW Unit} {A C F : List Fl} (hD : BothD D (byD A) (byD C)) (ha : (A.map pth).Nodup) (hc : (C.map pth).Nodup) (hF : AllF D F) : F.Perm (ovF A C) := by
  obtain ⟨ks, hl, hnd, hks, hat⟩ := hF
  have hp : ∀ (j : Nat) (h2 : j < F.length), F[j] ∈ ovU A C ∧ pth F[j] = ks[j]'(by omega) := fun j h2 => by
    have h1 : j < ks.length := by omega
    obtain ⟨f, hf, e⟩ := both_of hD ((hks _).1 (List.getElem_mem h1))
    have e2 : F[j] = f := by
      have h3 := hat j h1 h2 (fD ⟨⟨#[]⟩, ⟨#[]⟩, false⟩)
      rw [← e, (both_at hD ha hc hf).2] at h3
      exact (fD_inj h3).symm
    rw [e2]
    exact ⟨hf, e⟩
  have hm : F.map pth = ks := by
    refine List.ext_getElem (by simp [hl]) fun j h1 h2 => ?_
    rw [List.getElem_map]
    exact (hp j (by simpa using h1)).2
  have nF : F.Nodup := by
    rw [← hm] at hnd
    exact (List.pairwise_map.1 hnd).imp fun h e => h (by rw [e])
  have nU : (ovU A C).Nodup := (List.pairwise_map.1 (ovU_nodup ha hc)).imp fun h e => h (by rw [e])
  refine ((List.perm_ext_iff_of_nodup nF nU).2 fun f => ⟨fun h => ?_, fun h => ?_⟩).trans (ovF_perm A C)
  · obtain ⟨j, hj, rfl⟩ := List.mem_iff_getElem.1 h
    exact (hp j hj).1
  · have h1 := both_at hD ha hc h
    obtain ⟨j, hj, e⟩ := List.mem_iff_getElem.1 ((hks _).2 h1.1)
    have h2 : j < F.length := by omega
    have h3 := hat j hj h2 (fD ⟨⟨#[]⟩, ⟨#[]⟩, false⟩)
    rw [e, h1.2] at h3
    rw [fD_inj h3]
    exact List.getElem_mem h2
/-- A list that rises and has the same files is the same. -/
theorem ovF_uniq {A C X : List Fl} (ha : (A.map pth).Nodup) (hc : (C.map pth).Nodup) (hx : X.Pairwise fun f g => pth f < pth g) (h : ∀ f, f ∈ X ↔ f ∈ ovU A C) : X = ovF A C := by
  have nX : X.Nodup := hx.imp fun h e => by rw [e] at h; exact List.lt_irrefl _ h
  have nU : (ovU A C).Nodup := (List.pairwise_map.1 (ovU_nodup ha hc)).imp fun h e => h (by rw [e])
  have hp : X.Perm (ovF A C) := ((List.perm_ext_iff_of_nodup nX nU).2 h).trans (ovF_perm A C)
  exact List.Perm.eq_of_pairwise (le := fun f g : Fl => pth f < pth g) (fun x y _ _ h1 h2 => absurd (List.lt_trans h1 h2) (List.lt_irrefl _)) hx (ovF_up ha hc) hp
end Go.Proofs.YtapiedeekbfpnaaGreatDoor

/- A tree over another, as the document lays it; maps.Values. -/
namespace Go.Proofs.YtapiedeekbfpnaaGreatDoor
open Go.RowKit Go.Shelf Go.Maps Go.WideMaps Go.Sort

/-- A file among others that rise. -/
def insF (f : Fl) : List Fl → List Fl
  | [] => [f]
  | g :: l => if pth g < pth f then g :: insF f l else f :: g :: l
theorem insF_mem (f x : Fl) : ∀ L : List Fl, x ∈ insF f L ↔ x = f ∨ x ∈ L
  | [] => by simp [insF]
  | g :: l => by
    unfold insF
    split
    · rw [List.mem_cons, insF_mem f x l, List.mem_cons]
      constructor
      · rintro (h | h | h)
        · exact .inr (.inl h)
        · exact .inl h
        · exact .inr (.inr h)
      · rintro (h | h | h)
        · exact .inr (.inl h)
        · exact .inl h
        · exact .inr (.inr h)
    · rw [List.mem_cons]
theorem insF_up (f : Fl) : ∀ L : List Fl, L.Pairwise (fun a b => pth a < pth b) → (∀ g ∈ L, pth g ≠ pth f) → (insF f L).Pairwise fun a b => pth a < pth b
  | [], _, _ => by simp [insF]
  | g :: l, h, hn => by
    rw [List.pairwise_cons] at h
    unfold insF
    split
    · rename_i hlt
      rw [List.pairwise_cons]
      refine ⟨fun a ha => ?_, insF_up f l h.2 fun g hg => hn g (List.mem_cons_of_mem _ hg)⟩
      rcases (insF_mem f a l).1 ha with rfl | ha
      · exact hlt
      · exact h.1 a ha
    · rename_i hlt
      have h1 : pth f < pth g := by
        rcases Decidable.em (pth f < pth g) with h2 | h2
        · exact h2
        · exact absurd (List.le_antisymm (List.not_lt.1 h2) (List.not_lt.1 hlt)) (hn g (by simp))
      rw [List.pairwise_cons, List.pairwise_cons]
      refine ⟨fun a ha => ?_, h⟩
      rcases List.mem_cons.1 ha with rfl | ha
      · exact h1
      · exact List.lt_trans h1 (h.1 a ha)
/-- One file over a tree: in its place, or among the others. -/
def putF (L : List Fl) (f : Fl) : List Fl := if hasP L (pth f) = true then L.map (fun g => if pth g = pth f then f else g) else insF f L
theorem putF_mem (L : List Fl) (f x : Fl) : x ∈ putF L f ↔ x = f ∨ (x ∈ L ∧ pth x ≠ pth f) := by
  unfold putF
  split
  · rename_i h
    obtain ⟨g, hg, e⟩ := (hasP_iff L _).1 h
    rw [List.mem_map]
    constructor
    · rintro ⟨a, ha, rfl⟩
      by_cases e2 : pth a = pth f
      · rw [if_pos e2]; exact .inl rfl
      · rw [if_neg e2]; exact .inr ⟨ha, e2⟩
    · rintro (rfl | ⟨h1, h2⟩)
      · exact ⟨g, hg, if_pos e⟩
      · exact ⟨x, h1, if_neg h2⟩
  · rename_i h
    rw [insF_mem]
    constructor
    · rintro (h1 | h1)
      · exact .inl h1
      · exact .inr ⟨h1, fun e => h ((hasP_iff L _).2 ⟨x, h1, e⟩)⟩
    · rintro (h1 | h1)
      · exact .inl h1
      · exact .inr h1.1
theorem putF_up (L : List Fl) (f : Fl) (h : L.Pairwise fun a b => pth a < pth b) : (putF L f).Pairwise fun a b => pth a < pth b := by
  unfold putF
  split
  · rw [List.pairwise_map]
    have e : ∀ g : Fl, pth (if pth g = pth f then f else g) = pth g := fun g => by
      split
      · rename_i e; exact e.symm
      · rfl
    exact h.imp fun {a b} hab => by rw [e, e]; exact hab
  · rename_i hn
    exact insF_up f L h fun g hg e => hn ((hasP_iff L _).2 ⟨g, hg, e⟩)
/-- All files of the second over the first. -/
def ovR (A C : List Fl) : List Fl := C.foldl putF A
theorem ovR_snoc (A C : List Fl) (f : Fl) : ovR A (C ++ [f]) = putF (ovR A C) f := by simp [ovR, List.foldl_append]
theorem ovR_up (A C : List Fl) (h : A.Pairwise fun a b => pth a < pth b) : (ovR A C).Pairwise fun a b => pth a < pth b := by
  refine snocInd (P := fun C => (ovR A C).Pairwise fun a b => pth a < pth b) h (fun l a ih => ?_) C
  rw [ovR_snoc]
  exact putF_up _ _ ih
theorem ovR_mem (A C : List Fl) (hc : (C.map pth).Nodup) (x : Fl) : x ∈ ovR A C ↔ x ∈ ovU A C := by
  refine snocInd (P := fun C => (C.map pth).Nodup → (x ∈ ovR A C ↔ x ∈ ovU A C)) (fun _ => by simp [ovR, ovU, hasP]) (fun l a ih => ?_) C hc
  intro hn
  rw [List.map_append, List.nodup_append] at hn
  have h1 : ∀ g ∈ l, pth g ≠ pth a := fun g hg e => hn.2.2 _ (List.mem_map.2 ⟨g, hg, rfl⟩) (pth a) (by simp) e
  have h2 : ∀ k, hasP (l ++ [a]) k = false ↔ hasP l k = false ∧ k ≠ pth a := fun k => by
    unfold hasP
    rw [List.any_append, Bool.or_eq_false_iff]
    refine and_congr Iff.rfl ?_
    rw [List.any_cons, List.any_nil, Bool.or_false, decide_eq_false_iff_not]
    exact ⟨fun h e => h e.symm, fun h e => h e.symm⟩
  rw [ovR_snoc, putF_mem, ih hn.1, ovU_mem, ovU_mem, h2, List.mem_append, List.mem_singleton]
  constructor
  · rintro (h | ⟨⟨h3, h4⟩ | h3, h5⟩)
    · exact .inr (.inr h)
    · exact .inl ⟨h3, h4, h5⟩
    · exact .inr (.inl h3)
  · rintro (⟨h3, h4, h5⟩ | h3 | h3)
    · exact .inr ⟨.inl ⟨h3, h4⟩, h5⟩
    · exact .inr ⟨.inr h3, h1 x h3⟩
    · exact .inl h3
/-- The document's and the program's are one list. -/
theorem ov_same {A C : List Fl} (ha : A.Pairwise fun a b => pth a < pth b) (hc : (C.map pth).Nodup) : ovR A C = ovF A C :=
  ovF_uniq (List.pairwise_map.2 (ha.imp fun h e => by rw [e] at h; exact List.lt_irrefl _ h)) hc (ovR_up A C ha) (ovR_mem A C hc)

set_option maxRecDepth 100000 in
set_option maxHeartbeats 1000000 in
theorem Values_any (mb : Option Nat) (w : World) :
    Calls Tryz.prog 38 #[.map mb] w fun e w' => e = .returned (.func (.func 91) #[] #[.pointer (some ⟨w.heap.size, 0, none⟩)]) ∧ w' = w.alloc (.cells #[.map mb] 49) := by
  go_enter Tryz.func38, Tryz.ntmps38
  go_wp2
  go_ret
  exact ⟨rfl, rfl⟩
end Go.Proofs.YtapiedeekbfpnaaGreatDoor

/- What is made, as a list: what the texts on values that are collected lean on, where a seat has no trees to pack. -/
namespace Go.Proofs.YtapiedeekbfpnaaGreatDoor
open Go.RowKit Go.Shelf Go.Maps Go.WideMaps Go.Sort

theorem row_heap {w w' : World} {base : Nat} {e : TypeId} {size : Nat} {v : Value} {n : Nat} {xs : List Value} (h : w.ownsRow base e size v n xs) (hh : ∀ x, v.ownBlock = some x → w'.heap[x]? = w.heap[x]?) : w'.ownsRow base e size v n xs := by
  refine ⟨h.1, ?_⟩
  rcases h.2 with h2 | ⟨g, cap, cur, hv, hb, hg, r⟩
  · exact .inl h2
  · exact .inr ⟨g, cap, cur, hv, hb, (hh g (by rw [hv]; rfl)).trans hg, r⟩
def flCells (L : List Fl) : List Value := L.flatMap fun f => [.string f.pa, .string f.tx, .bool f.rn]
theorem flCells_get (L : List Fl) (j : Nat) (hj : j < L.length) : (flCells L)[j * 3]? = some (.string L[j].pa) ∧ (flCells L)[j * 3 + 1]? = some (.string L[j].tx) ∧ (flCells L)[j * 3 + 2]? = some (.bool L[j].rn) := by
  induction L generalizing j with
  | nil => simp at hj
  | cons f l ih =>
    have e : flCells (f :: l) = [.string f.pa, .string f.tx, .bool f.rn] ++ flCells l := rfl
    cases j with
    | zero => rw [e]; exact ⟨rfl, rfl, rfl⟩
    | succ j =>
      have h := ih j (by simpa using hj)
      rw [e, show (j + 1) * 3 = j * 3 + 3 by omega]
      exact ⟨by simpa using h.1, by simpa using h.2.1, by simpa using h.2.2⟩
theorem own_files {w : World} {base : Nat} {ao : Option Addr} {n cap : Nat} {L : List Fl} (h : w.ownsRow base 35 3 (.slice ao n cap) n (flCells L)) (hn : n = L.length) : IsFl w ao L := by
  have hcells := fun (g : Nat) (hg : (Value.slice ao n cap).ownBlock = some g) => h.cells hg
  rcases h.2 with ⟨h1, h2⟩ | ⟨g, cap, cur, hv, _, hh, _⟩
  · exact .inl (List.length_eq_zero_iff.1 (by omega))
  · injection hv with hv _ _
    subst hv
    refine .inr ⟨g, 0, rfl, (Array.getElem?_eq_some_iff.1 hh).1, fun j hj => ?_⟩
    have k := flCells_get L j hj
    have c0 := hcells g rfl _ _ k.1
    have c1 := hcells g rfl _ _ k.2.1
    have c2 := hcells g rfl _ _ k.2.2
    rw [addr_add] at c0 c1 c2
    exact ⟨c0, c1, c2⟩
theorem info_p {i : Option TypeInfo} {z : Value} {s b : Nat} (h : i.map (fun i => (i.zero, i.size, i.bytes)) = some (some z, s, b)) : ∃ i0, i = some i0 ∧ i0.zero = some z ∧ i0.size = s ∧ i0.bytes = b := by
  cases i with
  | none => cases h
  | some i0 =>
    simp at h
    exact ⟨i0, rfl, h.1, h.2.1, h.2.2⟩
theorem infF : (Tryz.prog.info? 35).map (fun i => (i.zero, i.size, i.bytes)) = some (some (.agg #[.string ⟨#[]⟩, .string ⟨#[]⟩, .bool false]), 3, 40) := by kernel_rfl
theorem add0 (g j : Nat) : (⟨g, 0, none⟩ : Addr).add j = ⟨g, j, none⟩ := by
  unfold Addr.add
  split <;> simp_all
theorem new_cells (W : World) (cs : Array Value) (ty : TypeId) : ∀ (k : Nat) (u : Value), cs.toList[k]? = some u → (W.alloc (.cells cs ty)).cell? ((⟨W.heap.size, 0, none⟩ : Addr).add k) = some u := by
  intro k u hk
  rw [add0, Lib.cell_of_heap (heap_alloc_new W _)]
  simpa using hk
/-- Appending, shut: the walk is not to look into it. -/
def appS (ats : Array TypeId) (ty : TypeId) (args : Array Value) : Sem Value := Builtin.append_ ats ty args
theorem appS_eq (ats : Array TypeId) (ty : TypeId) (args : Array Value) : Builtin.append_ ats ty args = appS ats ty args := rfl
end Go.Proofs.YtapiedeekbfpnaaGreatDoor

/- slices.AppendSeq, Collect and SortedFunc of files; laidOver. -/
namespace Go.Proofs.YtapiedeekbfpnaaGreatDoor
open Go.RowKit Go.Shelf Go.Maps Go.WideMaps Go.Sort

/-- A part of a text, by the way that leads to it. -/
def subO : List Bool → Code → Code
  | [], c => c
  | false :: p, .seq a _ => subO p a
  | true :: p, .seq _ b => subO p b
  | _ :: p, .block _ c => subO p c
  | _ :: p, .loop c => subO p c
  | false :: p, .cond _ a _ => subO p a
  | true :: p, .cond _ _ b => subO p b
  | false :: p, .rangeFunc _ _ a _ => subO p a
  | true :: p, .rangeFunc _ _ _ b => subO p b
  | _ :: _, c => c
/-- The loop's record. -/
def apR (ca cb : Code) (fn : FuncId) (sv : Value) (Bs D : Nat) (st : LoopState) (pend : Option Code) : Loop :=
  { state := st, pending := pend, fn, tmps := #[.slice none 0 0, sv, .pointer (some ⟨Bs, 0, none⟩), undef, .slice none 0 0, undef, sv, undef, undef, undef, undef, undef, undef], params := #[7], assign := ca, body := cb, defers := D }
/-- Between two rounds. -/
structure ApF (ca cb : Code) (w0 : World) (fn : FuncId) (sv : Value) (Bs l D : Nat) (F : List Fl) (W : World) : Prop where
  box : ∃ v, W.heap[Bs]? = some (.cells #[v] 22 (0, 0)) ∧ W.ownsRow w0.heap.size 35 3 v F.length (flCells F)
  L : W.heap[l]? = some (.loop (apR ca cb fn sv Bs D .ready none))
  K : W.heap[D]? = some (.deferred (some []))
  below : Below w0.heap.size w0 W
theorem ap_abides (ca cb : Code) (w0 : World) (fn : FuncId) (sv : Value) (Bs l D B : Nat) (hB : w0.heap.size ≤ B) : AbidesFrom B (ApF ca cb w0 fn sv Bs l D) := fun s W W' row h hg hrow => by
  have hrow' : ∀ r, row = some r → ∃ o : Obj, W.heap[r]? = some o ∧ o.isWalk = true := fun r e => (hrow r e).2
  obtain ⟨v, hv, hr⟩ := h.box
  exact ⟨⟨v, (grownBy_keeps hg hrow' hv rfl).trans hv, ownsRow_abides_a hr hg hrow'⟩, (grownBy_keeps hg hrow' h.L rfl).trans h.L, (grownBy_keeps hg hrow' h.K rfl).trans h.K,
    h.below.grown hg h.below.size (fun k e => Nat.le_trans hB (hrow k e).1)⟩

set_option maxRecDepth 100000 in
set_option maxHeartbeats 4000000 in
theorem apYieldF (ca cb : Code) (hca : ca = (subO [true, false, true, false, false] (Tryz.f124.body.getD .skip))) (hcb : cb = (subO [true, false, true, false, true] (Tryz.f124.body.getD .skip))) (F : Fence) (m : Nat) (w0 : World) (fn : FuncId) (hfn : F.fn fn) (sv : Value) (Bs l D : Nat) (hBl : Bs ≠ l) (hDl : D ≠ l) (hDB : D ≠ Bs) (h0B : w0.heap.size ≤ Bs) (h0l : w0.heap.size ≤ l) (fs : List Fl) (x : Fl) (W : World) (h : ApF ca cb w0 fn sv Bs l D fs W) (hlen : fs.length ≤ 1000000) :
    YieldAt F m Tryz.prog l #[encF x] W fun e W' => e = .returned (.bool true) ∧ ApF ca cb w0 fn sv Bs l D (fs ++ [x]) W' ∧ KeepsWalks W W' := by
  obtain ⟨i0, hi, hz0, hz1, hz2⟩ := info_p infF
  obtain ⟨v, hv, hrow⟩ := h.box
  refine ⟨fn, #[.slice none 0 0, sv, .pointer (some ⟨Bs, 0, none⟩), undef, .slice none 0 0, undef, sv, encF x, undef, undef, undef, undef, undef], ca, cb, by simpa [apR] using run_yield (P := Tryz.prog) (args := #[encF x]) h.L rfl, roundIn_of_wpIn hfn ?_⟩
  obtain ⟨p, t, r⟩ := x
  have hl : l < W.heap.size := (Array.getElem?_eq_some_iff.1 h.L).1
  obtain ⟨W1, hW1⟩ : ∃ W1, W1 = W.alloc (.cells #[.string p, .string t, .bool r] 35) := ⟨_, rfl⟩
  have ho1 : ∀ b, b < W.heap.size → W1.heap[b]? = W.heap[b]? := fun b hb => by rw [hW1]; exact Below.heap_alloc _ _ b hb
  have hs1 : W1.heap.size = W.heap.size + 1 := by rw [hW1]; exact World.size_alloc _ _
  have hL1 : W1.heap[l]? = some (.loop (apR ca cb fn sv Bs D .ready none)) := (ho1 l hl).trans h.L
  have hbr := run_beginRound (P := Tryz.prog) hL1 rfl
  obtain ⟨W2, hW2⟩ : ∃ W2, W1.putObj l (.loop { apR ca cb fn sv Bs D .ready none with state := .busy }) = W2 := ⟨_, rfl⟩
  rw [hW2] at hbr
  have hg2 : W1.grownBy W2 (some l) := by rw [← hW2]; exact grownBy_putObj_a _ _ _
  have hk2 : KeepsWalks W W2 := by
    have hk1 : KeepsWalks W W1 := by rw [hW1]; exact KeepsWalks.alloc _ _
    refine hk1.trans ?_
    rw [← hW2]
    exact KeepsWalks.putObj _ hL1 rfl
  have hBw : Bs < W.heap.size := (Array.getElem?_eq_some_iff.1 hv).1
  have hDw : D < W.heap.size := (Array.getElem?_eq_some_iff.1 h.K).1
  have hv2 : W2.heap[Bs]? = some (.cells #[v] 22 (0, 0)) := by rw [← hW2]; exact (World.putObj_heap_other hBl).trans ((ho1 Bs hBw).trans hv)
  have hK2 : W2.heap[D]? = some (.deferred (some [])) := by rw [← hW2]; exact (World.putObj_heap_other hDl).trans ((ho1 D hDw).trans h.K)
  have hL2 : W2.heap[l]? = some (.loop { apR ca cb fn sv Bs D .ready none with state := .busy }) := by rw [← hW2]; exact World.putObj_heap_same (by omega)
  have hX2 : W2.heap[W.heap.size]? = some (.cells #[.string p, .string t, .bool r] 35 (0, 0)) := by
    rw [← hW2]
    refine (World.putObj_heap_other (by omega)).trans ?_
    rw [hW1]
    exact World.alloc_heap_new W _
  have hs2 : W2.heap.size = W.heap.size + 1 := by rw [← hW2, ← hs1]; simp
  have hrow1 : W1.ownsRow w0.heap.size 35 3 v fs.length (flCells fs) := by rw [hW1]; exact hrow.alloc _
  have hrow2 : W2.ownsRow w0.heap.size 35 3 v fs.length (flCells fs) := hrow1.kept hg2 (ownsRow_ne_a hrow1 hL1 (fun cur e => by cases e))
  have hb1 : Below w0.heap.size w0 W1 := by rw [hW1]; exact h.below.alloc h.below.size _
  have hb2 : Below w0.heap.size w0 W2 := hb1.grown hg2 hb1.size (fun k e => by cases e; exact h0l)
  obtain ⟨hc2, hf2⟩ := cell_of_box_a hv2
  have x0 : W2.cell? ⟨W.heap.size, 0, none⟩ = some (.string p) := Lib.cell_of_heap hX2 0
  have x1 : W2.cell? ⟨W.heap.size, 1, none⟩ = some (.string t) := Lib.cell_of_heap hX2 1
  have x2 : W2.cell? ⟨W.heap.size, 2, none⟩ = some (.bool r) := Lib.cell_of_heap hX2 2
  have hBlt : Bs < W2.heap.size := by omega
  have hl2 : l < W2.heap.size := by omega
  have hDlt : D < W2.heap.size := by omega
  have ne_of : ∀ {j : Nat} {o : Obj}, W2.heap[j]? = some o → (∀ cur, o ≠ .cells cur 35 (0, 0)) → some j ≠ v.ownBlock := fun hj hno => by
    rcases ownsRow_ne_a hrow2 hj hno with e | e
    · rw [e]; simp
    · exact fun e' => e e'.symm
  have HCA : Hid (ca = (subO [true, false, true, false, false] (Tryz.f124.body.getD .skip))) := hca
  have HCB : Hid (cb = (subO [true, false, true, false, true] (Tryz.f124.body.getD .skip))) := hcb
  clear hca hcb
  unfold encF
  simp only
  conv => arg 4; rw [HCA.out]; whnf
  gi_wp2_with gi_round_op_a
  refine ⟨W2, by rw [← hW1]; exact hbr, ?_⟩
  clear hW1 hW2 hs1 hs2 ho1
  conv => arg 4; rw [HCB.out]; whnf
  gi_wp2_with (first
    | (gi_at_builtin; refine wpListIn_append_own _ rfl _ _ 22 rfl w0.heap.size 35 i0 (.agg #[.string ⟨#[]⟩, .string ⟨#[]⟩, .bool false]) 3 40 Tryz.underlying22 hi hz0 hz1 hz2 rfl (by decide) _ _ _ rfl (hrow2.alloc _) ⟨W2.heap.size, 0, none⟩ 1 1 [.string p, .string t, .bool r] rfl rfl (new_cells W2 _ _) (by simp [Value.oneCell']) (by unfold maxLen; omega) (by omega) (by have := hb2.size; simp; omega) ?_; intro v' w3 hown' hg3 hnil3
       have hv3 : w3.heap[Bs]? = some (.cells #[v] 22 (0, 0)) := (hg3.block Bs (by simp; omega) (ne_of hv2 (fun cur e => by cases e))).trans ((Below.heap_alloc _ _ Bs hBlt).trans hv2)
       obtain ⟨hc3, hf3⟩ := cell_of_box_a hv3
       obtain ⟨g', cap', cur', rfl, hbase', hgb', hr1, hr2, hr3, hr4⟩ : ∃ g' cap' cur', v' = .slice (some ⟨g', 0, none⟩) (fs.length + 1) cap' ∧ w0.heap.size ≤ g' ∧ w3.heap[g']? = some (.cells cur' 35 (0, 0)) ∧ fs.length + 1 ≤ cap' ∧ cap' ≤ maxLen ∧ cur'.size = cap' * 3 ∧ cur'.toList.take ((fs.length + 1) * 3) = flCells fs ++ [.string p, .string t, .bool r] := by
         rcases hown'.2 with ⟨_, h0⟩ | h'
         · exact absurd h0 (by omega)
         · exact h'
       go_frame)
    | gi_round_op_a)
  have hg3' : (W2.alloc (.cells #[.string p, .string t, .bool r] 35)).grownBy w3 v.ownBlock := hg3
  have hL3 : w3.heap[l]? = some (.loop { apR ca cb fn sv Bs D .ready none with state := .busy }) := (hg3'.block l (by simp; omega) (ne_of hL2 (fun cur e => by cases e))).trans ((Below.heap_alloc _ _ l hl2).trans hL2)
  have hK3 : w3.heap[D]? = some (.deferred (some [])) := (hg3'.block D (by simp; omega) (ne_of hK2 (fun cur e => by cases e))).trans ((Below.heap_alloc _ _ D hDlt).trans hK2)
  obtain ⟨w4, hw4⟩ : ∃ w4, w3.setCell ⟨Bs, 0, none⟩ (.slice (some ⟨g', 0, none⟩) (fs.length + 1) cap') = w4 := ⟨_, rfl⟩
  rw [hw4]
  have hg4 : w3.grownBy w4 (some Bs) := by rw [← hw4]; exact grownBy_setCell0_a _ _ _
  have hv4 : w4.heap[Bs]? = some (.cells #[.slice (some ⟨g', 0, none⟩) (fs.length + 1) cap'] 22 (0, 0)) := by rw [← hw4]; exact heap_setCell_box_a _ hv3
  have hL4 : w4.heap[l]? = some (.loop { apR ca cb fn sv Bs D .ready none with state := .busy }) := (hg4.block l (Array.getElem?_eq_some_iff.1 hL3).1 (fun e => hBl (by cases e; rfl))).trans hL3
  have hK4 : w4.heap[D]? = some (.deferred (some [])) := (hg4.block D (Array.getElem?_eq_some_iff.1 hK3).1 (fun e => hDB (by cases e; rfl))).trans hK3
  have hrow4 := hown'.kept hg4 (ownsRow_ne_a hown' hv3 (fun cur e => by cases e))
  have hl4 : l < w4.heap.size := (Array.getElem?_eq_some_iff.1 hL4).1
  have hb3 : Below w0.heap.size w0 w3 := (hb2.alloc hb2.size _).grown hg3' (by have := hb2.size; simp; omega) (fun k e => (hrow2.lt k e).1)
  have hb4 : Below w0.heap.size w0 w4 := hb3.grown hg4 hb3.size (fun k e => by cases e; exact h0B)
  have hk4 : KeepsWalks W w4 := ((hk2.trans (KeepsWalks.alloc _ _)).trans (KeepsWalks.of_grownBy hg3' (ownsRow_not_walk_a (hrow2.alloc _)))).trans (by rw [← hw4]; exact KeepsWalks.setCell _ _ _)
  clear hw4
  have ec : flCells (fs ++ [⟨p, t, r⟩]) = flCells fs ++ [.string p, .string t, .bool r] := by simp [flCells]
  refine ⟨_, _, run_endRound none hL4, rfl, ⟨⟨_, (World.putObj_heap_other hBl).trans hv4, ?_⟩, World.putObj_heap_same hl4, (World.putObj_heap_other hDl).trans hK4, hb4.grown (grownBy_putObj_a _ _ _) hb4.size (fun k e => by cases e; exact h0l)⟩, hk4.trans (KeepsWalks.putObj _ hL4 rfl)⟩
  have := hrow4.kept (grownBy_putObj_a w4 l (.loop { { apR ca cb fn sv Bs D .ready none with state := .busy } with state := if (none : Option Code).isNone then .ready else .done, pending := none })) (ownsRow_ne_a hrow4 hL4 (fun cur e => by cases e))
  rw [ec, List.length_append]
  exact this
end Go.Proofs.YtapiedeekbfpnaaGreatDoor

/- slices.AppendSeq, Collect and SortedFunc of the files of a map; laidOver. -/
namespace Go.Proofs.YtapiedeekbfpnaaGreatDoor
open Go.RowKit Go.Shelf Go.Maps Go.WideMaps Go.Sort

/-- How the files of a map are answered. -/
def SqP (D0 : DataW Unit) (w : World) (e : Ending) (w' : World) : Prop := ∃ (v : Value) (fs : List Fl), e = .returned v ∧ AllF D0 fs ∧ w'.ownsRow w.heap.size 35 3 v fs.length (flCells fs) ∧ Below w.heap.size w w'

set_option maxRecDepth 100000 in
set_option maxHeartbeats 4000000 in
theorem appendSeqF (g : Nat) (lb : Array Value) (eg : ∀ args w, (callFunc g args).run Tryz.prog w = .ok (.enter g args) w) (D0 : DataW Unit) (N : Nat) (hN : N ≤ 1000000) (w : World) (hseq : SeqStopsK Fence.wide 3 Tryz.prog g lb (fun f : Fl => #[encF f]) KeepsWalks (AllF D0) (fun _ => True) N w) :
    CallsIn Fence.wide 4 Tryz.prog 124 #[.slice none 0 0, .func (.func g) #[] lb] w (SqP D0 w) := by
  obtain ⟨ca, hca⟩ : ∃ ca, ca = (subO [true, false, true, false, false] (Tryz.f124.body.getD .skip)) := ⟨_, rfl⟩
  obtain ⟨cb, hcb⟩ : ∃ cb, cb = (subO [true, false, true, false, true] (Tryz.f124.body.getD .skip)) := ⟨_, rfl⟩
  have hla := hca.symm
  have hlb := hcb.symm
  conv at hla => lhs; whnf
  conv at hlb => lhs; whnf
  have HCA : Hid (ca = (subO [true, false, true, false, false] (Tryz.f124.body.getD .skip))) := hca
  have HCB : Hid (cb = (subO [true, false, true, false, true] (Tryz.f124.body.getD .skip))) := hcb
  clear hca hcb
  have HSeq : Hid (SeqStopsK Fence.wide 3 Tryz.prog g lb (fun f : Fl => #[encF f]) KeepsWalks (AllF D0) (fun _ => True) N w) := hseq
  have HEg : Hid (∀ args w, (callFunc g args).run Tryz.prog w = .ok (.enter g args) w) := eg
  clear hseq eg
  refine callsIn_of_wp_marks Tryz.func124 rfl trivial ?_ rfl
  simp only [Tryz.ntmps124, List.size_toArray, List.length_cons, List.length_nil, Nat.reduceAdd, Nat.reduceSub, Array.replicate_succ, Array.replicate_zero, List.push_toArray, List.append_toArray, List.nil_append, List.cons_append]
  gi_wp2
  rw [hla, hlb]
  clear hla hlb
  refine wpIn_rangeFunc ?_
  intro fn hfn
  obtain ⟨W0, hW0⟩ : ∃ W0, w.alloc (.cells #[.slice none 0 0] 22) = W0 := ⟨_, rfl⟩
  have hs0 : W0.heap.size = w.heap.size + 1 := by rw [← hW0]; simp
  have hv0 : W0.heap[w.heap.size]? = some (.cells #[.slice none 0 0] 22 (0, 0)) := by rw [← hW0]; exact World.alloc_heap_new w _
  have hb0 : Below w.heap.size w W0 := by rw [← hW0]; exact (Below.refl _ w).alloc (Nat.le_refl _) _
  rw [hW0]
  obtain ⟨W1, hW1⟩ : ∃ W1, (W0.alloc (.deferred (some []))).alloc (.loop (apR ca cb fn (.func (.func g) #[] lb) w.heap.size W0.heap.size .ready none)) = W1 := ⟨_, rfl⟩
  have hold : ∀ k, k < W0.heap.size → W1.heap[k]? = W0.heap[k]? := fun k hk => by
    rw [← hW1]; exact (Below.heap_alloc _ _ k (by simp; omega)).trans (Below.heap_alloc _ _ k hk)
  have hb1 : Below w.heap.size w W1 := by rw [← hW1]; exact (hb0.alloc hb0.size _).alloc (by have := hb0.size; simp; omega) _
  have hs1 : W1.heap.size = W0.heap.size + 2 := by rw [← hW1]; simp
  have hM : ApF ca cb w fn (.func (.func g) #[] lb) w.heap.size (W0.heap.size + 1) W0.heap.size [] W1 :=
    ⟨⟨_, (hold w.heap.size (by omega)).trans hv0, World.ownsRow_nil _ _ _ _⟩,
     by rw [← hW1]; have := World.alloc_heap_new (W0.alloc (.deferred (some []))) (.loop (apR ca cb fn (.func (.func g) #[] lb) w.heap.size W0.heap.size .ready none)); rwa [World.size_alloc] at this,
     by rw [← hW1]; exact (Below.heap_alloc _ _ _ (by simp)).trans (World.alloc_heap_new W0 _), hb1⟩
  refine ⟨W0.heap.size + 1, [{ target := .collected W0.heap.size, args := #[] }], W1, { target := .fn (.func g) lb, args := #[.func (.yield (W0.heap.size + 1)) #[] #[]] }, W1, g,
    #[.func (.yield (W0.heap.size + 1)) #[] #[]] ++ lb, W1, ?_, ?_, ?_, ?_, fun _ => by omega, ?_⟩
  · rw [← hW1]; exact run_enterLoop_outer _ _ _ _ _
  · simp [resolve, go_sem]
  · intro f' hf'; trivial
  · simp [invoke, go_sem, HEg.out]
  · refine (HSeq.out (W0.heap.size + 1) (ApF ca cb w fn (.func (.func g) #[] lb) w.heap.size (W0.heap.size + 1) W0.heap.size) (fun _ _ => False) W1 hb1 (ap_abides ca cb _ _ _ _ _ _ _ hb1.size) (fun _ _ _ _ h => h.elim)
      (fun pre x W hJ hl => ?_) hM).mono ?_
    · obtain ⟨f1, t1, a1, b1, hy, hR⟩ := apYieldF ca cb HCA.out HCB.out Fence.wide (3 - 1) w fn hfn _ w.heap.size (W0.heap.size + 1) W0.heap.size (by omega) (by omega) (by omega) (Nat.le_refl _) (by omega) pre x W hJ (by omega)
      exact ⟨f1, t1, a1, b1, hy, hR.mono fun e W' h => .inl h⟩
    rintro e W2 ⟨⟨v0, rfl⟩, ⟨fs, hS, h2⟩ | ⟨_, _, h⟩⟩
    · obtain ⟨v, hv, hrow⟩ := h2.box
      have hend := run_endLoop (P := Tryz.prog) h2.L (by simp [apR])
      obtain ⟨W3, hW3⟩ : ∃ W3, W2.putObj (W0.heap.size + 1) (.loop { apR ca cb fn (.func (.func g) #[] lb) w.heap.size W0.heap.size .ready none with state := .exhausted }) = W3 := ⟨_, rfl⟩
      rw [hW3] at hend
      have hg3 : W2.grownBy W3 (some (W0.heap.size + 1)) := by rw [← hW3]; exact grownBy_putObj_a _ _ _
      have hv3 : W3.heap[w.heap.size]? = some (.cells #[v] 22 (0, 0)) := by rw [← hW3]; exact (World.putObj_heap_other (by omega)).trans hv
      have hK3 : W3.heap[W0.heap.size]? = some (.deferred (some [])) := by rw [← hW3]; exact (World.putObj_heap_other (by omega)).trans h2.K
      have hrow3 := hrow.kept hg3 (ownsRow_ne_a hrow h2.L (fun cur e => by cases e))
      have hb3 : Below w.heap.size w W3 := h2.below.grown hg3 h2.below.size (fun k e => by cases e; omega)
      obtain ⟨hc3, hf3⟩ := cell_of_box_a hv3
      clear hW3
      refine ⟨none, W3, hend, ?_⟩
      gi_wp2
      rw [← hs0]
      refine ⟨by simp, .inl ⟨_, _, rfl, run_takeDeferred hK3, ?_⟩⟩
      exact ⟨_, results_tmp rfl _ _ _, v, fs, rfl, hS, hrow3.kept (grownBy_putObj_a _ _ _) (ownsRow_ne_a hrow3 hK3 (fun cur e => by cases e)), hb3.grown (grownBy_putObj_a _ _ _) hb3.size (fun k e => by cases e; omega)⟩
    · exact h.elim
end Go.Proofs.YtapiedeekbfpnaaGreatDoor

/- Sorts, and sorted keys: the contracts of the shelf, laid at this program (by wip/trlay.py). -/
namespace Go.Proofs.YtapiedeekbfpnaaGreatDoor
open Go.RowKit Go.Maps Go.Sort Go.Shelf Go.Lib

def sortFF_ren : Go.Shelf.Ren := ⟨fun | 6 => 90 | 15 => 126 | 14 => 125 | 28 => 149 | 29 => 150 | 20 => 141 | 21 => 142 | 22 => 143 | 23 => 144 | 24 => 145 | 25 => 146 | 26 => 147 | 27 => 148 | 46 => 165 | 47 => 166 | 48 => 167 | 49 => 168 | 50 => 169 | 57 => 177 | n => n, fun | 22 => 22 | 24 => 35 | 25 => 60 | 3 => 3 | 39 => 134 | 0 => 0 | 53 => 126 | 55 => 142 | 4 => 4 | 46 => 145 | 45 => 144 | 50 => 91 | 5 => 5 | 9 => 9 | 66 => 162 | 70 => 166 | 76 => 173 | 77 => 174 | n => n, fun | n => n⟩
theorem sortFF : Go.Proofs.SlLaysF0.n6 Tryz.prog sortFF_ren := {
  mixed := by kernel_rfl
  f6 := ⟨Tryz.f90.name, by decide, Tryz.func90.trans (congrArg some (by kernel_rfl))⟩
  f14 := ⟨Tryz.f125.name, by decide, Tryz.func125.trans (congrArg some (by kernel_rfl))⟩
  f15 := Tryz.func126.trans (congrArg some (by kernel_rfl))
  f20 := ⟨Tryz.f141.name, by decide, Tryz.func141.trans (congrArg some (by kernel_rfl))⟩
  f21 := ⟨Tryz.f142.name, by decide, Tryz.func142.trans (congrArg some (by kernel_rfl))⟩
  f22 := ⟨Tryz.f143.name, by decide, Tryz.func143.trans (congrArg some (by kernel_rfl))⟩
  f23 := ⟨Tryz.f144.name, by decide, Tryz.func144.trans (congrArg some (by kernel_rfl))⟩
  f24 := ⟨Tryz.f145.name, by decide, Tryz.func145.trans (congrArg some (by kernel_rfl))⟩
  f25 := ⟨Tryz.f146.name, by decide, Tryz.func146.trans (congrArg some (by kernel_rfl))⟩
  f26 := ⟨Tryz.f147.name, by decide, Tryz.func147.trans (congrArg some (by kernel_rfl))⟩
  f27 := ⟨Tryz.f148.name, by decide, Tryz.func148.trans (congrArg some (by kernel_rfl))⟩
  f28 := Tryz.func149.trans (congrArg some (by kernel_rfl))
  f29 := Tryz.func150.trans (congrArg some (by kernel_rfl))
  f46 := ⟨Tryz.f165.name, by decide, Tryz.func165.trans (congrArg some (by kernel_rfl))⟩
  f47 := Tryz.func166.trans (congrArg some (by kernel_rfl))
  f48 := Tryz.func167.trans (congrArg some (by kernel_rfl))
  f49 := ⟨Tryz.f168.name, by decide, Tryz.func168.trans (congrArg some (by kernel_rfl))⟩
  f50 := ⟨Tryz.f169.name, by decide, Tryz.func169.trans (congrArg some (by kernel_rfl))⟩
  f57 := ⟨Tryz.f177.name, by decide, Tryz.func177.trans (congrArg some (by kernel_rfl))⟩
  t0 := Tryz.underlying0
  a0 := Tryz.isAgg0
  z0 := Tryz.sizeOf0
  v0 := Tryz.zeroValue0
  t3 := Tryz.underlying3
  a3 := Tryz.isAgg3
  z3 := Tryz.sizeOf3
  v3 := Tryz.zeroValue3
  t4 := Tryz.underlying4
  a4 := Tryz.isAgg4
  z4 := Tryz.sizeOf4
  v4 := Tryz.zeroValue4
  t5 := Tryz.underlying5
  a5 := Tryz.isAgg5
  z5 := Tryz.sizeOf5
  v5 := Tryz.zeroValue5
  t9 := Tryz.underlying9
  a9 := Tryz.isAgg9
  z9 := Tryz.sizeOf9
  v9 := Tryz.zeroValue9
  t22 := Tryz.underlying22
  a22 := Tryz.isAgg22
  z22 := Tryz.sizeOf22
  v22 := Tryz.zeroValue22
  t25 := Tryz.underlying60
  a25 := Tryz.isAgg60
  z25 := Tryz.sizeOf60
  v25 := Tryz.zeroValue60
  t39 := Tryz.underlying134
  a39 := Tryz.isAgg134
  z39 := Tryz.sizeOf134
  v39 := Tryz.zeroValue134
  t45 := Tryz.underlying144
  a45 := Tryz.isAgg144
  z45 := Tryz.sizeOf144
  v45 := Tryz.zeroValue144
  t46 := Tryz.underlying145
  a46 := Tryz.isAgg145
  z46 := Tryz.sizeOf145
  v46 := Tryz.zeroValue145
  t50 := Tryz.underlying91
  a50 := Tryz.isAgg91
  z50 := Tryz.sizeOf91
  v50 := Tryz.zeroValue91
  t53 := Tryz.underlying126
  a53 := Tryz.isAgg126
  z53 := Tryz.sizeOf126
  v53 := Tryz.zeroValue126
  t55 := Tryz.underlying142
  a55 := Tryz.isAgg142
  z55 := Tryz.sizeOf142
  v55 := Tryz.zeroValue142
  t66 := Tryz.underlying162
  a66 := Tryz.isAgg162
  z66 := Tryz.sizeOf162
  v66 := Tryz.zeroValue162
  t70 := Tryz.underlying166
  a70 := Tryz.isAgg166
  z70 := Tryz.sizeOf166
  v70 := Tryz.zeroValue166
  t76 := Tryz.underlying173
  a76 := Tryz.isAgg173
  z76 := Tryz.sizeOf173
  v76 := Tryz.zeroValue173
  t77 := Tryz.underlying174
  a77 := Tryz.isAgg174
  z77 := Tryz.sizeOf174
  v77 := Tryz.zeroValue174 }

theorem sortFF_any {α : Type} [Inhabited α] (enc : α → List Value) (hk : ∀ x, (enc x).length = 3) (h1 : ∀ x, ∀ v ∈ enc x, v.oneCell' = true) (cf : α → α → Int) (hO : SWO (ltOf cf)) (g : Nat) (cb : Array Value) (blk off cap : Nat) (d : Array α) (w : World) (eg : ∀ args w, (callFunc g args).run Tryz.prog w = .ok (.enter g args) w) (hcmp : CmpLays Tryz.prog g cb enc 3 cf blk off d.size w) (hH : HoldsK enc 3 w blk off d) (hblk : blk < w.heap.size) (hsz : d.size < 4611686018427387904) :
    Calls Tryz.prog 90 #[.slice (some ⟨blk, off, none⟩) d.size cap, .func (.func g) #[] cb] w fun e w' => e = .returned (.tuple #[]) ∧ ∃ d' n os, PermIn 0 d.size d d' ∧ SortedIn (ltOf cf) 0 d.size d' ∧ w' = sortWorldK enc 3 w blk off n d' os :=
  AnyQ.slices_SortFunc sortFF 3 Tryz.isAgg35 Tryz.sizeOf35 enc hk h1 cf hO g cb blk off cap d w eg hcmp hH hblk hsz

theorem sortFF_none (p : Option Addr) (cap : Nat) (fv : Value) (w : World) : Calls Tryz.prog 90 #[.slice p 0 cap, fv] w fun e w' => e = .returned (.tuple #[]) ∧ w' = w :=
  AnyF.slices_SortFunc_none { sortFF with } p cap fv w
end Go.Proofs.YtapiedeekbfpnaaGreatDoor

/- What is made, sorted by paths. -/
namespace Go.Proofs.YtapiedeekbfpnaaGreatDoor
open Go.RowKit Go.Shelf Go.Maps Go.WideMaps Go.Sort Go.Lib

theorem flat_get {α : Type} (enc : α → List Value) (a b c : α → Value) (he : ∀ x, enc x = [a x, b x, c x]) : ∀ (l : List α) (j : Nat) (hj : j < l.length), (l.flatMap enc)[j * 3]? = some (a l[j]) ∧ (l.flatMap enc)[j * 3 + 1]? = some (b l[j]) ∧ (l.flatMap enc)[j * 3 + 2]? = some (c l[j])
  | [], j, hj => by simp at hj
  | x :: l, j, hj => by
    have e : (x :: l).flatMap enc = [a x, b x, c x] ++ l.flatMap enc := by rw [List.flatMap_cons, he]
    cases j with
    | zero => rw [e]; exact ⟨rfl, rfl, rfl⟩
    | succ j =>
      have h := flat_get enc a b c he l j (by simpa using hj)
      rw [e, show (j + 1) * 3 = j * 3 + 3 by omega]
      exact ⟨by simpa using h.1, by simpa using h.2.1, by simpa using h.2.2⟩
theorem flat_len {α : Type} (enc : α → List Value) (hk : ∀ x, (enc x).length = 3) : ∀ l : List α, (l.flatMap enc).length = l.length * 3
  | [] => rfl
  | x :: l => by rw [List.flatMap_cons, List.length_append, flat_len enc hk l, hk, List.length_cons]; omega
section
variable {α : Type} [Inhabited α]
theorem flat3 (enc : α → List Value) (a b c : α → Value) (he : ∀ x, enc x = [a x, b x, c x]) (l : List α) : (flatK enc 3 l.toArray).toList = l.flatMap enc := by
  have hk : ∀ x, (enc x).length = 3 := fun x => by rw [he]; rfl
  apply List.ext_getElem?
  intro t
  by_cases ht : t < l.length * 3
  · have h1 : (flatK enc 3 l.toArray).toList[t]? = some ((enc l.toArray[t / 3]!)[t % 3]!) := by
      rw [Array.getElem?_toList]
      have hs : t < (flatK enc 3 l.toArray).size := by rw [size_flatK]; simpa using ht
      rw [Array.getElem?_eq_getElem hs]
      congr 1
      have := get_flatK enc 3 l.toArray t (by simpa using ht)
      rwa [getElem!_pos _ t hs] at this
    rw [h1]
    have hj : t / 3 < l.length := by omega
    have hg : l.toArray[t / 3]! = l[t / 3] := by
      rw [getElem!_pos _ _ (by simpa using hj)]
      simp
    rw [hg, he]
    have k := flat_get enc a b c he l (t / 3) hj
    have e0 : t = t / 3 * 3 + t % 3 := by omega
    have h3 : t % 3 < 3 := Nat.mod_lt _ (by decide)
    generalize hr : t % 3 = r at e0 h3
    rw [hr] at *
    match r, h3 with
    | 0, _ => conv => rhs; rw [e0]
              exact k.1.symm
    | 1, _ => conv => rhs; rw [e0]
              exact k.2.1.symm
    | 2, _ => conv => rhs; rw [e0]
              exact k.2.2.symm
  · rw [List.getElem?_eq_none (by rw [Array.length_toList, size_flatK]; simp; omega), List.getElem?_eq_none (by rw [flat_len enc hk]; omega)]

theorem holdsK_row {w : World} {base g cap n : Nat} {e : TypeId} (enc : α → List Value) (a b c : α → Value) (he : ∀ x, enc x = [a x, b x, c x]) (l : List α) (hn : n = l.length) (h : w.ownsRow base e 3 (.slice (some ⟨g, 0, none⟩) n cap) n (l.flatMap enc)) : HoldsK enc 3 w g 0 l.toArray := by
  rcases h.2 with ⟨h1, _⟩ | ⟨g2, cap2, cur, hv, _, hb, _, _, _, h4⟩
  · cases h1
  · injection hv with hv _ _
    injection hv with hv
    injection hv with hv
    subst hv
    intro j hj
    have hj' : j < l.length * 3 := by rw [size_flatK] at hj; simpa using hj
    refine ⟨?_, by simp [World.frozen?, hb]⟩
    have hf := flat3 enc a b c he l
    have h5 : (cur.toList.take (n * 3))[j]? = (flatK enc 3 l.toArray).toList[j]? := by rw [h4, hf]
    rw [List.getElem?_take_of_lt (by omega)] at h5
    simp only [World.cell?, hb, Nat.zero_add]
    simp only [Option.isSome_none, Bool.false_eq_true, if_false]
    rw [← Array.getElem?_toList, h5, Array.getElem?_toList, Array.getElem?_eq_getElem hj, getElem!_pos (flatK enc 3 l.toArray) j hj]
    rfl
theorem rowK_put {w : World} {base g cap n m : Nat} {e : TypeId} {os : Array Obj} (enc : α → List Value) (a b c : α → Value) (he : ∀ x, enc x = [a x, b x, c x]) (l l2 : List α) (hn : n = l.length) (hl : l2.length = l.length) (h : w.ownsRow base e 3 (.slice (some ⟨g, 0, none⟩) n cap) n (l.flatMap enc)) :
    (sortWorldK enc 3 w g 0 m l2.toArray os).ownsRow base e 3 (.slice (some ⟨g, 0, none⟩) n cap) n (l2.flatMap enc) ∧ w.grownBy (sortWorldK enc 3 w g 0 m l2.toArray os) (some g) := by
  have hk : ∀ x, (enc x).length = 3 := fun x => by rw [he]; rfl
  constructor
  · rcases h.2 with ⟨h1, _⟩ | ⟨g2, cap2, cur, hv, hbase, hb, hc1, hc2, hc3, h4⟩
    · cases h1
    · injection hv with hv _ hv3
      injection hv with hv
      injection hv with hv
      subst hv hv3
      have hg : g < w.heap.size := (Array.getElem?_eq_some_iff.1 hb).1
      have hfs : (flatK enc 3 l2.toArray).size = n * 3 := by rw [size_flatK]; simp; omega
      refine ⟨by rw [flat_len enc hk, hl, hn], .inr ⟨g, cap, putCells id 0 (flatK enc 3 l2.toArray) cur, rfl, hbase, ?_, hc1, hc2, by simp [putCells, hc3], ?_⟩⟩
      · unfold sortWorldK putRowK
        rw [heap_grow_old _ _ (by simpa using hg)]
        simp [putRow, mapBlock, Sort.ahead, Array.getElem?_modify, hb, onCells]
      · rw [← flat3 enc a b c he l2]
        apply List.ext_getElem?
        intro j
        by_cases hj : j < n * 3
        · have hj2 : j < (flatK enc 3 l2.toArray).size := by omega
          have hcur : j < cur.size := by rw [hc3]; have := Nat.mul_le_mul_right 3 hc1; omega
          rw [List.getElem?_take_of_lt hj, Array.getElem?_toList, Array.getElem?_toList]
          have hj3 : j < l2.length * 3 := by rw [size_flatK] at hj2; simpa using hj2
          rw [Array.getElem?_eq_getElem hj2, ← getElem!_pos (flatK enc 3 l2.toArray) j hj2]
          simp [putCells, hj3, hcur]
        · rw [List.getElem?_take_eq_none (by omega), List.getElem?_eq_none (by rw [Array.length_toList]; omega)]
  · unfold sortWorldK putRowK
    refine ⟨rfl, rfl, rfl, by simp, fun k hk hne => ?_⟩
    rw [heap_grow_old _ _ (by simpa using hk)]
    have : g ≠ k := fun e => hne (by rw [e])
    simp [putRow, mapBlock, Sort.ahead, Array.getElem?_modify, this]
end


set_option maxHeartbeats 2000000 in
set_option maxRecDepth 100000 in
theorem comparePaths_w (a b : Fl) (w : World) :
    Calls Tryz.prog 39 #[.agg #[.string a.pa, .string a.tx, .bool a.rn], .agg #[.string b.pa, .string b.tx, .bool b.rn]] w fun e w' => e = .returned (.int .i64 (cmpB a.pa b.pa)) ∧ w' = (w.alloc (.cells #[.string a.pa, .string a.tx, .bool a.rn] 35)).alloc (.cells #[.string b.pa, .string b.tx, .bool b.rn] 35) := by
  obtain ⟨p, t, r⟩ := a
  obtain ⟨p2, t2, r2⟩ := b
  have HC : Hid (∀ W, Calls Tryz.prog 40 #[.string p, .string p2] W fun e w' => e = .returned (.int .i64 (cmpB p p2)) ∧ w' = W) := Compare_s p p2
  simp only
  generalize cmpB p p2 = r9 at *
  go_enter Tryz.func39, Tryz.ntmps39
  go_wp2_with (first | (go_at_call 40; refine (HC.out _).mono ?_; rintro e w1 ⟨rfl, hw⟩; subst w1) | go_in)
  go_ret
  exact ⟨rfl, rfl⟩

def encT (x : ByteArray × ByteArray × Bool) : List Value := [.string x.1, .string x.2.1, .bool x.2.2]
def tri (f : Fl) : ByteArray × ByteArray × Bool := (f.pa, f.tx, f.rn)
def ofT (x : ByteArray × ByteArray × Bool) : Fl := ⟨x.1, x.2.1, x.2.2⟩
theorem flT (F : List Fl) : flCells F = (F.map tri).flatMap encT := by
  unfold flCells
  rw [List.flatMap_map]
  rfl
theorem encT_one (x : ByteArray × ByteArray × Bool) : ∀ v ∈ encT x, v.oneCell' = true := by
  intro v hv
  simp [encT] at hv
  rcases hv with rfl | rfl | rfl <;> rfl
theorem ltT (x y : ByteArray × ByteArray × Bool) : ltOf (fun x y : ByteArray × ByteArray × Bool => cmpB x.1 y.1) x y = decide (x.1.data.toList < y.1.data.toList) := cmpB_neg x.1 y.1
theorem swoT : SWO (ltOf fun x y : ByteArray × ByteArray × Bool => cmpB x.1 y.1) where
  irrefl x := by rw [ltT]; simp [List.lt_irrefl]
  trans x y z h1 h2 := by
    rw [ltT, decide_eq_true_eq] at *
    exact List.lt_trans h1 h2
  ntrans x y z h1 h2 := by
    rw [ltT, decide_eq_false_iff_not] at *
    exact fun h3 => h2 (by
      rcases Decidable.em (y.1.data.toList < z.1.data.toList) with h | h
      · exact h
      · exfalso
        exact h1 (by
          rcases Decidable.em (x.1.data.toList < y.1.data.toList) with h4 | h4
          · exact h4
          · exact absurd h3 (List.not_lt.2 (List.le_trans (List.not_lt.1 h) (List.not_lt.1 h4)))))
theorem sort_files_uniq {L d : List Fl} (hL : L.Pairwise fun f g => pth f < pth g) (hp : d.Perm L) (hs : d.Pairwise fun f g => pth f ≤ pth g) : d = L := by
  refine List.Perm.eq_of_pairwise (le := fun f g => pth f ≤ pth g) (fun a b ha hb h1 h2 => ?_) hs (hL.imp fun h => List.le_of_lt h) hp
  have e := List.le_antisymm h1 h2
  obtain ⟨i, hi, rfl⟩ := List.getElem_of_mem (hp.mem_iff.1 ha)
  obtain ⟨j, hj, rfl⟩ := List.getElem_of_mem hb
  have hq := List.pairwise_iff_getElem.1 hL
  rcases Nat.lt_trichotomy i j with hij | hij | hij
  · have := hq i j hi hj hij; rw [e] at this; exact absurd this (List.lt_irrefl _)
  · subst hij; rfl
  · have := hq j i hj hi hij; rw [e] at this; exact absurd this (List.lt_irrefl _)

/-- Files that are a tree's, sorted, are as they were. -/
theorem sortFiles {B : Nat} {F L : List Fl} {v : Value} {w : World} (h : w.ownsRow B 35 3 v F.length (flCells F)) (hL : L.Pairwise fun f g => pth f < pth g) (hp : F.Perm L) (hl : F.length ≤ 1000000) :
    Calls Tryz.prog 90 #[v, .func (.func 39) #[] #[]] w fun e w' => e = .returned (.tuple #[]) ∧ w'.ownsRow B 35 3 v L.length (flCells L) ∧ w.grownBy w' v.ownBlock := by
  have hh := h
  rcases h.2 with ⟨rfl, h0⟩ | ⟨g, cap, cur, rfl, hbase, hb, _⟩
  · have e : F = [] := List.length_eq_zero_iff.1 h0
    subst e
    have e2 : L = [] := List.Perm.eq_nil hp.symm
    subst e2
    refine (sortFF_none none 0 _ w).mono ?_
    rintro e w' ⟨rfl, rfl⟩
    exact ⟨rfl, hh, ⟨rfl, rfl, rfl, Nat.le_refl _, fun _ _ _ => rfl⟩⟩
  · rw [flT] at hh
    have hlen : F.length = (F.map tri).length := by simp
    have hH : HoldsK encT 3 w g 0 (F.map tri).toArray := holdsK_row encT (fun x => .string x.1) (fun x => .string x.2.1) (fun x => .bool x.2.2) (fun _ => rfl) (F.map tri) hlen hh
    have hc : CmpLays Tryz.prog 39 #[] encT 3 (fun x y : ByteArray × ByteArray × Bool => cmpB x.1 y.1) g 0 (F.map tri).toArray.size w := fun m os dk _ x y => by
      refine (comparePaths_w (ofT x) (ofT y) _).mono ?_
      rintro e w' ⟨rfl, rfl⟩
      exact ⟨rfl, 0, _, by rw [alloc_eq_grow, alloc_eq_grow, grow_grow]; rfl⟩
    have := sortFF_any encT (fun _ => rfl) encT_one (fun x y : ByteArray × ByteArray × Bool => cmpB x.1 y.1) swoT 39 #[] g 0 cap (F.map tri).toArray w (enters_of Tryz.func39 (by kernel_rfl) rfl) hc hH (Array.getElem?_eq_some_iff.1 hb).1 (by simp; omega)
    rw [show (F.map tri).toArray.size = F.length from by simp] at this
    refine this.mono ?_
    rintro e w' ⟨rfl, d', m, os, hpp, hs, rfl⟩
    have e1 : d'.size = F.length := by rw [hpp.1]; simp
    have hp2 : d'.toList.Perm (F.map tri) := by
      have := hpp.2.2
      have e2 : List.take F.length d'.toList = d'.toList := List.take_of_length_le (by rw [Array.length_toList]; omega)
      have e3 : List.take F.length (F.map tri) = F.map tri := List.take_of_length_le (by simp)
      simpa [hpp.1, e2, e3] using this
    have hs2 : (d'.toList.map ofT).Pairwise fun a b => pth a ≤ pth b := by
      rw [List.pairwise_map, List.pairwise_iff_getElem]
      intro i j hi hj hij
      have hi' : i < d'.size := by simpa using hi
      have hj' : j < d'.size := by simpa using hj
      have h1 := hs i j (Nat.zero_le _) hij (by omega)
      rw [ltT, decide_eq_false_iff_not, getElem!_pos d' i hi', getElem!_pos d' j hj'] at h1
      show d'.toList[i].1.data.toList ≤ d'.toList[j].1.data.toList
      rw [Array.getElem_toList, Array.getElem_toList]
      exact List.not_lt.1 h1
    have hot : ∀ l : List Fl, (l.map tri).map ofT = l := fun l => by rw [List.map_map]; exact List.map_id' l
    have hto : ∀ l : List (ByteArray × ByteArray × Bool), (l.map ofT).map tri = l := fun l => by rw [List.map_map]; exact List.map_id' l
    have e : d'.toList.map ofT = L := sort_files_uniq hL (by
      have := hp2.map ofT
      rw [hot] at this
      exact this.trans hp) hs2
    have e4 : d'.toList = L.map tri := by rw [← e, hto]
    have hput := rowK_put (m := m) (os := os) encT (fun x => .string x.1) (fun x => .string x.2.1) (fun x => .bool x.2.2) (fun _ => rfl) (F.map tri) (L.map tri) hlen (by simp [hp.length_eq]) hh
    rw [← e4, Array.toArray_toList] at hput
    refine ⟨rfl, ?_, hput.2⟩
    rw [flT, ← hp.length_eq, ← e4]
    exact hput.1


set_option maxRecDepth 100000 in
set_option maxHeartbeats 2000000 in
theorem CollectF (g : Nat) (lb : Array Value) (eg : ∀ args w, (callFunc g args).run Tryz.prog w = .ok (.enter g args) w) (D0 : DataW Unit) (N : Nat) (hN : N ≤ 1000000) (w : World) (hseq : SeqStopsK Fence.wide 3 Tryz.prog g lb (fun f : Fl => #[encF f]) KeepsWalks (AllF D0) (fun _ => True) N w) :
    Calls Tryz.prog 89 #[.func (.func g) #[] lb] w (SqP D0 w) := by
  have HA : Hid (Calls Tryz.prog 124 #[.slice none 0 0, .func (.func g) #[] lb] w (SqP D0 w)) := (callsIn_wide (n := 4)).1 (appendSeqF g lb eg D0 N hN w hseq)
  clear eg hseq
  go_enter Tryz.func89, Tryz.ntmps89
  go_wp2_with fail
  refine HA.out.mono ?_
  rintro e w1 ⟨v, fs, rfl, h1, h2, h3⟩
  have HE : Hid (AllF D0 fs ∧ w1.ownsRow w.heap.size 35 3 v fs.length (flCells fs) ∧ Below w.heap.size w w1) := ⟨h1, h2, h3⟩
  clear h1 h2 h3
  go_wp2
  go_ret
  exact ⟨v, fs, rfl, HE.out⟩

set_option maxRecDepth 100000 in
set_option maxHeartbeats 2000000 in
theorem SortedF (g : Nat) (lb : Array Value) (eg : ∀ args w, (callFunc g args).run Tryz.prog w = .ok (.enter g args) w) (D0 : DataW Unit) (N : Nat) (hN : N ≤ 1000000) (L : List Fl) (hL : L.Pairwise fun f g => pth f < pth g) (hl : L.length ≤ 1000000) (hp : ∀ F, AllF D0 F → F.Perm L) (w : World) (hseq : SeqStopsK Fence.wide 3 Tryz.prog g lb (fun f : Fl => #[encF f]) KeepsWalks (AllF D0) (fun _ => True) N w) :
    Calls Tryz.prog 37 #[.func (.func g) #[] lb, .func (.func 39) #[] #[]] w fun e w' => ∃ v, e = .returned v ∧ w'.ownsRow w.heap.size 35 3 v L.length (flCells L) ∧ Below w.heap.size w w' := by
  have HA : Hid (Calls Tryz.prog 89 #[.func (.func g) #[] lb] w (SqP D0 w)) := CollectF g lb eg D0 N hN w hseq
  have HP : Hid (L.Pairwise (fun f g => pth f < pth g) ∧ L.length ≤ 1000000 ∧ ∀ F, AllF D0 F → F.Perm L) := ⟨hL, hl, hp⟩
  clear eg hseq hL hl hp
  go_enter Tryz.func37, Tryz.ntmps37
  go_wp2_with fail
  refine HA.out.mono ?_
  rintro e w1 ⟨v, fs, rfl, h1, h2, h3⟩
  have hpp := HP.out.2.2 fs h1
  have HS : Hid (Calls Tryz.prog 90 #[v, .func (.func 39) #[] #[]] w1 fun e w' => e = .returned (.tuple #[]) ∧ w'.ownsRow w.heap.size 35 3 v L.length (flCells L) ∧ w1.grownBy w' v.ownBlock) := sortFiles h2 HP.out.1 hpp (by have := hpp.length_eq; have := HP.out.2.1; omega)
  have HB : Hid (Below w.heap.size w w1 ∧ ∀ k, v.ownBlock = some k → w.heap.size ≤ k) := ⟨h3, fun k hk => (h2.lt k hk).1⟩
  clear h1 h2 h3 hpp HA
  go_wp2_with fail
  refine HS.out.mono ?_
  rintro e w2 ⟨rfl, h4, h5⟩
  have HE : Hid (w2.ownsRow w.heap.size 35 3 v L.length (flCells L) ∧ Below w.heap.size w w2) := ⟨h4, HB.out.1.grown h5 HB.out.1.size HB.out.2⟩
  clear h4 h5 HS
  go_wp2
  go_ret
  exact ⟨v, rfl, HE.out⟩
end Go.Proofs.YtapiedeekbfpnaaGreatDoor

/- The lines of a command, plain: words, registers, numbers, what each line takes, and what the document asks of it. -/
namespace Go.Proofs.YtapiedeekbfpnaaGreatDoor
open Go.RowKit Go.Shelf

/-- The words of a text between blanks, behind cur. -/
def wdL : List UInt8 → List UInt8 → List (List UInt8)
  | cur, [] => [cur]
  | cur, c :: l => if c = 32 then cur :: wdL [] l else wdL (cur ++ [c]) l

theorem wdL_ne (l : List UInt8) : ∀ cur, wdL cur l ≠ [] := by
  induction l with
  | nil => intro cur h; cases h
  | cons c l ih =>
    intro cur
    unfold wdL
    by_cases h : c = 32
    · rw [if_pos h]; intro h'; cases h'
    · rw [if_neg h]; exact ih _
theorem wdL_blank (l : List UInt8) : ∀ cur, wdL cur (l ++ [32]) = wdL cur l ++ [[]] := by
  induction l with
  | nil => intro cur; rfl
  | cons c l ih =>
    intro cur
    rw [List.cons_append]
    unfold wdL
    by_cases h : c = 32
    · rw [if_pos h, if_pos h, ih]; rfl
    · rw [if_neg h, if_neg h, ih]
theorem wdL_snoc (l : List UInt8) (c : UInt8) (hc : c ≠ 32) : ∀ cur, ∃ ps p, wdL cur l = ps ++ [p] ∧ wdL cur (l ++ [c]) = ps ++ [p ++ [c]] := by
  induction l with
  | nil => intro cur; exact ⟨[], cur, rfl, by show (if c = 32 then _ else _) = _; rw [if_neg hc]; rfl⟩
  | cons b l ih =>
    intro cur
    rw [List.cons_append]
    unfold wdL
    by_cases h : b = 32
    · rw [if_pos h, if_pos h]
      obtain ⟨ps, p, e1, e2⟩ := ih []
      exact ⟨cur :: ps, p, by rw [e1]; rfl, by rw [e2]; rfl⟩
    · rw [if_neg h, if_neg h]
      exact ih _
theorem wdL_len (l : List UInt8) : ∀ cur, (wdL cur l).length ≤ l.length + 1 := by
  induction l with
  | nil => intro cur; exact Nat.le_refl _
  | cons c l ih =>
    intro cur
    unfold wdL
    by_cases h : c = 32
    · rw [if_pos h]; have := ih []; simp only [List.length_cons]; omega
    · rw [if_neg h]; have := ih (cur ++ [c]); simp only [List.length_cons]; omega
theorem wdL_mem (l : List UInt8) : ∀ cur, ∀ p ∈ wdL cur l, p.length ≤ cur.length + l.length := by
  induction l with
  | nil => intro cur p hp; obtain rfl := List.mem_singleton.1 hp; simp
  | cons c l ih =>
    intro cur p hp
    unfold wdL at hp
    by_cases h : c = 32
    · rw [if_pos h] at hp
      rcases List.mem_cons.1 hp with rfl | hp
      · simp
      · have := ih [] p hp; simp only [List.length_cons, List.length_nil] at *; omega
    · rw [if_neg h] at hp
      have := ih _ p hp
      simp only [List.length_append, List.length_cons, List.length_nil] at *
      omega

theorem wdL_miss (s : List UInt8) : ∀ cur, Lib.indexByte s 32 = -1 → wdL cur s = [cur ++ s] := by
  induction s with
  | nil => intro cur _; simp [wdL]
  | cons b l ih =>
    intro cur h
    unfold Lib.indexByte at h
    by_cases hb : b = 32
    · rw [hb] at h; simp at h
    · have hb' : (b == 32) = false := beq_eq_false_iff_ne.2 hb
      rw [hb'] at h
      unfold wdL
      rw [if_neg hb]
      have hl : Lib.indexByte l 32 = -1 := by
        by_cases h1 : Lib.indexByte l 32 = -1
        · exact h1
        · have := Lib.indexByte_ge l 32
          simp [h1] at h
          omega
      rw [ih _ hl]
      simp
theorem wdL_hit (s : List UInt8) : ∀ cur (i : Nat), Lib.indexByte s 32 = i → wdL cur s = (cur ++ s.take i) :: wdL [] (s.drop (i + 1)) := by
  induction s with
  | nil => intro cur i h; simp [Lib.indexByte] at h
  | cons b l ih =>
    intro cur i h
    unfold Lib.indexByte at h
    by_cases hb : b = 32
    · subst hb
      simp at h
      obtain rfl : i = 0 := by omega
      simp [wdL]
    · have hb' : (b == 32) = false := beq_eq_false_iff_ne.2 hb
      rw [hb'] at h
      show (if b = 32 then cur :: wdL [] l else wdL (cur ++ [b]) l) = _
      rw [if_neg hb]
      have hge := Lib.indexByte_ge l 32
      by_cases h1 : Lib.indexByte l 32 = -1
      · simp [h1] at h
      · simp [h1] at h
        obtain ⟨k, rfl⟩ : ∃ k, i = k + 1 := ⟨i - 1, by omega⟩
        rw [ih (cur ++ [b]) k (by omega)]
        simp

abbrev blank : ByteArray := ⟨#[32]⟩
theorem wdL_cut (s : List UInt8) : ∃ r, wdL [] s = (Lib.cut s [32]).1 :: r := by
  unfold Lib.cut
  rw [Lib.index_one]
  by_cases h : Lib.indexByte s 32 = -1
  · rw [h, if_neg (by decide), wdL_miss s [] h]
    exact ⟨[], rfl⟩
  · have hge := Lib.indexByte_ge s 32
    obtain ⟨i, hi⟩ : ∃ i : Nat, Lib.indexByte s 32 = i := ⟨(Lib.indexByte s 32).toNat, by omega⟩
    rw [hi, if_pos (by omega), wdL_hit s [] i hi]
    exact ⟨wdL [] (s.drop (i + 1)), by simp⟩
/-- What SplitN answers. -/
def wdN (k : Nat) (s : List UInt8) : List (List UInt8) := Lib.splitK [32] 0 k s
theorem wdN_le : ∀ (k : Nat) (s : List UInt8), (wdL [] s).length ≤ k + 1 → wdN k s = wdL [] s := by
  intro k
  induction k with
  | zero =>
    intro s h
    show [s] = _
    by_cases h1 : Lib.indexByte s 32 = -1
    · rw [wdL_miss s [] h1]; rfl
    · have hge := Lib.indexByte_ge s 32
      obtain ⟨i, hi⟩ : ∃ i : Nat, Lib.indexByte s 32 = i := ⟨(Lib.indexByte s 32).toNat, by omega⟩
      rw [wdL_hit s [] i hi] at h
      have := wdL_ne (s.drop (i + 1)) []
      cases h2 : wdL [] (s.drop (i + 1)) with
      | nil => exact absurd h2 this
      | cons a b => rw [h2] at h; simp at h
  | succ k ih =>
    intro s h
    unfold wdN Lib.splitK
    by_cases h1 : Lib.index s [32] = -1
    · rw [if_pos (beq_iff_eq.2 h1), wdL_miss s [] (by rw [← Lib.index_one]; exact h1)]
      rfl
    · have hge := Lib.index_ge s [32]
      obtain ⟨i, hi⟩ : ∃ i : Nat, Lib.index s [32] = i := ⟨(Lib.index s [32]).toNat, by omega⟩
      rw [if_neg (fun e => h1 (beq_iff_eq.1 e)), hi]
      have e : ((i : Int)).toNat = i := by omega
      rw [wdL_hit s [] i (by rw [← Lib.index_one]; exact hi)] at h ⊢
      rw [e]
      have hi2 := ih (s.drop (i + 1)) (by simp at h; omega)
      unfold wdN at hi2
      rw [show ([32] : List UInt8).length = 1 from rfl, hi2]
      simp
theorem wdN_gt : ∀ (k : Nat) (s : List UInt8), k + 1 < (wdL [] s).length → ∃ r, (32 : UInt8) ∈ r ∧ wdN k s = (wdL [] s).take k ++ [r] := by
  intro k
  induction k with
  | zero =>
    intro s h
    refine ⟨s, ?_, rfl⟩
    by_cases h1 : Lib.indexByte s 32 = -1
    · rw [wdL_miss s [] h1] at h; simp at h
    · have hge := Lib.indexByte_ge s 32
      obtain ⟨i, hi⟩ : ∃ i : Nat, Lib.indexByte s 32 = i := ⟨(Lib.indexByte s 32).toNat, by omega⟩
      have hI : ∀ (l : List UInt8), Lib.indexByte l 32 ≠ -1 → (32 : UInt8) ∈ l := by
        intro l
        induction l with
        | nil => intro h; exact absurd rfl h
        | cons a b ihl =>
          intro h
          unfold Lib.indexByte at h
          by_cases ha : a = 32
          · rw [ha]; exact List.mem_cons_self
          · have hb' : (a == 32) = false := beq_eq_false_iff_ne.2 ha
            rw [hb'] at h
            refine List.mem_cons_of_mem _ (ihl fun hh => ?_)
            rw [hh] at h
            exact h rfl
      exact hI s h1
  | succ k ih =>
    intro s h
    unfold wdN Lib.splitK
    by_cases h1 : Lib.index s [32] = -1
    · rw [wdL_miss s [] (by rw [← Lib.index_one]; exact h1)] at h
      simp at h
    · have hge := Lib.index_ge s [32]
      obtain ⟨i, hi⟩ : ∃ i : Nat, Lib.index s [32] = i := ⟨(Lib.index s [32]).toNat, by omega⟩
      rw [if_neg (fun e => h1 (beq_iff_eq.1 e)), hi]
      have e : ((i : Int)).toNat = i := by omega
      rw [wdL_hit s [] i (by rw [← Lib.index_one]; exact hi)] at h ⊢
      rw [e]
      obtain ⟨r, hr, hi2⟩ := ih (s.drop (i + 1)) (by simp at h; omega)
      unfold wdN at hi2
      rw [show ([32] : List UInt8).length = 1 from rfl, hi2]
      exact ⟨r, hr, by simp⟩
theorem wdN_ne (k : Nat) (s : List UInt8) : wdN k s ≠ [] := by
  unfold wdN
  cases k with
  | zero => intro h; cases h
  | succ k => unfold Lib.splitK; split <;> intro h <;> cases h

/-- A register. -/
def regF (s : List UInt8) : Option Nat := match s with
  | [c] => if 97 ≤ c.toNat ∧ c.toNat < 105 then some (c.toNat - 97) else none
  | _ => none
def digF (c : UInt8) : Bool := decide (48 ≤ c.toNat) && decide (c.toNat ≤ 57)
def valF (n : Nat) (s : List UInt8) : Nat := s.foldl (fun n c => 10 * n + (c.toNat - 48)) n
/-- A number. -/
def numF (s : List UInt8) : Option Nat :=
  if s.length = 0 ∨ 6 < s.length ∨ (1 < s.length ∧ s.head? = some 48) then none else if s.all digF = true then some (valF 0 s) else none

theorem regF_blank {s : List UInt8} (h : (32 : UInt8) ∈ s) : regF s = none := by
  unfold regF
  split
  · rename_i c
    obtain rfl := List.mem_singleton.1 h
    rfl
  · rfl
theorem numF_blank {s : List UInt8} (h : (32 : UInt8) ∈ s) : numF s = none := by
  unfold numF
  have h2 : s.all digF = false := by
    rw [List.all_eq_false]
    exact ⟨32, h, by decide⟩
  rw [h2]
  simp
theorem valF_le (s : List UInt8) : ∀ n, s.all digF = true → valF n s < (n + 1) * 10 ^ s.length := by
  induction s with
  | nil => intro n _; show n < _; simp
  | cons c l ih =>
    intro n h
    rw [List.all_cons, Bool.and_eq_true] at h
    have h1 := h.1
    unfold digF at h1
    simp only [Bool.and_eq_true, decide_eq_true_eq] at h1
    have := ih (10 * n + (c.toNat - 48)) h.2
    show valF (10 * n + (c.toNat - 48)) l < _
    have h3 : (10 * n + (c.toNat - 48) + 1) * 10 ^ l.length ≤ (10 * (n + 1)) * 10 ^ l.length := Nat.mul_le_mul_right _ (by omega)
    have h4 : (n + 1) * 10 ^ (l.length + 1) = 10 * (n + 1) * 10 ^ l.length := by rw [Nat.pow_succ, Nat.mul_comm (10 ^ l.length) 10, ← Nat.mul_assoc, Nat.mul_comm (n + 1) 10]
    rw [List.length_cons, h4]
    omega
theorem numF_le {s : List UInt8} {v : Nat} (h : numF s = some v) : v ≤ 999999 := by
  unfold numF at h
  split at h
  · cases h
  · split at h
    · rename_i h1 h2
      injection h with h
      have h3 := valF_le s 0 h2
      rw [h] at h3
      have h4 : s.length ≤ 6 := by omega
      have h5 : (10 : Nat) ^ s.length ≤ 10 ^ 6 := Nat.pow_le_pow_right (by decide) h4
      have h6 : (10 : Nat) ^ 6 = 1000000 := by decide
      omega
    · cases h
theorem regF_lt {s : List UInt8} {v : Nat} (h : regF s = some v) : v < 8 := by
  unfold regF at h
  split at h
  · split at h
    · injection h with h; omega
    · cases h
  · cases h

/-- A line that was taken apart. -/
structure Ln where
  wd : ByteArray
  r : Nat
  s : Nat
  pa : ByteArray
  tx : ByteArray
  n : Nat
  m : Nat
def Ln.none : Ln := ⟨⟨#[]⟩, 0, 0, ⟨#[]⟩, ⟨#[]⟩, 0, 0⟩
def bA (l : List UInt8) : ByteArray := ⟨l.toArray⟩
/-- A part: 0 register, 1 the other register, 2 number, 3 the other number, 4 a line's number, 5 an end, 6 a text, 7 a path, 8 a directory. -/
def takP (lines k : Nat) (l : Ln) (g : List UInt8) : Option Ln :=
  if k = 0 then (regF g).map fun v => { l with r := v }
  else if k = 1 then (regF g).map fun v => { l with s := v }
  else if k = 2 then (numF g).map fun v => { l with n := v }
  else if k = 3 then (numF g).map fun v => { l with m := v }
  else if k = 4 then (numF g).bind fun v => if v ≤ lines then some { l with n := v } else Option.none
  else if k = 5 then (numF g).bind fun v => if v ≤ 99 then some { l with n := v } else Option.none
  else if k = 6 then some { l with tx := bA g }
  else if k = 7 then (if pathOk (bA g) = true then some { l with pa := bA g } else Option.none)
  else (if pathOk (bA g) = true ∨ g = [46] then some { l with pa := bA g } else Option.none)
def okP (lines k : Nat) (g : List UInt8) : Bool :=
  if k = 0 then (regF g).isSome
  else if k = 1 then (regF g).isSome
  else if k = 2 then (numF g).isSome
  else if k = 3 then (numF g).isSome
  else if k = 4 then (numF g).any fun v => decide (v ≤ lines)
  else if k = 5 then (numF g).any fun v => decide (v ≤ 99)
  else if k = 6 then true
  else if k = 7 then pathOk (bA g)
  else pathOk (bA g) || decide (g = [46])
theorem takP_ok (lines k : Nat) (l : Ln) (g : List UInt8) : (takP lines k l g).isSome = okP lines k g := by
  unfold takP okP
  by_cases h0 : k = 0
  · simp [h0]
  by_cases h1 : k = 1
  · simp [h1]
  by_cases h2 : k = 2
  · simp [h2]
  by_cases h3 : k = 3
  · simp [h3]
  simp only [h0, h1, h2, h3, if_false]
  by_cases h4 : k = 4
  · simp only [h4, if_true]
    cases h : numF g with
    | none => rfl
    | some v => simp only [Option.bind_some, Option.any_some]; split <;> simp_all
  by_cases h5 : k = 5
  · simp only [h5]
    cases h : numF g with
    | none => rfl
    | some v => simp; split <;> simp_all
  simp only [h4, h5, if_false]
  by_cases h6 : k = 6
  · simp [h6]
  by_cases h7 : k = 7
  · simp only [h7]
    cases pathOk (bA g) <;> rfl
  simp only [h6, h7, if_false]
  by_cases h8 : pathOk (bA g) = true
  · simp [h8]
  · simp only [h8]
    by_cases h9 : g = [46]
    · rw [h9]; simp
    · simp [h9]
def foldP (lines : Nat) : List Nat → List (List UInt8) → Ln → Option Ln
  | k :: ks, g :: gs, l => (takP lines k l g).bind fun l' => foldP lines ks gs l'
  | _, _, l => some l
def allP (lines : Nat) : List Nat → List (List UInt8) → Bool
  | k :: ks, g :: gs => okP lines k g && allP lines ks gs
  | _, _ => true
theorem foldP_ok (lines : Nat) : ∀ (ks : List Nat) (gs : List (List UInt8)) (l : Ln), (foldP lines ks gs l).isSome = allP lines ks gs := by
  intro ks
  induction ks with
  | nil => intro gs l; rfl
  | cons k ks ih =>
    intro gs l
    cases gs with
    | nil => rfl
    | cons g gs =>
      show ((takP lines k l g).bind fun l' => foldP lines ks gs l').isSome = (okP lines k g && allP lines ks gs)
      rw [← takP_ok lines k l g]
      cases h : takP lines k l g with
      | none => rfl
      | some l' => simp [ih gs l']
/-- What stands behind each first word. -/
def frmL : List (List UInt8 × List Nat) := [([115, 101, 116], [0, 6]), ([114, 101, 97, 100], [0, 7]), ([108, 105, 115, 116], [0, 8]), ([106, 111, 105, 110], [0, 1]), ([99, 117, 116], [0, 2, 3]), ([115, 105, 122, 101], [0, 1]), ([115, 117, 109], [0]), ([109, 97, 107, 101], [7, 0]), ([114, 117, 110], [7, 0]), ([115, 97, 109, 101], [0, 1, 4]), ([108, 101, 115, 115], [0, 1, 4]), ([103, 111, 116, 111], [4]), ([101, 120, 105, 116], [5])]
def frmF (w : List UInt8) : Option (List Nat) := frmL.lookup w
/-- A line, taken apart. -/
def linF (lines : Nat) (s : List UInt8) : Option Ln := match frmF (Lib.cut s [32]).1 with
  | none => none
  | some f => if (wdN f.length s).length ≤ f.length then none else foldP lines f (wdN f.length s).tail { Ln.none with wd := bA (Lib.cut s [32]).1 }
/-- May a line stand there? -/
def rigF (lines : Nat) (s : List UInt8) : Bool := match frmF (Lib.cut s [32]).1 with
  | none => false
  | some f => if f = [0, 6] then decide (3 ≤ (wdL [] s).length) && allP lines [0] (wdL [] s).tail else decide ((wdL [] s).length = f.length + 1) && allP lines f (wdL [] s).tail

theorem nmOk_blank {s : List UInt8} (h : (32 : UInt8) ∈ s) : nameOk (bA s) = false := by
  unfold nameOk
  have : (bA s).toList.all (fun c => nmB c.toNat) = false := by
    rw [Lib.toList_data, List.all_eq_false]
    exact ⟨32, h, by decide⟩
  rw [this, Bool.and_false]
theorem parts_has (c : UInt8) (hc : c ≠ 47) (l : List UInt8) : ∀ cur, (c ∈ l ∨ c ∈ cur) → ∃ p ∈ parts cur l, c ∈ p := by
  induction l with
  | nil => intro cur h; exact ⟨cur, List.mem_singleton.2 rfl, h.resolve_left (by simp)⟩
  | cons b l ih =>
    intro cur h
    unfold parts
    by_cases hb : b = 47
    · rw [if_pos hb]
      rcases h with h | h
      · rcases List.mem_cons.1 h with h | h
        · exact absurd (h.trans hb) hc
        · obtain ⟨p, hp, hq⟩ := ih [] (.inl h)
          exact ⟨p, List.mem_cons_of_mem _ hp, hq⟩
      · exact ⟨cur, List.mem_cons_self, h⟩
    · rw [if_neg hb]
      refine ih _ ?_
      rcases h with h | h
      · rcases List.mem_cons.1 h with h | h
        · exact .inr (by rw [h]; simp)
        · exact .inl h
      · exact .inr (by simp [h])
theorem pathOk_blank {s : List UInt8} (h : (32 : UInt8) ∈ s) : pathOk (bA s) = false := by
  unfold pathOk
  obtain ⟨p, hp, hq⟩ := parts_has 32 (by decide) s [] (.inl h)
  have : (piecesB (bA s)).all nameOk = false := by
    rw [List.all_eq_false]
    refine ⟨bA p, ?_, by rw [nmOk_blank hq]; simp⟩
    unfold piecesB
    exact List.mem_map.2 ⟨p, hp, rfl⟩
  rw [this, Bool.and_false]
theorem okP_blank {lines k : Nat} {g : List UInt8} (hk : k ≠ 6) (h : (32 : UInt8) ∈ g) : okP lines k g = false := by
  have h1 := regF_blank h
  have h2 := numF_blank h
  have h3 := pathOk_blank h
  have h4 : g ≠ [46] := by intro e; rw [e] at h; simp at h
  unfold okP
  simp [h1, h2, h3, h4, hk]
theorem allP_app (lines : Nat) : ∀ (ks : List Nat) (gs : List (List UInt8)) (k : Nat) (g : List UInt8), ks.length = gs.length → allP lines (ks ++ [k]) (gs ++ [g]) = (allP lines ks gs && okP lines k g) := by
  intro ks
  induction ks with
  | nil =>
    intro gs k g h
    obtain rfl := List.length_eq_zero_iff.1 h.symm
    show (okP lines k g && true) = (true && okP lines k g)
    rw [Bool.and_true, Bool.true_and]
  | cons a ks ih =>
    intro gs k g h
    cases gs with
    | nil => cases h
    | cons b gs =>
      show (okP lines a b && allP lines (ks ++ [k]) (gs ++ [g])) = ((okP lines a b && allP lines ks gs) && okP lines k g)
      rw [ih gs k g (by simpa using h), Bool.and_assoc]
theorem lookup_mem {f : List Nat} (w : List UInt8) : ∀ (L : List (List UInt8 × List Nat)), L.lookup w = some f → (w, f) ∈ L := by
  intro L
  induction L with
  | nil => intro h; cases h
  | cons a L ih =>
    intro h
    obtain ⟨a1, a2⟩ := a
    rw [List.lookup_cons] at h
    split at h
    · rename_i he
      injection h with h
      rw [h, eq_of_beq he]
      exact List.mem_cons_self
    · exact List.mem_cons_of_mem _ (ih h)
theorem frmF_mem {w : List UInt8} {f : List Nat} (h : frmF w = some f) : f ∈ frmL.map (·.2) := List.mem_map.2 ⟨(w, f), lookup_mem w _ h, rfl⟩
theorem frm_last : ∀ f ∈ frmL.map (·.2), f ≠ [0, 6] → ∃ ks k, f = ks ++ [k] ∧ k ≠ 6 := by
  intro f hf hn
  simp only [frmL, List.map_cons, List.map_nil, List.mem_cons, List.not_mem_nil, or_false] at hf
  rcases hf with rfl | rfl | rfl | rfl | rfl | rfl | rfl | rfl | rfl | rfl | rfl | rfl | rfl
  · exact absurd rfl hn
  · exact ⟨[0], 7, rfl, by decide⟩
  · exact ⟨[0], 8, rfl, by decide⟩
  · exact ⟨[0], 1, rfl, by decide⟩
  · exact ⟨[0, 2], 3, rfl, by decide⟩
  · exact ⟨[0], 1, rfl, by decide⟩
  · exact ⟨[], 0, rfl, by decide⟩
  · exact ⟨[7], 0, rfl, by decide⟩
  · exact ⟨[7], 0, rfl, by decide⟩
  · exact ⟨[0, 1], 4, rfl, by decide⟩
  · exact ⟨[0, 1], 4, rfl, by decide⟩
  · exact ⟨[], 4, rfl, by decide⟩
  · exact ⟨[], 5, rfl, by decide⟩
/-- The program and the document take the same lines. -/
theorem linF_rig (lines : Nat) (s : List UInt8) : (linF lines s).isSome = rigF lines s := by
  unfold linF rigF
  cases hf : frmF (Lib.cut s [32]).1 with
  | none => rfl
  | some f =>
    have hm := frmF_mem hf
    simp only
    rcases Nat.lt_trichotomy (wdL [] s).length (f.length + 1) with h | h | h
    · rw [wdN_le f.length s (by omega), if_pos (by omega)]
      by_cases h6 : f = [0, 6]
      · rw [if_pos h6]
        subst h6
        rw [show decide (3 ≤ (wdL [] s).length) = false from by simp; simp at h; omega]
        rfl
      · rw [if_neg h6, show decide ((wdL [] s).length = f.length + 1) = false from by simp; omega]
        rfl
    · rw [wdN_le f.length s (by omega), if_neg (by omega), foldP_ok]
      by_cases h6 : f = [0, 6]
      · rw [if_pos h6]
        subst h6
        rw [show decide (3 ≤ (wdL [] s).length) = true from by simp; simp at h; omega]
        cases hw : wdL [] s with
        | nil => rw [hw] at h; cases h
        | cons a l =>
          cases l with
          | nil => rw [hw] at h; cases h
          | cons b l => cases l with
            | nil => rw [hw] at h; cases h
            | cons c l => simp [allP, okP]
      · rw [if_neg h6, decide_eq_true h, Bool.true_and]
    · obtain ⟨r, hr, he⟩ := wdN_gt f.length s h
      have hl : (wdN f.length s).length = f.length + 1 := by rw [he, List.length_append, List.length_take]; simp; omega
      rw [if_neg (by omega), foldP_ok, he]
      by_cases h6 : f = [0, 6]
      · rw [if_pos h6]
        subst h6
        rw [show decide (3 ≤ (wdL [] s).length) = true from by simp; simp at h; omega]
        cases hw : wdL [] s with
        | nil => rw [hw] at h; cases h
        | cons a l =>
          cases l with
          | nil => rw [hw] at h; simp at h
          | cons b l => simp [allP, okP]
      · rw [if_neg h6, show decide ((wdL [] s).length = f.length + 1) = false from by simp; omega, Bool.false_and]
        obtain ⟨ks, k, hfk, hk⟩ := frm_last f hm h6
        cases hw : wdL [] s with
        | nil => rw [hw] at h; cases h
        | cons a l =>
          have hfl : f.length = ks.length + 1 := by rw [hfk]; simp
          rw [hfl, List.take_succ_cons, List.cons_append, List.tail_cons, hfk, allP_app, okP_blank hk hr, Bool.and_false]
          rw [List.length_take]
          rw [hw] at h
          simp at h
          omega
end Go.Proofs.YtapiedeekbfpnaaGreatDoor

/- Registers and numbers, as the program reads them. -/
namespace Go.Proofs.YtapiedeekbfpnaaGreatDoor
open Go.RowKit Go.Shelf

def regV (s : List UInt8) : Array Value := match regF s with | some v => #[.int .i64 (v : Int), .bool true] | none => #[.int .i64 0, .bool false]
def numV (s : List UInt8) : Array Value := match numF s with | some v => #[.int .i64 (v : Int), .bool true] | none => #[.int .i64 0, .bool false]

set_option maxHeartbeats 1000000 in
set_option maxRecDepth 100000 in
theorem register_any (s : ByteArray) (w : World) (hs : s.size ≤ 1000000) :
    Calls Tryz.prog 55 #[.string s] w fun e w' => e = .returned (.tuple (regV s.data.toList)) ∧ w' = w := by
  have hsz9 : (s.size : Int) ≤ 9223372036854775807 := by omega
  clear hs
  by_cases h1 : s.size = 1
  · obtain ⟨c, hc⟩ : ∃ c, s.data.toList = [c] := by
      have : s.data.toList.length = 1 := by rw [← h1]; rfl
      exact List.length_eq_one_iff.1 this
    obtain ⟨c0, hc0⟩ : ∃ c0 : Nat, c0 = c.toNat := ⟨_, rfl⟩
    have hlt : c0 < 256 := by rw [hc0]; exact c.toNat_lt
    have hg : s[0]'(by omega) = c := by
      have : s.data.toList[0]? = some c := by rw [hc]; rfl
      rw [List.getElem?_eq_getElem (by rw [hc]; simp)] at this
      exact Option.some.inj this
    have hsz : (s.size : Int) = 1 := by omega
    have hg' : (s[0]'(by omega)).toNat = c0 := by rw [hg, hc0]
    unfold regV regF
    rw [hc]
    simp only
    rw [← hc0]
    clear hg hc0 hc
    by_cases h2 : 97 ≤ c0
    · by_cases h3 : c0 < 105
      · rw [if_pos ⟨h2, h3⟩]
        have e1 : ¬ (c0 : Int) < 97 := by omega
        have e2 : ¬ (105 : Int) ≤ (c0 : Int) := by omega
        obtain ⟨v, hv⟩ : ∃ v : Nat, c0 - 97 = v := ⟨_, rfl⟩
        rw [hv]
        have e3 : IntKind.u8.wrap ((c0 : Int) - 97) = (v : Int) := by rw [IntKind.wrap_u8]; omega
        have e4 : IntKind.i64.wrap (v : Int) = (v : Int) := by rw [IntKind.wrap_i64]; omega
        clear hv
        go_enter Tryz.func55, Tryz.ntmps55
        go_wp2
        go_ret2
        exact ⟨rfl, rfl⟩
      · rw [if_neg (by omega)]
        have e1 : ¬ (c0 : Int) < 97 := by omega
        have e2 : (105 : Int) ≤ (c0 : Int) := by omega
        go_enter Tryz.func55, Tryz.ntmps55
        go_wp2
        go_ret2
        exact ⟨rfl, rfl⟩
    · rw [if_neg (by omega)]
      have e1 : (c0 : Int) < 97 := by omega
      go_enter Tryz.func55, Tryz.ntmps55
      go_wp2
      go_ret2
      exact ⟨rfl, rfl⟩
  · have hr : regV s.data.toList = #[.int .i64 0, .bool false] := by
      unfold regV regF
      cases h : s.data.toList with
      | nil => rfl
      | cons a l => cases l with
        | nil =>
          exfalso
          apply h1
          show s.data.size = 1
          rw [← Array.length_toList, h]
          rfl
        | cons b l => rfl
    rw [hr]
    have hsz : ¬ (s.size : Int) = 1 := by omega
    go_enter Tryz.func55, Tryz.ntmps55
    go_wp2
    go_ret2
    exact ⟨rfl, rfl⟩

theorem numV_no {s : List UInt8} (h : s.all digF = false) : numV s = #[.int .i64 0, .bool false] := by
  unfold numV numF
  rw [h]
  simp
theorem digF_iff (c : UInt8) : digF c = true ↔ 48 ≤ c.toNat ∧ c.toNat ≤ 57 := by unfold digF; simp

set_option maxHeartbeats 2000000 in
set_option maxRecDepth 100000 in
theorem numb_any (s : ByteArray) (w : World) (hs : s.size ≤ 1000000) :
    Calls Tryz.prog 58 #[.string s] w fun e w' => e = .returned (.tuple (numV s.data.toList)) ∧ Below w.heap.size w w' := by
  have hsl : s.size = s.data.toList.length := size_of rfl
  have hsz9 : (s.size : Int) ≤ 9223372036854775807 := by omega
  clear hs
  by_cases h0 : s.size = 0
  · have he : s = ⟨#[]⟩ := by
      apply ByteArray.ext
      exact Array.eq_empty_of_size_eq_zero h0
    subst he
    have hv : numV (⟨#[]⟩ : ByteArray).data.toList = #[.int .i64 0, .bool false] := rfl
    rw [hv]
    go_enter Tryz.func58, Tryz.ntmps58
    go_wp2
    go_ret2
    exact ⟨rfl, Below.refl _ _⟩
  have hne : s.toList.isEmpty = false := by
    rw [Lib.toList_data, List.isEmpty_eq_false_iff]
    intro e
    rw [e] at hsl
    exact h0 hsl
  by_cases h1 : 6 < s.size
  · have hv : numV s.data.toList = #[.int .i64 0, .bool false] := by
      unfold numV numF
      rw [if_pos (by omega)]
    rw [hv]
    have h1i : (6 : Int) < (s.size : Int) := by omega
    clear hv hsl
    go_enter Tryz.func58, Tryz.ntmps58
    go_wp2
    go_ret2
    exact ⟨rfl, Below.refl _ _⟩
  have h1i : ¬ (6 : Int) < (s.size : Int) := by omega
  have hz : 0 < s.size := by omega
  obtain ⟨c, hc⟩ : ∃ c, s[0]'(by omega) = c := ⟨_, rfl⟩
  have hhd : s.data.toList.head? = some c := by
    rw [List.head?_eq_getElem?, List.getElem?_eq_getElem (by omega)]
    exact congrArg some hc
  obtain ⟨c0, hc0⟩ : ∃ c0 : Nat, c0 = c.toNat := ⟨_, rfl⟩
  have hg' : (s[0]'(by omega)).toNat = c0 := by rw [hc, hc0]
  by_cases h2 : 1 < s.size ∧ c0 = 48
  · have hv : numV s.data.toList = #[.int .i64 0, .bool false] := by
      unfold numV numF
      rw [if_pos (.inr (.inr ⟨by omega, by rw [hhd]; exact congrArg some (UInt8.toNat_inj.1 (by rw [← hc0, h2.2]; rfl))⟩))]
    rw [hv]
    have h2i : (1 : Int) < (s.size : Int) := by omega
    have h3i : ((c0 : Int) == 48) = true := by simp; omega
    clear hc hc0 hhd hv hsl
    go_enter Tryz.func58, Tryz.ntmps58
    go_wp2
    go_ret2
    exact ⟨rfl, Below.refl _ _⟩
  have hnum : numF s.data.toList = if s.data.toList.all digF = true then some (valF 0 s.data.toList) else none := by
    unfold numF
    rw [if_neg]
    rintro (h | h | h)
    · omega
    · omega
    · refine h2 ⟨by omega, ?_⟩
      rw [hhd] at h
      rw [hc0, Option.some.inj h.2]
      rfl
  have HN : Hid (numF s.data.toList = if s.data.toList.all digF = true then some (valF 0 s.data.toList) else none) := hnum
  have hlead : ((1 : Int) < (s.size : Int)) = false ∨ (((1 : Int) < (s.size : Int)) = true ∧ ((c0 : Int) == 48) = false) := by
    by_cases h : 1 < s.size
    · exact .inr ⟨by simp; omega, by simp; omega⟩
    · exact .inl (by simp; omega)
  have HL : Hid (s.size = s.data.toList.length) := hsl
  have HG : Hid (∀ k (hk : k < s.size), s.data.toList[k]? = some (s[k]'hk)) := fun k hk => List.getElem?_eq_getElem (by omega)
  have H6 : Hid (s.size ≤ 6) := by show s.size ≤ 6; omega
  clear hsl hnum hhd hc hc0 h2 h1 h0
  rcases hlead with hl | ⟨hl, hl'⟩
  all_goals
    go_enter Tryz.func58, Tryz.ntmps58
    go_wp2
    go_loopg [4] s.size (fun g v wx => ∃ i : Nat, i + g = s.size ∧ v = .int .i64 (valF 0 (s.data.toList.take i) : Nat) ∧ wx = w.iter s i ∧ (s.data.toList.take i).all digF = true)
    case atStart => exact ⟨0, by omega, rfl, rfl, rfl⟩
    case round =>
      obtain ⟨i, hig, rfl, rfl, hall⟩ := hrel
      have HA : Hid ((s.data.toList.take i).all digF = true) := hall
      clear hall
      cases gk with
      | zero =>
        obtain rfl : i = s.size := by omega
        have hnx := fun ty => run_next_end (P := Tryz.prog) w s s.size ty (Nat.lt_irrefl _)
        have he : s.data.toList.take s.size = s.data.toList := by rw [HL.out]; exact List.take_length
        have HV : Hid (numV s.data.toList = #[.int .i64 (valF 0 (s.data.toList.take s.size) : Nat), .bool true]) := by
          show _ = _
          unfold numV
          have h1 := HA.out
          rw [he] at h1 ⊢
          rw [HN.out, if_pos h1]
        clear he
        generalize valF 0 (s.data.toList.take s.size) = vv at *
        go_wp2
        go_ret2
        exact ⟨by rw [HV.out]; rfl, (Below.refl _ w).alloc (Nat.le_refl _) _⟩
      | succ g =>
        have hi : i < s.size := by omega
        obtain ⟨x, hx⟩ : ∃ x : UInt8, s[i]'hi = x := ⟨_, rfl⟩
        have hxl : s.data.toList[i]? = some x := by rw [← hx]; exact HG.out i hi
        have htk : s.data.toList.take (i + 1) = s.data.toList.take i ++ [x] := by
          rw [List.take_add_one, hxl]
          rfl
        obtain ⟨c1, hc1⟩ : ∃ c1 : Nat, x.toNat = c1 := ⟨_, rfl⟩
        by_cases h128 : c1 < 128
        · have hnx := fun ty => run_next_ascii (P := Tryz.prog) w s i ty hi (by rw [hx, hc1]; exact h128)
          rw [hx, hc1] at hnx
          by_cases hd : digF x = true
          · have hd' := (digF_iff x).1 hd
            rw [hc1] at hd'
            have hvv : valF 0 (s.data.toList.take i) < 1000000 := by
              have h1 := valF_le _ 0 HA.out
              have h2 : (s.data.toList.take i).length ≤ 5 := by
                rw [List.length_take]
                have := H6.out
                omega
              have h3 : (10 : Nat) ^ (s.data.toList.take i).length ≤ 10 ^ 5 := Nat.pow_le_pow_right (by decide) h2
              have h4 : (10 : Nat) ^ 5 = 100000 := by decide
              omega
            have hst : valF 0 (s.data.toList.take (i + 1)) = 10 * valF 0 (s.data.toList.take i) + (c1 - 48) := by
              rw [htk]
              unfold valF
              rw [List.foldl_append, ← hc1]
              rfl
            have hal : (s.data.toList.take (i + 1)).all digF = true := by
              rw [htk, List.all_append, HA.out]
              simp [hd]
            have HE : Hid (valF 0 (s.data.toList.take (i + 1)) = 10 * valF 0 (s.data.toList.take i) + (c1 - 48) ∧ (s.data.toList.take (i + 1)).all digF = true) := ⟨hst, hal⟩
            clear hst hal htk hxl hx hd
            generalize valF 0 (s.data.toList.take i) = vv at *
            obtain ⟨dd, hdd⟩ : ∃ dd : Nat, c1 = dd + 48 := ⟨c1 - 48, by omega⟩
            obtain ⟨v1, hv1⟩ : ∃ v1 : Nat, v1 = 10 * vv := ⟨_, rfl⟩
            obtain ⟨v2, hv2⟩ : ∃ v2 : Nat, v2 = v1 + dd := ⟨_, rfl⟩
            have e1 : ¬ (c1 : Int) < 48 := by omega
            have e2 : ¬ (57 : Int) < (c1 : Int) := by omega
            have e3 : (10 : Int) * (vv : Int) = (v1 : Int) := by omega
            have e4 : IntKind.i64.wrap (v1 : Int) = (v1 : Int) := by rw [IntKind.wrap_i64]; omega
            have e5 : (c1 : Int) - 48 = (dd : Int) := by omega
            have e6 : IntKind.i32.wrap (dd : Int) = (dd : Int) := by rw [IntKind.wrap_i32]; omega
            have e7 : IntKind.i64.wrap (dd : Int) = (dd : Int) := by rw [IntKind.wrap_i64]; omega
            have e8 : (v1 : Int) + (dd : Int) = (v2 : Int) := by omega
            have e9 : IntKind.i64.wrap (v2 : Int) = (v2 : Int) := by rw [IntKind.wrap_i64]; omega
            have HV : Hid (v2 = 10 * vv + (c1 - 48)) := by show v2 = _; omega
            clear hdd hv1 hv2 hvv hd' hc1
            go_wp2
            go_roundg g
            case measure => omega
            case rel => exact ⟨i + 1, by omega, by rw [HE.out.1, ← HV.out], rfl, HE.out.2⟩
          · have hd' : c1 < 48 ∨ 57 < c1 := by
              have h3 : ¬ (48 ≤ x.toNat ∧ x.toNat ≤ 57) := fun h => hd ((digF_iff x).2 h)
              rw [hc1] at h3
              omega
            have HV : Hid (numV s.data.toList = #[.int .i64 0, .bool false]) := numV_no (List.all_eq_false.2 ⟨x, List.mem_of_getElem? hxl, hd⟩)
            clear htk hxl hx hd hc1
            rcases hd' with hd' | hd'
            · have e1 : (c1 : Int) < 48 := by omega
              go_wp2
              go_ret2
              exact ⟨by rw [HV.out]; rfl, (Below.refl _ w).alloc (Nat.le_refl _) _⟩
            · have e1 : ¬ (c1 : Int) < 48 := by omega
              have e2 : (57 : Int) < (c1 : Int) := by omega
              go_wp2
              go_ret2
              exact ⟨by rw [HV.out]; rfl, (Below.refl _ w).alloc (Nat.le_refl _) _⟩
        · have hnx := fun ty => run_next_any (P := Tryz.prog) w s i ty hi
          have hh := (decode_high s i hi (by rw [hx, hc1]; omega)).1
          have HV : Hid (numV s.data.toList = #[.int .i64 0, .bool false]) := by
            refine numV_no (List.all_eq_false.2 ⟨x, List.mem_of_getElem? hxl, fun hd => ?_⟩)
            have := (digF_iff x).1 hd
            omega
          obtain ⟨r, hr⟩ : ∃ r, (Utf8.decode s i).1 = r := ⟨_, rfl⟩
          obtain ⟨r2, hr2⟩ : ∃ r2, (Utf8.decode s i).2 = r2 := ⟨_, rfl⟩
          rw [hr, hr2] at hnx
          rw [hr] at hh
          clear htk hxl hx hc1 hr hr2
          have e1 : ¬ (r : Int) < 48 := by omega
          have e2 : (57 : Int) < (r : Int) := by omega
          go_wp2
          go_ret2
          exact ⟨by rw [HV.out]; rfl, (Below.refl _ w).alloc (Nat.le_refl _) _⟩
end Go.Proofs.YtapiedeekbfpnaaGreatDoor
