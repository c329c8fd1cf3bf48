/- A tree, plain: what Check answers. -/
import Derived.Maps.OwnSet
import Derived.Maps.Views
import Derived.WalkSmall
import Derived.Deep.RegionHeld3
import Derived.Lib.Walk
import Derived.Lib.Hide
import Derived.WalkKit
import Derived.Shelf.Abstract
import Derived.Lib.SlMapMerge
import Derived.Maps.Ext
import Derived.Maps.RangeWalk
import Derived.Sort.KeysCollected
import Derived.Laws.IdiomRangeMap
import Derived.RangeFuncFrom
import Derived.Shelf.SlIter.Keys
import Derived.Deep.AppendLies
import Derived.RangeFuncGives
import Derived.Shelf.SlIter.Collect
import Derived.Shelf.SlIter.Nil
import Derived.Shelf.SortM.Plain
import Derived.Shelf.SortM.SortNone
import Derived.Shelf.SlSortCmp.WholeK
import Derived.Shelf.SlSortCmp.NoneTotal
import Derived.Ground.GgzProg
import Derived.Ground.SlgmProg
import Derived.Ground.SlsfProg
import Derived.Test.YtapiedeekbfpnaaGreatDoorChecked
import Derived.Sort.OwnSorted
import Derived.Test.YtapiedeekbfpnaaGreatDoorTr2
namespace Go.Proofs.YtapiedeekbfpnaaGreatDoor
open Go.RowKit Go.Shelf Go.Maps

theorem tlt : ∀ a b : List UInt8, Op.bytesLess a b = decide (a < b)
  | [], [] => by simp [Op.bytesLess]
  | [], b :: s => by simp [Op.bytesLess]
  | a :: r, [] => by simp [Op.bytesLess]
  | a :: r, b :: s => by
    rw [Op.bytesLess, tlt r s]
    rw [Bool.eq_iff_iff]
    simp [List.cons_lt_cons_iff]

/-- A path's bytes. -/
def pth (f : Fl) : List UInt8 := f.pa.data.toList
/-- The first that is wrong. -/
def flEs : List Fl → Int
  | [] => 0
  | f :: l => if flE f = 0 then flEs l else flE f
theorem flEs_yes (ns : List Fl) (h : ∀ j (hj : j < ns.length), flE ns[j] = 0) : flEs ns = 0 := by
  induction ns with
  | nil => rfl
  | cons n l ih =>
    have h0 : flE n = 0 := h 0 (by simp)
    show (if flE n = 0 then flEs l else flE n) = 0
    rw [if_pos h0]
    exact ih (fun j hj => h (j + 1) (by simp; omega))
theorem flEs_no (ns : List Fl) (k : Nat) (hk : k < ns.length) (h : ∀ j (hj : j < ns.length), j < k → flE ns[j] = 0) (hne : flE ns[k] ≠ 0) : flEs ns = flE ns[k] := by
  induction ns generalizing k with
  | nil => simp at hk
  | cons n l ih =>
    show (if flE n = 0 then flEs l else flE n) = _
    cases k with
    | zero => exact if_neg (show ¬ flE n = 0 from hne)
    | succ k =>
      have h0 : flE n = 0 := h 0 (by simp) (by omega)
      rw [if_pos h0]
      exact ih k (by simpa using hk) (fun j hj hjk => h (j + 1) (by simp; omega) (by omega)) hne
theorem flEs_all {ns : List Fl} (h : flEs ns = 0) : ∀ f ∈ ns, flE f = 0 := by
  induction ns with
  | nil => intro f hf; cases hf
  | cons n l ih =>
    rw [show flEs (n :: l) = (if flE n = 0 then flEs l else flE n) from rfl] at h
    by_cases h0 : flE n = 0
    · rw [if_pos h0] at h
      intro f hf
      rcases List.mem_cons.1 hf with rfl | hf
      · exact h0
      · exact ih h f hf
    · rw [if_neg h0] at h
      exact absurd h h0
theorem flE_pa {f : Fl} (h : flE f = 0) : pathOk f.pa = true ∧ f.tx.size ≤ 100000 := by
  unfold flE at h
  by_cases h1 : pathOk f.pa = false
  · rw [if_pos h1] at h; exact absurd h (by decide)
  · rw [if_neg h1] at h
    by_cases h2 : 100000 < f.tx.size
    · rw [if_pos h2] at h; exact absurd h (by decide)
    · exact ⟨by simpa using h1, by omega⟩

/-- Do the paths rise? -/
def upF (L : List Fl) : Bool := decide (L.Pairwise fun f g => pth f < pth g)
/-- Does a path of the one go through a file of the other? -/
def thruF (L M : List Fl) : Bool := L.any fun f => M.any fun g => inB f.pa g.pa
/-- What Check answers. -/
def chF (L : List Fl) : Int := if 60 < L.length then 2 else if flEs L = 0 then (if (upF L && !thruF L L) = true then 0 else 6) else flEs L

/-- No path is less than the one ahead of it. -/
def adjF (L : List Fl) : Prop := ∀ j (hj : j + 1 < L.length), ¬ pth L[j + 1] < pth L[j]
theorem adjF_pw : ∀ L : List Fl, adjF L → L.Pairwise fun f g => pth f ≤ pth g
  | [], _ => .nil
  | [a], _ => List.pairwise_singleton _ _
  | a :: b :: l, h => by
    have h0 : pth a ≤ pth b := List.not_lt.1 (h 0 (by simp))
    have ih := adjF_pw (b :: l) (fun j hj => h (j + 1) (by simp at hj ⊢; omega))
    rw [List.pairwise_cons]
    refine ⟨fun x hx => ?_, ih⟩
    rcases List.mem_cons.1 hx with rfl | hx
    · exact h0
    · exact List.le_trans h0 ((List.pairwise_cons.1 ih).1 x hx)
theorem up_of {L : List Fl} (h : adjF L) (hn : (L.map pth).Nodup) : upF L = true := by
  unfold upF
  rw [decide_eq_true_eq]
  have h1 := adjF_pw L h
  have h2 : L.Pairwise fun f g => pth f ≠ pth g := List.pairwise_map.1 hn
  refine (h1.and h2).imp fun {f g} hh => ?_
  obtain ⟨ha, hb⟩ := hh
  rcases Decidable.em (pth f < pth g) with h | h
  · exact h
  · exact absurd (List.le_antisymm ha (List.not_lt.1 h)) hb
theorem up_pw {L : List Fl} (h : upF L = true) : L.Pairwise fun f g => pth f < pth g := of_decide_eq_true h
theorem up_nodup {L : List Fl} (h : upF L = true) : (L.map pth).Nodup :=
  List.pairwise_map.2 ((up_pw h).imp fun hh e => by rw [e] at hh; exact List.lt_irrefl _ hh)
theorem up_adj {L : List Fl} (h : upF L = true) : adjF L := fun j hj hlt => by
  have := List.pairwise_iff_getElem.1 (up_pw h) j (j + 1) (by omega) hj (by omega)
  exact List.lt_irrefl _ (List.lt_trans this hlt)

theorem snocInd {α : Type} {P : List α → Prop} (h0 : P []) (h1 : ∀ l a, P l → P (l ++ [a])) (l : List α) : P l := by
  rw [← List.reverse_reverse l]
  induction l.reverse with
  | nil => exact h0
  | cons a r ih => rw [List.reverse_cons]; exact h1 _ _ ih

/-- A file, as a map's datum. -/
def fD (f : Fl) : DataW Unit := .agg [.lit (.string (pth f)), .lit (.string f.tx.data.toList), .lit (.bool f.rn)]
/-- Files by their paths. -/
def byD (L : List Fl) : DataW Unit := L.foldl (fun D f => D.put (.string (pth f)) (fD f)) (.map [])
theorem byD_snoc (L : List Fl) (f : Fl) : byD (L ++ [f]) = (byD L).put (.string (pth f)) (fD f) := by simp [byD, List.foldl_append]
theorem byD_tidy (L : List Fl) : Tidy (byD L) := by
  refine snocInd (P := fun L => Tidy (byD L)) tidy_empty (fun l a ih => ?_) L
  rw [byD_snoc]
  exact ih.put (by exact trivial) _
theorem has_byD (L : List Fl) (k : List UInt8) : Maps.has (byD L) (.string k) = L.any (fun f => decide (pth f = k)) := by
  refine snocInd (P := fun L => Maps.has (byD L) (.string k) = L.any (fun f => decide (pth f = k))) rfl (fun l a ih => ?_) L
  rw [byD_snoc, List.any_append, ← ih]
  by_cases h : pth a = k
  · subst h
    rw [has_put_same (byD_tidy l).isMap (by exact trivial)]
    simp
  · rw [has_put_other (fun e => h (by injection e with e; exact e.symm))]
    simp [h]
theorem size_byD (L : List Fl) : Maps.size (byD L) ≤ L.length ∧ (Maps.size (byD L) = L.length ↔ (L.map pth).Nodup) := by
  refine snocInd (P := fun L => Maps.size (byD L) ≤ L.length ∧ (Maps.size (byD L) = L.length ↔ (L.map pth).Nodup)) ⟨Nat.le_refl _, by simp [byD, Maps.size]⟩ (fun l a ih => ?_) L
  rw [byD_snoc, size_put (byD_tidy l), has_byD, List.length_append, List.map_append]
  obtain ⟨h1, h2⟩ := ih
  have e1 : [a].length = 1 := rfl
  rw [e1]
  by_cases h : l.any (fun f => decide (pth f = pth a)) = true
  · rw [if_pos h]
    refine ⟨by omega, ⟨fun e => by omega, fun e => ?_⟩⟩
    exfalso
    obtain ⟨f, hf, he⟩ := List.any_eq_true.1 h
    rw [List.nodup_append] at e
    exact e.2.2 (pth f) (List.mem_map.2 ⟨f, hf, rfl⟩) (pth a) (by simp) (by simpa using he)
  · rw [if_neg h]
    refine ⟨by omega, ⟨fun e => ?_, fun e => ?_⟩⟩
    · rw [List.nodup_append]
      refine ⟨h2.1 (by omega), by simp, fun x hx y hy e => ?_⟩
      obtain ⟨f, hf, rfl⟩ := List.mem_map.1 hx
      have hy' : y = pth a := by simpa using hy
      exact h (List.any_eq_true.2 ⟨f, hf, by rw [e, hy']; simp⟩)
    · have := h2.2 (List.nodup_append.1 e).1
      omega
theorem at_byD {L : List Fl} (hn : (L.map pth).Nodup) {f : Fl} (hf : f ∈ L) (z : DataW Unit) : (byD L).atKey (.string (pth f)) z = fD f := by
  refine snocInd (P := fun L => (L.map pth).Nodup → f ∈ L → (byD L).atKey (.string (pth f)) z = fD f) (fun _ h => by cases h) (fun l a ih => ?_) L hn hf
  intro hn hf
  rw [byD_snoc]
  rw [List.map_append, List.nodup_append] at hn
  rcases List.mem_append.1 hf with h | h
  · have hne : pth f ≠ pth a := hn.2.2 _ (List.mem_map.2 ⟨f, h, rfl⟩) _ (by simp)
    rw [atKey_put_other (fun e => hne (by injection e))]
    exact ih hn.1 h
  · have e : f = a := by simpa using h
    subst e
    exact atKey_put_same (byD_tidy l).isMap (by exact trivial) _ _
theorem atNo_byD {L : List Fl} {k : List UInt8} (h : ∀ f ∈ L, pth f ≠ k) (z : DataW Unit) : (byD L).atKey (.string k) z = z := by
  refine atKey_of_not_has ?_ z
  rw [has_byD, List.any_eq_false]
  intro f hf
  simpa using h f hf

/-- Where a path's slash is, a file stands. -/
theorem inB_iff (p d : ByteArray) : inB p d = true ↔ ∃ i, i < p.size ∧ p.data.toList.getD i 0 = 47 ∧ d.data.toList = (p.extract 0 i).data.toList := by
  unfold inB
  rw [Bool.and_eq_true, Bool.and_eq_true, decide_eq_true_eq, decide_eq_true_eq, decide_eq_true_eq, Lib.toList_data, Lib.toList_data]
  constructor
  · rintro ⟨⟨h1, h2⟩, h3⟩
    exact ⟨d.size, h1, h2, h3.symm⟩
  · rintro ⟨i, h1, h2, h3⟩
    have h4 : d.size = i := by
      have := congrArg List.length h3
      rw [Array.length_toList, Array.length_toList] at this
      have e2 : (p.extract 0 i).data.size = i := by
        show (p.extract 0 i).size = i
        rw [ByteArray.size_extract]
        omega
      rw [e2] at this
      exact this
    rw [h4]
    exact ⟨⟨h1, h2⟩, h3.symm⟩
end Go.Proofs.YtapiedeekbfpnaaGreatDoor

/- Check: files in memory; by their paths; do they rise? -/
namespace Go.Proofs.YtapiedeekbfpnaaGreatDoor
open Go.RowKit Go.Shelf Go.Maps Go.WideMaps

theorem lawS : Keyed Tryz.prog 9 := string_keyed Tryz.underlying9
/-- The files L lie in block g from offset o on. -/
def FlAt (g o : Nat) (L : List Fl) (w : World) : Prop := ∀ j (hj : j < L.length), w.cell? ⟨g, o + j * 3, none⟩ = some (.string L[j].pa) ∧ w.cell? ⟨g, o + j * 3 + 1, none⟩ = some (.string L[j].tx) ∧ w.cell? ⟨g, o + j * 3 + 2, none⟩ = some (.bool L[j].rn)
theorem FlAt.below {B g o : Nat} {L : List Fl} {w w' : World} (h : FlAt g o L w) (hb : Below B w w') (hg : g < B) : FlAt g o L w' := fun j hj =>
  ⟨(hb.cell (p := ⟨g, o + j * 3, none⟩) hg).trans (h j hj).1, (hb.cell (p := ⟨g, o + j * 3 + 1, none⟩) hg).trans (h j hj).2.1, (hb.cell (p := ⟨g, o + j * 3 + 2, none⟩) hg).trans (h j hj).2.2⟩
/-- A slice that begins at ao has the files L. -/
def IsFl (w : World) (ao : Option Addr) (L : List Fl) : Prop := L = [] ∨ ∃ g o, ao = some ⟨g, o, none⟩ ∧ g < w.heap.size ∧ FlAt g o L w
theorem IsFl.below {B : Nat} {ao : Option Addr} {L : List Fl} {w w' : World} (h : IsFl w ao L) (hb : Below B w w') (hB : w.heap.size ≤ B) : IsFl w' ao L := by
  rcases h with h | ⟨g, o, h1, h2, h3⟩
  · exact .inl h
  · exact .inr ⟨g, o, h1, Nat.lt_of_lt_of_le h2 hb.size, h3.below hb (by omega)⟩

/-- How a file in a map reads. -/
def fileE (v : Value) : Option (DataW Unit × List MemPlace) := match v with
  | .agg a => match a.toList with
    | [.string p, .string t, .bool r] => some (fD ⟨p, t, r⟩, [])
    | _ => none
  | _ => none
theorem fileE_mk (f : Fl) : fileE (encF f) = some (fD f, []) := rfl
theorem fileE_inv {v : Value} {d : DataW Unit} {ps : List MemPlace} (h : fileE v = some (d, ps)) : ∃ f, v = encF f ∧ d = fD f := by
  unfold fileE at h
  split at h
  · rename_i a
    split at h
    · rename_i p t r e
      injection h with h
      injection h with h1 h2
      refine ⟨⟨p, t, r⟩, ?_, h1.symm⟩
      show Value.agg a = Value.agg #[.string p, .string t, .bool r]
      rw [← Array.toArray_toList (xs := a), e]
    · cases h
  · cases h
theorem fD_inj {f g : Fl} (h : fD f = fD g) : f = g := by
  obtain ⟨p, t, r⟩ := f
  obtain ⟨p2, t2, r2⟩ := g
  unfold fD at h
  injection h with h
  injection h with h1 h
  injection h with h2 h
  injection h with h3 _
  injection h1 with h1
  injection h1 with h1
  injection h2 with h2
  injection h2 with h2
  injection h3 with h3
  injection h3 with h3
  have e1 : p = p2 := by
    have := Array.toList_inj.1 (show p.data.toList = p2.data.toList from h1)
    obtain ⟨x⟩ := p; obtain ⟨y⟩ := p2; exact congrArg ByteArray.mk this
  have e2 : t = t2 := by
    have := Array.toList_inj.1 (show t.data.toList = t2.data.toList from h2)
    obtain ⟨x⟩ := t; obtain ⟨y⟩ := t2; exact congrArg ByteArray.mk this
  rw [e1, e2, show r = r2 from h3]
theorem zeroF (w : World) : (zeroValue 35).run Tryz.prog w = .ok (encF ⟨⟨#[]⟩, ⟨#[]⟩, false⟩) w := by kernel_rfl

theorem makeMap_n {t k e : TypeId} (ht : Tryz.prog.underlying t = some (.map k e)) (n : Nat) (w : World) : (Instr.makeMap t (some (.int .i64 (n : Int)))).run Tryz.prog w = .ok (.map (some w.heap.size)) (w.alloc (.map #[] 0)) := by
  simp [Instr.makeMap, run_underlying ht, asInt, asIntOf]

set_option maxHeartbeats 2000000 in
set_option maxRecDepth 100000 in
theorem byPath_any (ao : Option Addr) (cap : Nat) (L : List Fl) (w : World) (hn : L.length ≤ 1000000) (hl : IsFl w ao L) (hs : ∀ f ∈ L, f.pa.size ≤ maxLen) :
    Calls Tryz.prog 28 #[.slice ao L.length cap] w fun e w' => e = .returned (.map (some w.heap.size)) ∧ w'.ownsMap Tryz.prog 9 fileE w.heap.size L.length (byD L) ∧ Below w.heap.size w w' := by
  have HL : Hid (IsFl w ao L) := hl
  have HS : Hid (∀ f ∈ L, f.pa.size ≤ maxLen) := hs
  have hn1 : (L.length : Int) ≤ 1000000 := by omega
  have hmm := makeMap_n Tryz.underlying49
  clear hl hs
  go_enter Tryz.func28, Tryz.ntmps28
  go_wp2
  go_loopw [11] (fun i wr => ∃ k : Nat, k ≤ L.length ∧ i = .int .i64 k ∧ wr.ownsMap Tryz.prog 9 fileE w.heap.size k (byD (L.take k)) ∧ Below w.heap.size w wr) (fun i _ => L.length - (intOf i).toNat)
  case atStart => exact ⟨0, by omega, rfl, World.ownsMap_made _ _ _ _, (Below.refl _ _).alloc (Nat.le_refl _) _⟩
  case round =>
    obtain ⟨k, hk, rfl, hown, hb⟩ := hrel
    by_cases hlt : k < L.length
    · have HLB := HL.out.below hb (Nat.le_refl _)
      rcases HLB with h | ⟨g, o, rfl, hg, hc⟩
      · exfalso; rw [h] at hlt; exact absurd hlt (by simp)
      have hgs : g < w.heap.size := by
        rcases HL.out with h | ⟨g2, o2, e, h2, _⟩
        · exfalso; rw [h] at hlt; exact absurd hlt (by simp)
        · injection e with e; injection e with e1 _; rw [e1]; exact h2
      obtain ⟨c0, c1, c2⟩ := hc k hlt
      have hsz : L[k].pa.size ≤ maxLen := HS.out _ (List.getElem_mem hlt)
      have HE : Hid (byD (L.take (k + 1)) = (byD (L.take k)).put (.string (pth L[k])) (fD L[k])) := by
        show _ = _
        rw [List.take_succ_eq_append_getElem hlt, byD_snoc]
      have HB : Hid (Below w.heap.size w wr) := hb
      have hwz := hb.size
      generalize hx : L[k] = x at c0 c1 c2 hsz HE
      clear hx
      obtain ⟨p, t, r⟩ := x
      simp only at c0 c1 c2 hsz
      have hkey := keyOf_string_mk Tryz.underlying9 hsz
      have hown2 := hown.alloc (.cells #[.string p, .string t, .bool r] 35)
      clear hb hown hc
      go_wp2_with (first
        | (at_mapUpdate; refine wpList_mapUpdate_own _ rfl _ _ _ 49 rfl 9 35 lawS Tryz.underlying49 _ w.heap.size k (byD (L.take k)) rfl hown2 (by unfold maxLen; omega) _ _ _ rfl rfl hkey _ [] (fileE_mk ⟨p, t, r⟩) ?_; intro w1 hown1 hgrow1)
        | go_in)
      refine ⟨⟨k + 1, by omega, by go_num, by rw [HE.out]; exact hown1, ?_⟩, by simp [intOf]; omega⟩
      exact ((HB.out.alloc (by omega) _).grown hgrow1 (by rw [World.size_alloc]; omega) (fun j hj => by cases hj; exact Nat.le_refl _))
    · obtain rfl : k = L.length := by omega
      have HB : Hid (Below w.heap.size w wr) := hb
      have HO : Hid (wr.ownsMap Tryz.prog 9 fileE w.heap.size L.length (byD L)) := by
        rw [List.take_length] at hown
        exact hown
      clear hb hown
      go_wp2
      go_ret
      exact ⟨rfl, HO.out, HB.out⟩
end Go.Proofs.YtapiedeekbfpnaaGreatDoor

/- Check: do paths rise? -/
namespace Go.Proofs.YtapiedeekbfpnaaGreatDoor
open Go.RowKit Go.Shelf Go.Maps Go.WideMaps

theorem cmpB_neg (x y : ByteArray) : decide (cmpB x y < 0) = decide (x.data.toList < y.data.toList) := by
  unfold cmpB
  rw [Lib.toList_data, Lib.toList_data, tlt]
  by_cases h : x.data.toList < y.data.toList
  · simp [h]
  · by_cases h2 : x.data.toList = y.data.toList
    · simp [h2, List.lt_irrefl]
    · simp [h, h2]

/-- How the look ends. -/
def SortedP (L : List Fl) (w : World) (e : Ending) (w' : World) : Prop := ∃ b, e = .returned (.bool b) ∧ (b = true ↔ adjF L) ∧ Below w.heap.size w w'

set_option maxHeartbeats 2000000 in
set_option maxRecDepth 100000 in
theorem isSorted_any (ao : Option Addr) (cap : Nat) (L : List Fl) (w : World) (hn : L.length ≤ 1000000) (hl : IsFl w ao L) :
    Calls Tryz.prog 29 #[.slice ao L.length cap, .func (.func 30) #[] #[]] w (SortedP L w) := by
  have HL : Hid (IsFl w ao L) := hl
  have hn1 : (L.length : Int) ≤ 1000000 := by omega
  clear hl
  go_enter Tryz.func29, Tryz.ntmps29
  go_wp2
  go_loopw [5] (fun i wr => ∃ k : Nat, k ≤ L.length ∧ i = .int .i64 ((k : Int) - 1) ∧ (∀ j, (hj : j + 1 < L.length) → k ≤ j + 1 → ¬ pth L[j + 1] < pth L[j]) ∧ Below w.heap.size w wr) (fun i _ => (intOf i + 1).toNat)
  case atStart => exact ⟨L.length, Nat.le_refl _, by go_num, fun j hj hjk => by omega, Below.refl _ _⟩
  case round =>
    obtain ⟨k, hk, rfl, hlo, hb⟩ := hrel
    have HO : Hid (∀ j, (hj : j + 1 < L.length) → k ≤ j + 1 → ¬ pth L[j + 1] < pth L[j]) := hlo
    have HB : Hid (Below w.heap.size w wr) := hb
    have hsz := hb.size
    clear hlo
    by_cases hlt : 2 ≤ k
    · obtain ⟨m, rfl⟩ : ∃ m, k = m + 2 := ⟨k - 2, by omega⟩
      have HLB := HL.out.below hb (Nat.le_refl _)
      clear hb
      rcases HLB with h | ⟨g, o, rfl, hgr, hc⟩
      · exfalso; rw [h] at hk; simp at hk
      obtain ⟨a0, a1, a2⟩ := hc m (by omega)
      obtain ⟨b0, b1, b2⟩ := hc (m + 1) (by omega)
      have i0 : (((m + 2 : Nat) : Int) - 1) = (m : Int) + 1 := by omega
      rw [i0]
      have i1 : (0 : Int) ≤ (m : Int) := by omega
      have i2 : (m : Int) < L.length := by omega
      have i3 : (0 : Int) ≤ (m : Int) + 1 := by omega
      have i4 : (m : Int) + 1 < L.length := by omega
      have i5 : IntKind.i64.wrap ((m : Int) + 1 - 1) = m := by rw [wraps_i64 _ (by omega) (by omega)]; omega
      have i6 : IntKind.i64.wrap (m : Int) = m := wraps_i64 _ (by omega) (by omega)
      have i7 : ((m : Int) + 1).toNat = m + 1 := by omega
      generalize hx : L[m] = x at a0 a1 a2
      generalize hy : L[m + 1] = y at b0 b1 b2
      obtain ⟨xp, xt, xr⟩ := x
      obtain ⟨yp, yt, yr⟩ := y
      have HX : Hid (L[m] = ⟨xp, xt, xr⟩) := hx
      have HY : Hid (L[m + 1] = ⟨yp, yt, yr⟩) := hy
      simp only at a0 a1 a2 b0 b1 b2
      clear hx hy hc
      obtain ⟨cv, hcv⟩ : ∃ cv, cv = cmpB yp xp := ⟨_, rfl⟩
      have HC : Hid (∀ W, Calls Tryz.prog 30 #[.agg #[.string yp, .string yt, .bool yr], .agg #[.string xp, .string xt, .bool xr]] W fun e w' => e = .returned (.int .i64 cv) ∧ Below W.heap.size W w') := fun W => by
        rw [hcv]
        exact comparePaths_any ⟨yp, yt, yr⟩ ⟨xp, xt, xr⟩ W
      have HD : Hid (decide (cv < 0) = decide (pth L[m + 1] < pth L[m])) := by
        show _ = _
        rw [hcv, cmpB_neg, HX.out, HY.out]
        rfl
      clear hcv
      by_cases hls : cv < 0
      · have HLS : Hid (cv < 0) := hls
        go_wp2_with fail
        go_region_held3 (fun w' => w'.cell? ⟨g, o + m * 3, none⟩ = some (.string xp) ∧ w'.cell? ⟨g, o + m * 3 + 1, none⟩ = some (.string xt) ∧ w'.cell? ⟨g, o + m * 3 + 2, none⟩ = some (.bool xr) ∧ w'.cell? ⟨g, o + (m + 1) * 3, none⟩ = some (.string yp) ∧ w'.cell? ⟨g, o + (m + 1) * 3 + 1, none⟩ = some (.string yt) ∧ w'.cell? ⟨g, o + (m + 1) * 3 + 2, none⟩ = some (.bool yr) ∧ g < w'.heap.size)
          (first | (simp [go_sem, *]; done) | (go_split_ands; refine ⟨?_, ?_, ?_, ?_, ?_, ?_, ?_⟩ <;> first | (exact Nat.lt_of_lt_of_le (by assumption) hb1.size) | (rw [hb1.cell (p := ⟨g, _, none⟩) (by assumption)]; assumption)))
          (first
            | (go_at_call 30; refine (HC.out _).mono ?_; rintro e w1 ⟨rfl, hb1⟩)
            | fail)
        have HB3 : Hid (Below w.heap.size w w1) := HB.out.drew.trans (hb1.mono HB.out.drew.size)
        clear hb1
        go_wp2
        go_ret
        refine ⟨false, rfl, ⟨fun h => absurd h (by decide), fun h => ?_⟩, HB3.out⟩
        have := h m (by omega)
        have h2 := HD.out
        rw [decide_eq_true HLS.out] at h2
        exact absurd (of_decide_eq_true h2.symm) this
      · have HLS : Hid (0 ≤ cv) := by
          show 0 ≤ cv
          omega
        go_wp2_with fail
        go_region_held3 (fun w' => w'.cell? ⟨g, o + m * 3, none⟩ = some (.string xp) ∧ w'.cell? ⟨g, o + m * 3 + 1, none⟩ = some (.string xt) ∧ w'.cell? ⟨g, o + m * 3 + 2, none⟩ = some (.bool xr) ∧ w'.cell? ⟨g, o + (m + 1) * 3, none⟩ = some (.string yp) ∧ w'.cell? ⟨g, o + (m + 1) * 3 + 1, none⟩ = some (.string yt) ∧ w'.cell? ⟨g, o + (m + 1) * 3 + 2, none⟩ = some (.bool yr) ∧ g < w'.heap.size)
          (first | (simp [go_sem, *]; done) | (go_split_ands; refine ⟨?_, ?_, ?_, ?_, ?_, ?_, ?_⟩ <;> first | (exact Nat.lt_of_lt_of_le (by assumption) hb1.size) | (rw [hb1.cell (p := ⟨g, _, none⟩) (by assumption)]; assumption)))
          (first
            | (go_at_call 30; refine (HC.out _).mono ?_; rintro e w1 ⟨rfl, hb1⟩)
            | fail)
        have HB3 : Hid (Below w.heap.size w w1) := HB.out.drew.trans (hb1.mono HB.out.drew.size)
        clear hb1
        go_wp2
        refine ⟨⟨m + 1, by omega, by go_num, fun j hj hjk => ?_, HB3.out⟩, by simp [intOf]; omega⟩
        by_cases h : m + 2 ≤ j + 1
        · exact HO.out j hj h
        · obtain rfl : j = m := by omega
          intro h3
          have h2 := HD.out
          rw [decide_eq_true h3] at h2
          have h4 : cv < 0 := of_decide_eq_true h2
          have h5 : 0 ≤ cv := HLS.out
          omega
    · clear hb
      have i0 : ¬ (0 : Int) < (k : Int) - 1 := by omega
      go_wp2
      go_ret
      exact ⟨true, rfl, ⟨fun _ => fun j hj => HO.out j hj (by omega), fun _ => rfl⟩, HB.out⟩
end Go.Proofs.YtapiedeekbfpnaaGreatDoor

/- Check: does a path go through a file? -/
namespace Go.Proofs.YtapiedeekbfpnaaGreatDoor
open Go.RowKit Go.Shelf Go.Maps Go.WideMaps

theorem ownsMap_heap {H : Type} {w w' : World} {P : Program} {k : TypeId} {R : Value → Option (DataW H × List MemPlace)} {b n : Nat} {D : DataW H} (h : w.ownsMap P k R b n D) (hh : w'.heap[b]? = w.heap[b]?) : w'.ownsMap P k R b n D := by
  obtain ⟨es, clock, hb, rest⟩ := h
  exact ⟨es, clock, hh.trans hb, rest⟩

theorem lookF {M n : Nat} {D : DataW Unit} {w : World} (hown : w.ownsMap Tryz.prog 9 fileE M n D) (s : ByteArray) (hs : s.size ≤ maxLen) :
    ∃ f, fD f = D.atKey (.string s.data.toList) (fD ⟨⟨#[]⟩, ⟨#[]⟩, false⟩) ∧ ∀ W : World, W.heap[M]? = w.heap[M]? → (Instr.lookup 49 (.map (some M)) (.string s) true).run Tryz.prog W = .ok (.tuple #[encF f, .bool (Maps.has D (.string s.data.toList))]) W := by
  obtain ⟨v, ps, _, hv⟩ := hown.look_ok lawS Tryz.underlying49 (zeroF w) (fileE_mk ⟨⟨#[]⟩, ⟨#[]⟩, false⟩) (keyOf_string_mk Tryz.underlying9 hs)
  obtain ⟨f, rfl, hf⟩ := fileE_inv hv
  refine ⟨f, hf.symm, fun W hW => ?_⟩
  obtain ⟨v2, ps2, hr2, hv2⟩ := (ownsMap_heap hown hW).look_ok lawS Tryz.underlying49 (zeroF W) (fileE_mk ⟨⟨#[]⟩, ⟨#[]⟩, false⟩) (keyOf_string_mk Tryz.underlying9 hs)
  obtain ⟨f2, rfl, hf2⟩ := fileE_inv hv2
  rw [fD_inj (hf.symm.trans hf2)]
  exact hr2

/-- Does a path go through something that is there? -/
def thrB (p : ByteArray) (D : DataW Unit) : Bool := (List.range p.size).any fun i => decide (p.data.toList.getD i 0 = 47) && Maps.has D (.string (p.extract 0 i).data.toList)

theorem ne47 (x : UInt8) : ((x.toNat : Int) != 47) = !decide (x = 47) := by
  rw [← is47]
  rfl

set_option maxHeartbeats 4000000 in
set_option maxRecDepth 100000 in
theorem thr1_any (f : Fl) (bx M n : Nat) (D : DataW Unit) (w : World) (hbx : w.cell? ⟨bx, 0, none⟩ = some (.map (some M))) (hown : w.ownsMap Tryz.prog 9 fileE M n D) (hs : f.pa.size ≤ 1000000) :
    Calls Tryz.prog 52 #[encF f, .pointer (some ⟨bx, 0, none⟩)] w fun e w' => e = .returned (.bool (thrB f.pa D)) ∧ Below w.heap.size w w' := by
  obtain ⟨p, t, r⟩ := f
  have hbl : bx < w.heap.size := by simpa using World.block_lt_of_cell? w _ hbx
  have hMl := hown.lt
  have HX : Hid (w.cell? ⟨bx, 0, none⟩ = some (.map (some M))) := hbx
  have HO : Hid (w.ownsMap Tryz.prog 9 fileE M n D) := hown
  have hs1 : (p.size : Int) ≤ 1000000 := by simp only at hs; omega
  unfold encF
  simp only at hs ⊢
  clear hbx hown
  go_enter Tryz.func52, Tryz.ntmps52
  go_wp2
  go_loopw [10] (fun i wr => ∃ k : Nat, k ≤ p.size ∧ i = .int .i64 k ∧ (∀ j, j < k → (decide (p.data.toList.getD j 0 = 47) && Maps.has D (.string (p.extract 0 j).data.toList)) = false) ∧ Below (w.heap.size + 1) (w.alloc (.cells #[.string p, .string t, .bool r] 35)) wr) (fun i _ => p.size - (intOf i).toNat)
  case atStart => exact ⟨0, by omega, rfl, by omega, Below.refl _ _⟩
  case round =>
    obtain ⟨k, hk, rfl, hlo, hb⟩ := hrel
    have HL : Hid (∀ j, j < k → (decide (p.data.toList.getD j 0 = 47) && Maps.has D (.string (p.extract 0 j).data.toList)) = false) := hlo
    have HB : Hid (Below (w.heap.size + 1) (w.alloc (.cells #[.string p, .string t, .bool r] 35)) wr) := hb
    have hx := heap_alloc_new w (.cells #[.string p, .string t, .bool r] 35)
    have hwz : (w.alloc (.cells #[.string p, .string t, .bool r] 35)).heap.size = w.heap.size + 1 := World.size_alloc _ _
    have HF : Hid (Below w.heap.size w wr) := ((Below.refl _ w).alloc (Nat.le_refl _) _).trans (hb.mono (by omega))
    have hsz : w.heap.size + 1 ≤ wr.heap.size := by rw [← hwz]; exact hb.size
    have c0 : wr.cell? ⟨w.heap.size, 0, none⟩ = some (.string p) := by
      rw [hb.cell (p := ⟨w.heap.size, 0, none⟩) (by show w.heap.size < _; omega)]
      exact Lib.cell_of_heap hx 0
    have cb : wr.cell? ⟨bx, 0, none⟩ = some (.map (some M)) := by
      rw [HF.out.cell (p := ⟨bx, 0, none⟩) hbl]
      exact HX.out
    have hownr : wr.ownsMap Tryz.prog 9 fileE M n D := ownsMap_heap HO.out (HF.out.block M hMl)
    clear hlo hb hx hwz
    by_cases hlt : k < p.size
    · have hki : (k : Int) < p.size := by omega
      have hq : ((p[k].toNat : Int) != 47) = !decide (p.data.toList.getD k 0 = 47) := by rw [ne47, at_getD]
      by_cases h47 : p.data.toList.getD k 0 = 47
      · have H47 : Hid (p.data.toList.getD k 0 = 47) := h47
        rw [decide_eq_true h47] at hq
        have hq' : ((p[k].toNat : Int) != 47) = false := hq
        clear hq h47
        have hex : (p.extract 0 k).size ≤ maxLen := by rw [ByteArray.size_extract]; unfold maxLen; omega
        obtain ⟨f2, _, hlk⟩ := lookF hownr (p.extract 0 k) hex
        obtain ⟨fp, ft, fr⟩ := f2
        have l0 : (Instr.lookup 49 (.map (some M)) (.string (p.extract 0 k)) true).run Tryz.prog wr.drew = .ok (.tuple #[.agg #[.string fp, .string ft, .bool fr], .bool (Maps.has D (.string (p.extract 0 k).data.toList))]) wr.drew := hlk wr.drew rfl
        have l1 : ∀ o, (Instr.lookup 49 (.map (some M)) (.string (p.extract 0 k)) true).run Tryz.prog (wr.alloc o).drew = .ok (.tuple #[.agg #[.string fp, .string ft, .bool fr], .bool (Maps.has D (.string (p.extract 0 k).data.toList))]) (wr.alloc o).drew := fun o => hlk _ (Below.heap_alloc _ _ M hownr.lt)
        have hle : k ≤ p.size := by omega
        have HH : Hid ((decide (p.data.toList.getD k 0 = 47) && Maps.has D (.string (p.extract 0 k).data.toList)) = Maps.has D (.string (p.extract 0 k).data.toList)) := by
          show _ = _
          rw [decide_eq_true H47.out, Bool.true_and]
        have cA : ∀ o, (wr.alloc o).cell? ⟨w.heap.size, 0, none⟩ = some (.string p) := fun o => (((Below.refl _ wr).alloc (Nat.le_refl _) o).cell (p := ⟨w.heap.size, 0, none⟩) (by show w.heap.size < wr.heap.size; omega)).trans c0
        have cB : ∀ o, (wr.alloc o).cell? ⟨bx, 0, none⟩ = some (.map (some M)) := fun o => (((Below.refl _ wr).alloc (Nat.le_refl _) o).cell (p := ⟨bx, 0, none⟩) (by show bx < wr.heap.size; omega)).trans cb
        have HE : Hid (∀ o, Below (w.heap.size + 1) (w.alloc (.cells #[.string p, .string t, .bool r] 35)) (wr.alloc o).drew ∧ Below w.heap.size w (wr.alloc o).drew) := fun o => ⟨(HB.out.alloc (by omega) o).drew, (HF.out.alloc (by omega) o).drew⟩
        clear hlk hownr
        have HQ : Hid (∀ hb, Maps.has D (.string (p.extract 0 k).data.toList) = hb → (decide (p.data.toList.getD k 0 = 47) && Maps.has D (.string (p.extract 0 k).data.toList)) = hb) := fun hb h => HH.out.trans h
        obtain ⟨hb, hhb⟩ : ∃ hb, Maps.has D (.string (p.extract 0 k).data.toList) = hb := ⟨_, rfl⟩
        have HR : Hid ((decide (p.data.toList.getD k 0 = 47) && Maps.has D (.string (p.extract 0 k).data.toList)) = hb) := HQ.out hb hhb
        rw [hhb] at l0
        simp only [hhb] at l1
        clear hhb HH HQ
        cases hb with
        | true =>
          go_wp2
          go_region
          go_wp2
          go_ret
          refine ⟨?_, (HE.out _).2⟩
          have : thrB p D = true := List.any_eq_true.2 ⟨k, List.mem_range.2 hlt, HR.out⟩
          rw [this]
          rfl
        | false =>
          go_wp2
          go_region
          go_wp2
          refine ⟨⟨k + 1, by omega, by go_num, fun j hj => ?_, (HE.out _).1⟩, by simp [intOf]; omega⟩
          by_cases h : j < k
          · exact HL.out j h
          · obtain rfl : j = k := by omega
            exact HR.out
      · have H47 : Hid (¬ p.data.toList.getD k 0 = 47) := h47
        rw [decide_eq_false h47] at hq
        have hq' : ((p[k].toNat : Int) != 47) = true := hq
        clear hq h47 hownr
        go_wp2
        refine ⟨⟨k + 1, by omega, by go_num, fun j hj => ?_, HB.out⟩, by simp [intOf]; omega⟩
        by_cases h : j < k
        · exact HL.out j h
        · obtain rfl : j = k := by omega
          rw [decide_eq_false H47.out, Bool.false_and]
    · have hki : ¬ (k : Int) < p.size := by omega
      have e : thrB p D = false := by
        unfold thrB
        rw [List.any_eq_false]
        intro j hj
        rw [HL.out j (by have := List.mem_range.1 hj; omega)]
        decide
      have HE : Hid (thrB p D = false) := e
      clear e hownr
      go_wp2
      go_ret
      exact ⟨by rw [HE.out]; rfl, HF.out⟩

theorem thrB_byD (p : ByteArray) (M : List Fl) : thrB p (byD M) = M.any fun g => inB p g.pa := by
  rw [Bool.eq_iff_iff]
  unfold thrB
  rw [List.any_eq_true, List.any_eq_true]
  constructor
  · rintro ⟨i, hi, h⟩
    rw [Bool.and_eq_true, has_byD, List.any_eq_true] at h
    obtain ⟨h1, g, hg, h2⟩ := h
    exact ⟨g, hg, (inB_iff _ _).2 ⟨i, List.mem_range.1 hi, of_decide_eq_true h1, of_decide_eq_true h2⟩⟩
  · rintro ⟨g, hg, h⟩
    obtain ⟨i, h1, h2, h3⟩ := (inB_iff _ _).1 h
    refine ⟨i, List.mem_range.2 h1, ?_⟩
    rw [Bool.and_eq_true, has_byD, List.any_eq_true]
    exact ⟨decide_eq_true h2, g, hg, decide_eq_true h3⟩

theorem anyD (L M : List Fl) : (L.any fun f => thrB f.pa (byD M)) = thruF L M := by
  unfold thruF
  congr 1
  funext f
  exact thrB_byD _ _
end Go.Proofs.YtapiedeekbfpnaaGreatDoor

/- Check: does some path go through a file? -/
namespace Go.Proofs.YtapiedeekbfpnaaGreatDoor
open Go.RowKit Go.Shelf Go.Maps Go.WideMaps

/-- How the search ends. -/
def IdxP (b : Bool) (w : World) (e : Ending) (w' : World) : Prop := ∃ r : Int, e = .returned (.int .i64 r) ∧ decide (0 ≤ r) = b ∧ Below w.heap.size w w'

set_option maxHeartbeats 4000000 in
set_option maxRecDepth 100000 in
theorem idxT_any (ao : Option Addr) (cap : Nat) (L : List Fl) (bx M n : Nat) (D : DataW Unit) (w : World) (hn : L.length ≤ 1000000) (hl : IsFl w ao L) (hs : ∀ f ∈ L, f.pa.size ≤ 1000000) (hbx : w.cell? ⟨bx, 0, none⟩ = some (.map (some M))) (hown : w.ownsMap Tryz.prog 9 fileE M n D) :
    Calls Tryz.prog 108 #[.slice ao L.length cap, .func (.func 52) #[] #[.pointer (some ⟨bx, 0, none⟩)]] w (IdxP (L.any fun f => thrB f.pa D) w) := by
  have hbl : bx < w.heap.size := by simpa using World.block_lt_of_cell? w _ hbx
  have hMl := hown.lt
  have HL : Hid (IsFl w ao L) := hl
  have HS : Hid (∀ f ∈ L, f.pa.size ≤ 1000000) := hs
  have HX : Hid (w.cell? ⟨bx, 0, none⟩ = some (.map (some M))) := hbx
  have HO : Hid (w.ownsMap Tryz.prog 9 fileE M n D) := hown
  have hn1 : (L.length : Int) ≤ 1000000 := by omega
  clear hl hs hbx hown
  go_enter Tryz.func108, Tryz.ntmps108
  go_wp2
  go_loopw [8] (fun i wr => ∃ k : Nat, k ≤ L.length ∧ i = .int .i64 k ∧ (∀ j, (hj : j < L.length) → j < k → thrB L[j].pa D = false) ∧ Below w.heap.size w wr) (fun i _ => L.length - (intOf i).toNat)
  case atStart => exact ⟨0, by omega, rfl, by omega, Below.refl _ _⟩
  case round =>
    obtain ⟨k, hk, rfl, hlo, hb⟩ := hrel
    have HN : Hid (∀ j, (hj : j < L.length) → j < k → thrB L[j].pa D = false) := hlo
    have HB : Hid (Below w.heap.size w wr) := hb
    have hsz := hb.size
    clear hlo
    by_cases hlt : k < L.length
    · have HLB := HL.out.below hb (Nat.le_refl _)
      rcases HLB with h | ⟨g, o, rfl, hgr, hc⟩
      · exfalso; rw [h] at hlt; exact absurd hlt (by simp)
      obtain ⟨c0, c1, c2⟩ := hc k hlt
      have hpa := HS.out _ (List.getElem_mem hlt)
      have HC : Hid (Calls Tryz.prog 52 #[encF L[k], .pointer (some ⟨bx, 0, none⟩)] wr fun e w' => e = .returned (.bool (thrB L[k].pa D)) ∧ Below wr.heap.size wr w') :=
        thr1_any L[k] bx M n D wr ((hb.cell (p := ⟨bx, 0, none⟩) hbl).trans HX.out) (ownsMap_heap HO.out (hb.block M hMl)) hpa
      have HP : Hid (∀ b, thrB L[k].pa D = b → b = true → (L.any fun f => thrB f.pa D) = true) := fun b h1 h2 => List.any_eq_true.2 ⟨L[k], List.getElem_mem hlt, h1.trans h2⟩
      clear hc hb hpa
      unfold encF at HC
      generalize hx : L[k] = x at c0 c1 c2 HC HP
      have HK : Hid (L[k] = x) := hx
      clear hx
      obtain ⟨p, t, r⟩ := x
      simp only at c0 c1 c2 HC HP
      obtain ⟨b, hb2⟩ : ∃ b, thrB p D = b := ⟨_, rfl⟩
      have HE : Hid (thrB p D = b) := hb2
      rw [hb2] at HC
      clear hb2
      cases b with
      | true =>
        go_wp2_with (first | (go_at_call 52; refine HC.out.mono ?_; rintro e w1 ⟨rfl, hb1⟩) | go_in)
        go_ret
        refine ⟨k, rfl, ?_, HB.out.trans (hb1.mono hsz)⟩
        rw [HP.out true HE.out rfl]
        simp
      | false =>
        go_wp2_with (first | (go_at_call 52; refine HC.out.mono ?_; rintro e w1 ⟨rfl, hb1⟩) | go_in)
        refine ⟨⟨k + 1, by omega, by go_num, fun j hj hjk => ?_, HB.out.trans (hb1.mono hsz)⟩, by simp [intOf]; omega⟩
        by_cases h : j < k
        · exact HN.out j hj h
        · obtain rfl : j = k := by omega
          rw [HK.out]
          exact HE.out
    · clear hb
      go_wp2
      go_ret
      refine ⟨-1, rfl, ?_, HB.out⟩
      rw [show (L.any fun f => thrB f.pa D) = false from List.any_eq_false.2 fun f hf => by
        obtain ⟨j, hj, rfl⟩ := List.getElem_of_mem hf
        rw [HN.out j hj (by omega)]
        decide]
      rfl

set_option maxHeartbeats 2000000 in
set_option maxRecDepth 100000 in
theorem cfT_of (ao : Option Addr) (ln cap bx : Nat) (b : Bool) (w : World) (HI : Hid (Calls Tryz.prog 108 #[.slice ao ln cap, .func (.func 52) #[] #[.pointer (some ⟨bx, 0, none⟩)]] w (IdxP b w))) :
    Calls Tryz.prog 51 #[.slice ao ln cap, .func (.func 52) #[] #[.pointer (some ⟨bx, 0, none⟩)]] w fun e w' => e = .returned (.bool b) ∧ Below w.heap.size w w' := by
  go_enter Tryz.func51, Tryz.ntmps51
  go_wp2_with fail
  refine HI.out.mono ?_
  rintro e w1 ⟨r, rfl, hr, hb1⟩
  have HB1 : Hid (Below w.heap.size w w1) := hb1
  have HR : Hid (decide (0 ≤ r) = b) := hr
  clear hb1 hr
  go_wp2
  go_ret
  exact ⟨by rw [← HR.out]; rfl, HB1.out⟩

set_option maxHeartbeats 2000000 in
set_option maxRecDepth 100000 in
theorem someGo_any (ao : Option Addr) (cap : Nat) (L : List Fl) (M n : Nat) (D : DataW Unit) (w : World) (hn : L.length ≤ 1000000) (hl : IsFl w ao L) (hs : ∀ f ∈ L, f.pa.size ≤ 1000000) (hown : w.ownsMap Tryz.prog 9 fileE M n D) :
    Calls Tryz.prog 31 #[.slice ao L.length cap, .map (some M)] w fun e w' => e = .returned (.bool (L.any fun f => thrB f.pa D)) ∧ Below w.heap.size w w' := by
  have hA : Below w.heap.size w (w.alloc (.cells #[.map (some M)] 49)) := (Below.refl _ w).alloc (Nat.le_refl _) _
  have HC : Hid (Calls Tryz.prog 51 #[.slice ao L.length cap, .func (.func 52) #[] #[.pointer (some ⟨w.heap.size, 0, none⟩)]] (w.alloc (.cells #[.map (some M)] 49)) fun e w' => e = .returned (.bool (L.any fun f => thrB f.pa D)) ∧ Below w.heap.size w w') :=
    (cfT_of ao L.length cap w.heap.size _ _ (idxT_any ao cap L w.heap.size M n D (w.alloc (.cells #[.map (some M)] 49)) hn (hl.below hA (Nat.le_refl _)) hs (Lib.cell_of_heap (heap_alloc_new w _) 0) (hown.alloc _))).mono fun e w' h => ⟨h.1, hA.trans (h.2.mono hA.size)⟩
  clear hA hl hs hown
  go_enter Tryz.func31, Tryz.ntmps31
  go_wp2_with (first | (go_at_call 51; refine HC.out.mono ?_; rintro e w1 ⟨rfl, hb1⟩) | go_in)
  go_ret
  exact ⟨rfl, hb1⟩
end Go.Proofs.YtapiedeekbfpnaaGreatDoor

/- Check, whole. -/
namespace Go.Proofs.YtapiedeekbfpnaaGreatDoor
open Go.RowKit Go.Shelf Go.Maps Go.WideMaps

theorem pathOk_size {p : ByteArray} (h : pathOk p = true) : p.size ≤ 100 := by
  unfold pathOk at h
  rw [Bool.and_eq_true] at h
  exact of_decide_eq_true h.1

set_option maxHeartbeats 2000000 in
set_option maxRecDepth 100000 in
theorem Check_many (ao : Option Addr) (n cap : Nat) (w : World) (hn : 60 < n) :
    Calls Tryz.prog 13 #[.slice ao n cap] w fun e w' => e = .returned (.int .i64 2) ∧ Below w.heap.size w w' := by
  have hn1 : 60 < (n : Int) := by omega
  clear hn
  go_enter Tryz.func13, Tryz.ntmps13
  go_wp2
  go_ret
  exact ⟨rfl, Below.refl _ _⟩

set_option maxHeartbeats 4000000 in
set_option maxRecDepth 100000 in
theorem Check_few (ao : Option Addr) (cap : Nat) (L : List Fl) (w : World) (hn : L.length ≤ 60) (hl : IsFl w ao L) (hm : MaxIs w) :
    Calls Tryz.prog 13 #[.slice ao L.length cap] w fun e w' => e = .returned (.int .i64 (chF L)) ∧ Below w.heap.size w w' := by
  have HL : Hid (IsFl w ao L) := hl
  have HM : Hid (MaxIs w) := hm
  have HN : Hid (L.length ≤ 60) := hn
  have hn1 : (L.length : Int) ≤ 60 := by omega
  clear hl hm hn
  go_enter Tryz.func13, Tryz.ntmps13
  go_wp2
  go_loopw [12] (fun i wr => ∃ k : Nat, k ≤ L.length ∧ i = .int .i64 k ∧ (∀ j, (hj : j < L.length) → j < k → flE L[j] = 0) ∧ Below w.heap.size w wr) (fun i _ => L.length - (intOf i).toNat)
  case atStart => exact ⟨0, by omega, rfl, by omega, Below.refl _ _⟩
  case round =>
    obtain ⟨k, hk, rfl, hlo, hb⟩ := hrel
    have HO : Hid (∀ j, (hj : j < L.length) → j < k → flE L[j] = 0) := hlo
    have HB : Hid (Below w.heap.size w wr) := hb
    have hsz := hb.size
    have HLB : Hid (IsFl wr ao L) := HL.out.below hb (Nat.le_refl _)
    clear hlo
    by_cases hlt : k < L.length
    · rcases HLB.out with h | ⟨g, o, rfl, hgr, hc⟩
      · exfalso; rw [h] at hlt; exact absurd hlt (by simp)
      obtain ⟨c0, c1, c2⟩ := hc k hlt
      have HF : Hid (Calls Tryz.prog 27 #[encF L[k]] (wr.alloc (.cells #[.string L[k].pa, .string L[k].tx, .bool L[k].rn] 35)) fun e w' => e = .returned (.int .i64 (flE L[k])) ∧ Below w.heap.size w w') := by
        have hA : Below w.heap.size w (wr.alloc (.cells #[.string L[k].pa, .string L[k].tx, .bool L[k].rn] 35)) := hb.alloc hsz _
        refine (fileError_any L[k] _ ?_).mono fun e w' h => ⟨h.1, hA.trans (h.2.mono hA.size)⟩
        exact HM.out.up (hA.trans ((flW_bel _ _).mono hA.size))
      have HQ : Hid (flE L[k] ≠ 0 → chF L = flE L[k]) := fun hne => by
        have h1 := flEs_no L k hlt (fun j hj hjk => HO.out j hj hjk) hne
        unfold chF
        have := HN.out
        rw [if_neg (by omega), h1, if_neg hne]
      clear hc hb HLB
      unfold encF at HF
      generalize hx : L[k] = x at c0 c1 c2 HF HQ
      have HK : Hid (L[k] = x) := hx
      clear hx
      obtain ⟨p, t, r⟩ := x
      simp only at c0 c1 c2 HF
      obtain ⟨ev, hev⟩ : ∃ ev, flE ⟨p, t, r⟩ = ev := ⟨_, rfl⟩
      have HE : Hid (flE ⟨p, t, r⟩ = ev) := hev
      rw [hev] at HF HQ
      clear hev
      by_cases h0 : ev = 0
      · subst h0
        go_wp2_with (first | (go_at_call 27; refine HF.out.mono ?_; rintro e w1 ⟨rfl, hb1⟩) | go_in)
        refine ⟨⟨k + 1, by omega, by go_num, fun j hj hjk => ?_, hb1⟩, by simp [intOf]; omega⟩
        by_cases h : j < k
        · exact HO.out j hj h
        · obtain rfl : j = k := by omega
          rw [HK.out]
          exact HE.out
      · have H0 : Hid (ev ≠ 0) := h0
        have h0' : (ev != 0) = true := by simpa using h0
        clear h0
        go_wp2_with (first | (go_at_call 27; refine HF.out.mono ?_; rintro e w1 ⟨rfl, hb1⟩) | go_in)
        go_ret
        exact ⟨by rw [HQ.out H0.out]; rfl, hb1⟩
    · have h0 : flEs L = 0 := flEs_yes L fun j hj => HO.out j hj (by omega)
      have hall : ∀ f ∈ L, f.pa.size ≤ 100 := fun f hf => pathOk_size (flE_pa (flEs_all h0 f hf)).1
      have hN := HN.out
      have hki : ¬ (k : Int) < (L.length : Int) := by omega
      have HV : Hid (chF L = if (upF L && !thruF L L) = true then 0 else 6) := by
        show _ = _
        unfold chF
        rw [if_neg (by omega), if_pos h0]
      have HBy : Hid (Calls Tryz.prog 28 #[.slice ao L.length cap] wr fun e w' => e = .returned (.map (some wr.heap.size)) ∧ w'.ownsMap Tryz.prog 9 fileE wr.heap.size L.length (byD L) ∧ Below wr.heap.size wr w') :=
        byPath_any ao cap L wr (by omega) HLB.out (fun f hf => by have := hall f hf; unfold maxLen; omega)
      have HSo : Hid (∀ W, Below wr.heap.size wr W → Calls Tryz.prog 29 #[.slice ao L.length cap, .func (.func 30) #[] #[]] W (SortedP L W)) := fun W hW =>
        isSorted_any ao cap L W (by omega) (HLB.out.below hW (Nat.le_refl _))
      have HGo : Hid (∀ W, Below wr.heap.size wr W → W.ownsMap Tryz.prog 9 fileE wr.heap.size L.length (byD L) → Calls Tryz.prog 31 #[.slice ao L.length cap, .map (some wr.heap.size)] W fun e w' => e = .returned (.bool (thruF L L)) ∧ Below W.heap.size W w') := fun W hW ho => by
        have := someGo_any ao cap L wr.heap.size L.length (byD L) W (by omega) (HLB.out.below hW (Nat.le_refl _)) (fun f hf => by have := hall f hf; omega) ho
        rw [anyD] at this
        exact this
      have HU1 : Hid (adjF L → Maps.size (byD L) = L.length → upF L = true) := fun h1 h2 => up_of h1 ((size_byD L).2.1 h2)
      have HU2 : Hid (upF L = true → adjF L ∧ Maps.size (byD L) = L.length) := fun h => ⟨up_adj h, (size_byD L).2.2 (up_nodup h)⟩
      have hle := (size_byD L).1
      clear hb h0 hall HM HO HL HLB
      go_wp2_with fail
      refine HBy.out.mono ?_
      rintro e w1 ⟨rfl, hown1, hb1⟩
      have HO1 : Hid (w1.ownsMap Tryz.prog 9 fileE wr.heap.size L.length (byD L)) := hown1
      have HB1 : Hid (Below wr.heap.size wr w1) := hb1
      clear hown1 hb1
      go_wp2_with fail
      refine (HSo.out w1 HB1.out).mono ?_
      rintro e w2 ⟨b, rfl, hbi, hb2⟩
      have HB2 : Hid (Below wr.heap.size wr w2) := HB1.out.trans (hb2.mono HB1.out.size)
      have HO2 : Hid (w2.ownsMap Tryz.prog 9 fileE wr.heap.size L.length (byD L)) := ownsMap_heap HO1.out (hb2.block _ HO1.out.lt)
      have HI : Hid (b = true ↔ adjF L) := hbi
      have hln : ∀ ty, (Builtin.len_ #[49] ty #[.map (some wr.heap.size)]).run Tryz.prog w2 = .ok (.int .i64 (Maps.size (byD L) : Int)) w2 := fun ty => HO2.out.len Tryz.underlying49 ty
      have HGo2 : Hid (Calls Tryz.prog 31 #[.slice ao L.length cap, .map (some wr.heap.size)] w2 fun e w' => e = .returned (.bool (thruF L L)) ∧ Below w2.heap.size w2 w') := HGo.out w2 HB2.out HO2.out
      have HBw : Hid (Below w.heap.size w w2) := HB.out.trans (HB2.out.mono hsz)
      have hsz2 : w.heap.size ≤ w2.heap.size := HBw.out.size
      clear hbi hb2 HGo HSo HBy HO1 HB1 HB2 HO2 HB
      cases b with
      | false =>
        have HZ : Hid (chF L = 6) := by
          show _ = _
          rw [HV.out, if_neg]
          intro h
          rw [Bool.and_eq_true] at h
          exact absurd (HI.out.2 (HU2.out h.1).1) (by decide)
        go_wp2
        go_ret
        exact ⟨by rw [HZ.out]; rfl, HBw.out⟩
      | true =>
        by_cases hlt2 : Maps.size (byD L) < L.length
        · have HZ : Hid (chF L = 6) := by
            show _ = _
            rw [HV.out, if_neg]
            intro h
            rw [Bool.and_eq_true] at h
            have := (HU2.out h.1).2
            omega
          have hlt3 : (Maps.size (byD L) : Int) < (L.length : Int) := by omega
          clear hlt2
          go_wp2
          go_ret
          exact ⟨by rw [HZ.out]; rfl, HBw.out⟩
        · have hlt3 : ¬ (Maps.size (byD L) : Int) < (L.length : Int) := by omega
          have hup : upF L = true := HU1.out (HI.out.1 rfl) (by omega)
          obtain ⟨b, hb⟩ : ∃ b, thruF L L = b := ⟨_, rfl⟩
          have HV2 : Hid (chF L = if (!b) = true then 0 else 6) := by
            show _ = _
            rw [HV.out, hup, hb, Bool.true_and]
          rw [hb] at HGo2
          clear hlt2 hup hb HV HI
          cases b with
          | true =>
            go_wp2_with (first | (go_at_call 31; refine HGo2.out.mono ?_; rintro e w3 ⟨rfl, hb3⟩) | go_in)
            go_ret
            exact ⟨by rw [HV2.out]; rfl, HBw.out.trans (hb3.mono hsz2)⟩
          | false =>
            go_wp2_with (first | (go_at_call 31; refine HGo2.out.mono ?_; rintro e w3 ⟨rfl, hb3⟩) | go_in)
            go_ret
            exact ⟨by rw [HV2.out]; rfl, HBw.out.trans (hb3.mono hsz2)⟩

/-- Check, at whatever list. -/
theorem Check_any (ao : Option Addr) (cap : Nat) (L : List Fl) (w : World) (hl : IsFl w ao L) (hm : MaxIs w) :
    Calls Tryz.prog 13 #[.slice ao L.length cap] w fun e w' => e = .returned (.int .i64 (chF L)) ∧ Below w.heap.size w w' := by
  by_cases h : 60 < L.length
  · have e : chF L = 2 := by unfold chF; rw [if_pos h]
    rw [e]
    exact Check_many ao _ cap w h
  · exact Check_few ao cap L w (by omega) hl hm
end Go.Proofs.YtapiedeekbfpnaaGreatDoor

/- maps.Copy of files by their paths. -/
namespace Go.Proofs.YtapiedeekbfpnaaGreatDoor
open Go.RowKit Go.Shelf Go.Maps Go.WideMaps Go.Sort

theorem invKF : ∀ key kl, keyOf Tryz.prog 9 key = some kl → ∃ x : List UInt8, key = encStr x := fun key kl hk => by
  obtain ⟨x, hx, _⟩ := Maps.keyOf_str Tryz.underlying9 hk
  exact ⟨x, hx⟩
theorem invVF : ∀ (v : Value) (y : DataW Unit × List MemPlace), fileE v = some y → ∃ f : Fl, v = encF f := fun v y hv => by
  obtain ⟨d, ps⟩ := y
  obtain ⟨f, hf, _⟩ := fileE_inv hv
  exact ⟨f, hf⟩
theorem encF_inj {f g : Fl} (h : encF f = encF g) : f = g := by
  have h1 := fileE_mk f
  rw [h, fileE_mk g] at h1
  injection h1 with h1
  injection h1 with h1 _
  exact (fD_inj h1).symm

/-- What both maps hold, the second ahead. -/
def BothD (D Dd Ds : DataW Unit) : Prop := (∀ k, Maps.has D k = (Maps.has Dd k || Maps.has Ds k)) ∧ ∀ k z, D.atKey k z = if Maps.has Ds k = true then Ds.atKey k z else Dd.atKey k z
end Go.Proofs.YtapiedeekbfpnaaGreatDoor

/- The files of a map, collected. -/
namespace Go.Proofs.YtapiedeekbfpnaaGreatDoor
open Go.RowKit Go.Shelf Go.Maps Go.WideMaps Go.Sort

/-- All files of a map have come, each once. -/
def AllF (D : DataW Unit) (F : List Fl) : Prop := ∃ ks : List (List UInt8), ks.length = F.length ∧ ks.Nodup ∧ (∀ x, x ∈ ks ↔ Maps.has D (.string x) = true) ∧ ∀ (j : Nat) (h1 : j < ks.length) (h2 : j < F.length), ∀ z, D.atKey (.string ks[j]) z = fD F[j]

set_option maxRecDepth 100000 in
set_option maxHeartbeats 4000000 in
theorem values1 (F : Fence) (n : Nat) (hf : F.fn 91) (hro : F.round = none) (hn : 1 ≤ n) (Bm b nn : Nat) (D0 : DataW Unit) (w : World) (hBm : Bm < w.heap.size) (hm : w.cell? ⟨Bm, 0, none⟩ = some (.map (some b))) (hown : w.ownsMap Tryz.prog 9 fileE b nn D0) :
    SeqStopsK F n Tryz.prog 91 #[.pointer (some ⟨Bm, 0, none⟩)] (fun f : Fl => #[encF f]) KeepsWalks (AllF D0) (fun _ => True) (Maps.size D0) w := by
  intro l J Jx W hW hJ hJx hY h0
  have hmW : W.cell? ⟨Bm, 0, none⟩ = some (.map (some b)) := (hW.cell (p := ⟨Bm, 0, none⟩) hBm).trans hm
  have hownW : W.ownsMap Tryz.prog 9 fileE b nn D0 := ownsMap_heap hown (hW.block b hown.lt)
  clear hm hown hW
  show CallsIn F n Tryz.prog 91 #[.func (.yield l) #[] #[], .pointer (some ⟨Bm, 0, none⟩)] W _
  refine callsIn_of_wp Tryz.func91 rfl hf ?_ hro
  simp only [Tryz.ntmps91, List.size_toArray, List.length_cons, List.length_nil, Nat.reduceAdd, Nat.reduceSub, Array.replicate_succ, Array.replicate_zero, List.push_toArray, List.append_toArray, List.nil_append, List.cons_append]
  gi_wp2_with (first
    | (gi_at_range; refine wpListIn_range_own _ rfl _ 49 rfl 9 35 lawS Tryz.underlying49 _ b nn _ rfl hownW ?_; intro w0 hrg0 hg0 hs0)
    | gi_in)
  try go_frame
  gi_loopw [7] (fun _ wr => ∃ (left : Lit → Bool) (cnt : Nat) (ps : List (List UInt8 × Fl)), wr.ranges Tryz.prog 9 fileE b W.heap.size nn D0 left cnt ∧ ps.length + cnt ≤ Maps.size D0 ∧ Collected D0 left (ps.map (·.1)) ∧ (∀ p ∈ ps, ∀ z, D0.atKey (.string p.1) z = fD p.2) ∧ J (ps.map (·.2)) wr)
    (fun _ wr => wr.rangeLeft b W.heap.size)
  case atStart =>
    exact ⟨_, _, [], hrg0, by simp, Collected.start D0, by simp, hJ [] W w0 none h0 hg0 (fun r e => by cases e)⟩
  case round =>
    obtain ⟨left, cnt, ps, hrg, hcs, hC, hV, hJs⟩ := hrel
    gi_wp2_with (first
      | (gi_at_next; refine wpListIn_next_ranges _ rfl _ rfl 9 lawS fileE encStr encF invKF invVF b W.heap.size nn _ _ _ rfl hrg ?_ ?_)
      | gi_in)
    · intro hc0 hl0
      have hE : AllF D0 (ps.map (·.2)) := ⟨ps.map (·.1), by simp, hC.1, fun x => by rw [hC.2 x, hl0]; simp, fun j h1 h2 z => by
        simp only [List.getElem_map]
        exact hV _ (List.getElem_mem _) z⟩
      gi_wp2
      go_end0
      exact ⟨⟨_, rfl⟩, .inl ⟨_, hE, hJs⟩⟩
    · intro x f kl yd yp w2 cnt2 hkey hlk hv hat hrg2 hlt hg2 hs2 hen
      obtain ⟨x', ex, rfl, _⟩ := Maps.keyOf_str Tryz.underlying9 hkey
      obtain rfl : x = x' := encStr_inj ex
      have hyd : yd = fD f := by
        rw [fileE_mk f] at hv
        injection hv with hv
        injection hv with hv _
        exact hv.symm
      subst hyd
      have hJ2 : J (ps.map (·.2)) w2 := hJ _ wr w2 (some W.heap.size) hJs hg2 (fun r e => by cases e; exact ⟨Nat.le_refl _, hrg.iter_walk⟩)
      have hA2 : J (ps.map (·.2)) (w2.alloc (.cells #[.string f.pa, .string f.tx, .bool f.rn] 35)) := hJ _ w2 _ none hJ2 (World.grownBy_alloc _ _ none) (fun r e => by cases e)
      have hrg2a : (w2.alloc (.cells #[.string f.pa, .string f.tx, .bool f.rn] 35)).ranges Tryz.prog 9 fileE b W.heap.size nn D0 (fun z => left z && !z.sameKey (.string x)) cnt2 := hrg2.kept (World.grownBy_alloc _ _ none) (fun e => by cases e) (fun e => by cases e)
      obtain ⟨fn, tmps, assign, body, hy, hR⟩ := hY (ps.map (·.2)) f _ hA2 (by simp; omega)
      have hC2 : Collected D0 (fun z => left z && !z.sameKey (.string x)) ((ps ++ [(x, f)]).map (·.1)) := by simpa using hC.step hlk hat
      have hV2 : ∀ p ∈ ps ++ [(x, f)], ∀ z, D0.atKey (.string p.1) z = fD p.2 := fun p hp => (List.mem_append.1 hp).elim (hV p) (fun e => by simp at e; subst e; exact hat)
      obtain ⟨p, t, r⟩ := f
      unfold encF at hen hy
      simp only at hen hy hR hrg2a
      clear hs2 hg2 hJ2 hA2 hv hat
      gi_wp2
      refine hR.mono ?_
      rintro e W3 (⟨rfl, hJ3, hk3⟩ | ⟨rfl, hJx3⟩)
      · gi_wp2
        have hrg3 := hrg2a.of_walks hk3
        refine ⟨⟨_, cnt2, ps ++ [(x, ⟨p, t, r⟩)], hrg3, by simp; omega, hC2, hV2, by simpa using hJ3⟩, ?_⟩
        rw [hrg3.left_eq, hrg.left_eq]
        exact hlt
      · gi_wp2
        refine bodyPost_ret (results_none rfl _ _ _) rfl ?_
        exact ⟨⟨_, rfl⟩, .inr ⟨_, trivial, hJx3⟩⟩
end Go.Proofs.YtapiedeekbfpnaaGreatDoor

/- A tree over another, plain. -/
namespace Go.Proofs.YtapiedeekbfpnaaGreatDoor
open Go.RowKit Go.Shelf Go.Maps Go.WideMaps Go.Sort

def hasP (L : List Fl) (k : List UInt8) : Bool := L.any fun f => decide (pth f = k)
theorem hasP_iff (L : List Fl) (k : List UInt8) : hasP L k = true ↔ ∃ f ∈ L, pth f = k := by
  unfold hasP
  rw [List.any_eq_true]
  simp
/-- The files of both; where both have a path, the second's. -/
def ovU (A C : List Fl) : List Fl := A.filter (fun f => !hasP C (pth f)) ++ C
def ovF (A C : List Fl) : List Fl := (ovU A C).mergeSort fun f g => decide (pth f ≤ pth g)
theorem ovU_mem (A C : List Fl) (f : Fl) : f ∈ ovU A C ↔ (f ∈ A ∧ hasP C (pth f) = false) ∨ f ∈ C := by
  unfold ovU
  rw [List.mem_append, List.mem_filter]
  simp
theorem ovU_nodup {A C : List Fl} (ha : (A.map pth).Nodup) (hc : (C.map pth).Nodup) : ((ovU A C).map pth).Nodup := by
  unfold ovU
  rw [List.map_append, List.nodup_append]
  refine ⟨List.Nodup.sublist (List.Sublist.map _ List.filter_sublist) ha, hc, fun a h1 b h2 e => ?_⟩
  obtain ⟨f, hf, rfl⟩ := List.mem_map.1 h1
  obtain ⟨g, hg, rfl⟩ := List.mem_map.1 h2
  have h3 := (List.mem_filter.1 hf).2
  have h4 : hasP C (pth f) = true := (hasP_iff _ _).2 ⟨g, hg, e.symm⟩
  rw [h4] at h3
  cases h3
theorem ovF_perm (A C : List Fl) : (ovU A C).Perm (ovF A C) := (List.mergeSort_perm _ _).symm
theorem ovF_up {A C : List Fl} (ha : (A.map pth).Nodup) (hc : (C.map pth).Nodup) : (ovF A C).Pairwise fun f g => pth f < pth g := by
  have h1 : (ovF A C).Pairwise fun f g => decide (pth f ≤ pth g) = true := List.pairwise_mergeSort (fun a b c h1 h2 => by rw [decide_eq_true_eq] at *; exact List.le_trans h1 h2) (fun a b => by rw [Bool.or_eq_true, decide_eq_true_eq, decide_eq_true_eq]; exact List.le_total _ _) _
  have h2 : ((ovF A C).map pth).Nodup := ((ovF_perm A C).map pth).nodup_iff.1 (ovU_nodup ha hc)
  have h3 : (ovF A C).Pairwise fun f g => pth f ≠ pth g := List.pairwise_map.1 h2
  refine (h1.and h3).imp fun {f g} h => ?_
  have h4 : pth f ≤ pth g := by simpa using h.1
  rcases Decidable.em (pth f < pth g) with h5 | h5
  · exact h5
  · exact absurd (List.le_antisymm h4 (List.not_lt.1 h5)) h.2
theorem has_hasP (L : List Fl) (k : List UInt8) : Maps.has (byD L) (.string k) = hasP L k := has_byD L k

theorem both_at {D : DataW Unit} {A C : List Fl} (hD : BothD D (byD A) (byD C)) (ha : (A.map pth).Nodup) (hc : (C.map pth).Nodup) {f : Fl} (hf : f ∈ ovU A C) : Maps.has D (.string (pth f)) = true ∧ ∀ z, D.atKey (.string (pth f)) z = fD f := by
  rcases (ovU_mem A C f).1 hf with ⟨h1, h2⟩ | h1
  · refine ⟨?_, fun z => ?_⟩
    · rw [hD.1, has_hasP, has_hasP, (hasP_iff A _).2 ⟨f, h1, rfl⟩]
      rfl
    · rw [hD.2, has_hasP, h2, if_neg (by decide)]
      exact at_byD ha h1 z
  · have h2 := (hasP_iff C _).2 ⟨f, h1, rfl⟩
    refine ⟨?_, fun z => ?_⟩
    · rw [hD.1, has_hasP, has_hasP, h2, Bool.or_true]
    · rw [hD.2, has_hasP, h2, if_pos rfl]
      exact at_byD hc h1 z
theorem both_of {D : DataW Unit} {A C : List Fl} (hD : BothD D (byD A) (byD C)) {k : List UInt8} (hk : Maps.has D (.string k) = true) : ∃ f ∈ ovU A C, pth f = k := by
  rw [hD.1, has_hasP, has_hasP] at hk
  by_cases h : hasP C k = true
  · obtain ⟨f, hf, e⟩ := (hasP_iff C k).1 h
    exact ⟨f, (ovU_mem A C f).2 (.inr hf), e⟩
  · have h' : hasP C k = false := by simpa using h
    rw [h', Bool.or_false] at hk
    obtain ⟨f, hf, rfl⟩ := (hasP_iff A k).1 hk
    exact ⟨f, (ovU_mem A C f).2 (.inl ⟨hf, h'⟩), rfl⟩
/-- What the map gives is what both have, in some order. -/
theorem allF_perm {D : DataW Unit} {A C F : List Fl} (hD : BothD D (byD A) (byD C)) (ha : (A.map pth).Nodup) (hc : (C.map pth).Nodup) (hF : AllF D F) : F.Perm (ovF A C) := by
  obtain ⟨ks, hl, hnd, hks, hat⟩ := hF
  have hp : ∀ (j : Nat) (h2 : j < F.length), F[j] ∈ ovU A C ∧ pth F[j] = ks[j]'(by omega) := fun j h2 => by
    have h1 : j < ks.length := by omega
    obtain ⟨f, hf, e⟩ := both_of hD ((hks _).1 (List.getElem_mem h1))
    have e2 : F[j] = f := by
      have h3 := hat j h1 h2 (fD ⟨⟨#[]⟩, ⟨#[]⟩, false⟩)
      rw [← e, (both_at hD ha hc hf).2] at h3
      exact (fD_inj h3).symm
    rw [e2]
    exact ⟨hf, e⟩
  have hm : F.map pth = ks := by
    refine List.ext_getElem (by simp [hl]) fun j h1 h2 => ?_
    rw [List.getElem_map]
    exact (hp j (by simpa using h1)).2
  have nF : F.Nodup := by
    rw [← hm] at hnd
    exact (List.pairwise_map.1 hnd).imp fun h e => h (by rw [e])
  have nU : (ovU A C).Nodup := (List.pairwise_map.1 (ovU_nodup ha hc)).imp fun h e => h (by rw [e])
  refine ((List.perm_ext_iff_of_nodup nF nU).2 fun f => ⟨fun h => ?_, fun h => ?_⟩).trans (ovF_perm A C)
  · obtain ⟨j, hj, rfl⟩ := List.mem_iff_getElem.1 h
    exact (hp j hj).1
  · have h1 := both_at hD ha hc h
    obtain ⟨j, hj, e⟩ := List.mem_iff_getElem.1 ((hks _).2 h1.1)
    have h2 : j < F.length := by omega
    have h3 := hat j hj h2 (fD ⟨⟨#[]⟩, ⟨#[]⟩, false⟩)
    rw [e, h1.2] at h3
    rw [fD_inj h3]
    exact List.getElem_mem h2
/-- A list that rises and has the same files is the same. -/
theorem ovF_uniq {A C X : List Fl} (ha : (A.map pth).Nodup) (hc : (C.map pth).Nodup) (hx : X.Pairwise fun f g => pth f < pth g) (h : ∀ f, f ∈ X ↔ f ∈ ovU A C) : X = ovF A C := by
  have nX : X.Nodup := hx.imp fun h e => by rw [e] at h; exact List.lt_irrefl _ h
  have nU : (ovU A C).Nodup := (List.pairwise_map.1 (ovU_nodup ha hc)).imp fun h e => h (by rw [e])
  have hp : X.Perm (ovF A C) := ((List.perm_ext_iff_of_nodup nX nU).2 h).trans (ovF_perm A C)
  exact List.Perm.eq_of_pairwise (le := fun f g : Fl => pth f < pth g) (fun x y _ _ h1 h2 => absurd (List.lt_trans h1 h2) (List.lt_irrefl _)) hx (ovF_up ha hc) hp
end Go.Proofs.YtapiedeekbfpnaaGreatDoor

/- A tree over another, as the document lays it; maps.Values. -/
namespace Go.Proofs.YtapiedeekbfpnaaGreatDoor
open Go.RowKit Go.Shelf Go.Maps Go.WideMaps Go.Sort

/-- A file among others that rise. -/
def insF (f : Fl) : List Fl → List Fl
  | [] => [f]
  | g :: l => if pth g < pth f then g :: insF f l else f :: g :: l
theorem insF_mem (f x : Fl) : ∀ L : List Fl, x ∈ insF f L ↔ x = f ∨ x ∈ L
  | [] => by simp [insF]
  | g :: l => by
    unfold insF
    split
    · rw [List.mem_cons, insF_mem f x l, List.mem_cons]
      constructor
      · rintro (h | h | h)
        · exact .inr (.inl h)
        · exact .inl h
        · exact .inr (.inr h)
      · rintro (h | h | h)
        · exact .inr (.inl h)
        · exact .inl h
        · exact .inr (.inr h)
    · rw [List.mem_cons]
theorem insF_up (f : Fl) : ∀ L : List Fl, L.Pairwise (fun a b => pth a < pth b) → (∀ g ∈ L, pth g ≠ pth f) → (insF f L).Pairwise fun a b => pth a < pth b
  | [], _, _ => by simp [insF]
  | g :: l, h, hn => by
    rw [List.pairwise_cons] at h
    unfold insF
    split
    · rename_i hlt
      rw [List.pairwise_cons]
      refine ⟨fun a ha => ?_, insF_up f l h.2 fun g hg => hn g (List.mem_cons_of_mem _ hg)⟩
      rcases (insF_mem f a l).1 ha with rfl | ha
      · exact hlt
      · exact h.1 a ha
    · rename_i hlt
      have h1 : pth f < pth g := by
        rcases Decidable.em (pth f < pth g) with h2 | h2
        · exact h2
        · exact absurd (List.le_antisymm (List.not_lt.1 h2) (List.not_lt.1 hlt)) (hn g (by simp))
      rw [List.pairwise_cons, List.pairwise_cons]
      refine ⟨fun a ha => ?_, h⟩
      rcases List.mem_cons.1 ha with rfl | ha
      · exact h1
      · exact List.lt_trans h1 (h.1 a ha)
/-- One file over a tree: in its place, or among the others. -/
def putF (L : List Fl) (f : Fl) : List Fl := if hasP L (pth f) = true then L.map (fun g => if pth g = pth f then f else g) else insF f L
theorem putF_mem (L : List Fl) (f x : Fl) : x ∈ putF L f ↔ x = f ∨ (x ∈ L ∧ pth x ≠ pth f) := by
  unfold putF
  split
  · rename_i h
    obtain ⟨g, hg, e⟩ := (hasP_iff L _).1 h
    rw [List.mem_map]
    constructor
    · rintro ⟨a, ha, rfl⟩
      by_cases e2 : pth a = pth f
      · rw [if_pos e2]; exact .inl rfl
      · rw [if_neg e2]; exact .inr ⟨ha, e2⟩
    · rintro (rfl | ⟨h1, h2⟩)
      · exact ⟨g, hg, if_pos e⟩
      · exact ⟨x, h1, if_neg h2⟩
  · rename_i h
    rw [insF_mem]
    constructor
    · rintro (h1 | h1)
      · exact .inl h1
      · exact .inr ⟨h1, fun e => h ((hasP_iff L _).2 ⟨x, h1, e⟩)⟩
    · rintro (h1 | h1)
      · exact .inl h1
      · exact .inr h1.1
theorem putF_up (L : List Fl) (f : Fl) (h : L.Pairwise fun a b => pth a < pth b) : (putF L f).Pairwise fun a b => pth a < pth b := by
  unfold putF
  split
  · rw [List.pairwise_map]
    have e : ∀ g : Fl, pth (if pth g = pth f then f else g) = pth g := fun g => by
      split
      · rename_i e; exact e.symm
      · rfl
    exact h.imp fun {a b} hab => by rw [e, e]; exact hab
  · rename_i hn
    exact insF_up f L h fun g hg e => hn ((hasP_iff L _).2 ⟨g, hg, e⟩)
/-- All files of the second over the first. -/
def ovR (A C : List Fl) : List Fl := C.foldl putF A
theorem ovR_snoc (A C : List Fl) (f : Fl) : ovR A (C ++ [f]) = putF (ovR A C) f := by simp [ovR, List.foldl_append]
theorem ovR_up (A C : List Fl) (h : A.Pairwise fun a b => pth a < pth b) : (ovR A C).Pairwise fun a b => pth a < pth b := by
  refine snocInd (P := fun C => (ovR A C).Pairwise fun a b => pth a < pth b) h (fun l a ih => ?_) C
  rw [ovR_snoc]
  exact putF_up _ _ ih
theorem ovR_mem (A C : List Fl) (hc : (C.map pth).Nodup) (x : Fl) : x ∈ ovR A C ↔ x ∈ ovU A C := by
  refine snocInd (P := fun C => (C.map pth).Nodup → (x ∈ ovR A C ↔ x ∈ ovU A C)) (fun _ => by simp [ovR, ovU, hasP]) (fun l a ih => ?_) C hc
  intro hn
  rw [List.map_append, List.nodup_append] at hn
  have h1 : ∀ g ∈ l, pth g ≠ pth a := fun g hg e => hn.2.2 _ (List.mem_map.2 ⟨g, hg, rfl⟩) (pth a) (by simp) e
  have h2 : ∀ k, hasP (l ++ [a]) k = false ↔ hasP l k = false ∧ k ≠ pth a := fun k => by
    unfold hasP
    rw [List.any_append, Bool.or_eq_false_iff]
    refine and_congr Iff.rfl ?_
    rw [List.any_cons, List.any_nil, Bool.or_false, decide_eq_false_iff_not]
    exact ⟨fun h e => h e.symm, fun h e => h e.symm⟩
  rw [ovR_snoc, putF_mem, ih hn.1, ovU_mem, ovU_mem, h2, List.mem_append, List.mem_singleton]
  constructor
  · rintro (h | ⟨⟨h3, h4⟩ | h3, h5⟩)
    · exact .inr (.inr h)
    · exact .inl ⟨h3, h4, h5⟩
    · exact .inr (.inl h3)
  · rintro (⟨h3, h4, h5⟩ | h3 | h3)
    · exact .inr ⟨.inl ⟨h3, h4⟩, h5⟩
    · exact .inr ⟨.inr h3, h1 x h3⟩
    · exact .inl h3
/-- The document's and the program's are one list. -/
theorem ov_same {A C : List Fl} (ha : A.Pairwise fun a b => pth a < pth b) (hc : (C.map pth).Nodup) : ovR A C = ovF A C :=
  ovF_uniq (List.pairwise_map.2 (ha.imp fun h e => by rw [e] at h; exact List.lt_irrefl _ h)) hc (ovR_up A C ha) (ovR_mem A C hc)

set_option maxRecDepth 100000 in
set_option maxHeartbeats 1000000 in
theorem Values_any (mb : Option Nat) (w : World) :
    Calls Tryz.prog 38 #[.map mb] w fun e w' => e = .returned (.func (.func 91) #[] #[.pointer (some ⟨w.heap.size, 0, none⟩)]) ∧ w' = w.alloc (.cells #[.map mb] 49) := by
  go_enter Tryz.func38, Tryz.ntmps38
  go_wp2
  go_ret
  exact ⟨rfl, rfl⟩
end Go.Proofs.YtapiedeekbfpnaaGreatDoor

/- What is made, as a list: what the texts on values that are collected lean on, where a seat has no trees to pack. -/
namespace Go.Proofs.YtapiedeekbfpnaaGreatDoor
open Go.RowKit Go.Shelf Go.Maps Go.WideMaps Go.Sort

theorem row_heap {w w' : World} {base : Nat} {e : TypeId} {size : Nat} {v : Value} {n : Nat} {xs : List Value} (h : w.ownsRow base e size v n xs) (hh : ∀ x, v.ownBlock = some x → w'.heap[x]? = w.heap[x]?) : w'.ownsRow base e size v n xs := by
  refine ⟨h.1, ?_⟩
  rcases h.2 with h2 | ⟨g, cap, cur, hv, hb, hg, r⟩
  · exact .inl h2
  · exact .inr ⟨g, cap, cur, hv, hb, (hh g (by rw [hv]; rfl)).trans hg, r⟩
def flCells (L : List Fl) : List Value := L.flatMap fun f => [.string f.pa, .string f.tx, .bool f.rn]
theorem flCells_get (L : List Fl) (j : Nat) (hj : j < L.length) : (flCells L)[j * 3]? = some (.string L[j].pa) ∧ (flCells L)[j * 3 + 1]? = some (.string L[j].tx) ∧ (flCells L)[j * 3 + 2]? = some (.bool L[j].rn) := by
  induction L generalizing j with
  | nil => simp at hj
  | cons f l ih =>
    have e : flCells (f :: l) = [.string f.pa, .string f.tx, .bool f.rn] ++ flCells l := rfl
    cases j with
    | zero => rw [e]; exact ⟨rfl, rfl, rfl⟩
    | succ j =>
      have h := ih j (by simpa using hj)
      rw [e, show (j + 1) * 3 = j * 3 + 3 by omega]
      exact ⟨by simpa using h.1, by simpa using h.2.1, by simpa using h.2.2⟩
theorem own_files {w : World} {base : Nat} {ao : Option Addr} {n cap : Nat} {L : List Fl} (h : w.ownsRow base 35 3 (.slice ao n cap) n (flCells L)) (hn : n = L.length) : IsFl w ao L := by
  have hcells := fun (g : Nat) (hg : (Value.slice ao n cap).ownBlock = some g) => h.cells hg
  rcases h.2 with ⟨h1, h2⟩ | ⟨g, cap, cur, hv, _, hh, _⟩
  · exact .inl (List.length_eq_zero_iff.1 (by omega))
  · injection hv with hv _ _
    subst hv
    refine .inr ⟨g, 0, rfl, (Array.getElem?_eq_some_iff.1 hh).1, fun j hj => ?_⟩
    have k := flCells_get L j hj
    have c0 := hcells g rfl _ _ k.1
    have c1 := hcells g rfl _ _ k.2.1
    have c2 := hcells g rfl _ _ k.2.2
    rw [addr_add] at c0 c1 c2
    exact ⟨c0, c1, c2⟩
theorem info_p {i : Option TypeInfo} {z : Value} {s b : Nat} (h : i.map (fun i => (i.zero, i.size, i.bytes)) = some (some z, s, b)) : ∃ i0, i = some i0 ∧ i0.zero = some z ∧ i0.size = s ∧ i0.bytes = b := by
  cases i with
  | none => cases h
  | some i0 =>
    simp at h
    exact ⟨i0, rfl, h.1, h.2.1, h.2.2⟩
theorem infF : (Tryz.prog.info? 35).map (fun i => (i.zero, i.size, i.bytes)) = some (some (.agg #[.string ⟨#[]⟩, .string ⟨#[]⟩, .bool false]), 3, 40) := by kernel_rfl
theorem add0 (g j : Nat) : (⟨g, 0, none⟩ : Addr).add j = ⟨g, j, none⟩ := by
  unfold Addr.add
  split <;> simp_all
theorem new_cells (W : World) (cs : Array Value) (ty : TypeId) : ∀ (k : Nat) (u : Value), cs.toList[k]? = some u → (W.alloc (.cells cs ty)).cell? ((⟨W.heap.size, 0, none⟩ : Addr).add k) = some u := by
  intro k u hk
  rw [add0, Lib.cell_of_heap (heap_alloc_new W _)]
  simpa using hk
/-- Appending, shut: the walk is not to look into it. -/
def appS (ats : Array TypeId) (ty : TypeId) (args : Array Value) : Sem Value := Builtin.append_ ats ty args
theorem appS_eq (ats : Array TypeId) (ty : TypeId) (args : Array Value) : Builtin.append_ ats ty args = appS ats ty args := rfl
end Go.Proofs.YtapiedeekbfpnaaGreatDoor

/- slices.AppendSeq, Collect and SortedFunc of files; laidOver. -/
namespace Go.Proofs.YtapiedeekbfpnaaGreatDoor
open Go.RowKit Go.Shelf Go.Maps Go.WideMaps Go.Sort

/-- A part of a text, by the way that leads to it. -/
def subO : List Bool → Code → Code
  | [], c => c
  | false :: p, .seq a _ => subO p a
  | true :: p, .seq _ b => subO p b
  | _ :: p, .block _ c => subO p c
  | _ :: p, .loop c => subO p c
  | false :: p, .cond _ a _ => subO p a
  | true :: p, .cond _ _ b => subO p b
  | false :: p, .rangeFunc _ _ a _ => subO p a
  | true :: p, .rangeFunc _ _ _ b => subO p b
  | _ :: _, c => c
/-- The loop's record. -/
def apR (ca cb : Code) (fn : FuncId) (sv : Value) (Bs D : Nat) (st : LoopState) (pend : Option Code) : Loop :=
  { state := st, pending := pend, fn, tmps := #[.slice none 0 0, sv, .pointer (some ⟨Bs, 0, none⟩), undef, .slice none 0 0, undef, sv, undef, undef, undef, undef, undef, undef], params := #[7], assign := ca, body := cb, defers := D }
/-- Between two rounds. -/
structure ApF (ca cb : Code) (w0 : World) (fn : FuncId) (sv : Value) (Bs l D : Nat) (F : List Fl) (W : World) : Prop where
  box : ∃ v, W.heap[Bs]? = some (.cells #[v] 22 (0, 0)) ∧ W.ownsRow w0.heap.size 35 3 v F.length (flCells F)
  L : W.heap[l]? = some (.loop (apR ca cb fn sv Bs D .ready none))
  K : W.heap[D]? = some (.deferred (some []))
  below : Below w0.heap.size w0 W
theorem ap_abides (ca cb : Code) (w0 : World) (fn : FuncId) (sv : Value) (Bs l D B : Nat) (hB : w0.heap.size ≤ B) : AbidesFrom B (ApF ca cb w0 fn sv Bs l D) := fun s W W' row h hg hrow => by
  have hrow' : ∀ r, row = some r → ∃ o : Obj, W.heap[r]? = some o ∧ o.isWalk = true := fun r e => (hrow r e).2
  obtain ⟨v, hv, hr⟩ := h.box
  exact ⟨⟨v, (grownBy_keeps hg hrow' hv rfl).trans hv, ownsRow_abides_a hr hg hrow'⟩, (grownBy_keeps hg hrow' h.L rfl).trans h.L, (grownBy_keeps hg hrow' h.K rfl).trans h.K,
    h.below.grown hg h.below.size (fun k e => Nat.le_trans hB (hrow k e).1)⟩

set_option maxRecDepth 100000 in
set_option maxHeartbeats 4000000 in
theorem apYieldF (ca cb : Code) (hca : ca = (subO [true, false, true, false, false] (Tryz.f124.body.getD .skip))) (hcb : cb = (subO [true, false, true, false, true] (Tryz.f124.body.getD .skip))) (F : Fence) (m : Nat) (w0 : World) (fn : FuncId) (hfn : F.fn fn) (sv : Value) (Bs l D : Nat) (hBl : Bs ≠ l) (hDl : D ≠ l) (hDB : D ≠ Bs) (h0B : w0.heap.size ≤ Bs) (h0l : w0.heap.size ≤ l) (fs : List Fl) (x : Fl) (W : World) (h : ApF ca cb w0 fn sv Bs l D fs W) (hlen : fs.length ≤ 1000000) :
    YieldAt F m Tryz.prog l #[encF x] W fun e W' => e = .returned (.bool true) ∧ ApF ca cb w0 fn sv Bs l D (fs ++ [x]) W' ∧ KeepsWalks W W' := by
  obtain ⟨i0, hi, hz0, hz1, hz2⟩ := info_p infF
  obtain ⟨v, hv, hrow⟩ := h.box
  refine ⟨fn, #[.slice none 0 0, sv, .pointer (some ⟨Bs, 0, none⟩), undef, .slice none 0 0, undef, sv, encF x, undef, undef, undef, undef, undef], ca, cb, by simpa [apR] using run_yield (P := Tryz.prog) (args := #[encF x]) h.L rfl, roundIn_of_wpIn hfn ?_⟩
  obtain ⟨p, t, r⟩ := x
  have hl : l < W.heap.size := (Array.getElem?_eq_some_iff.1 h.L).1
  obtain ⟨W1, hW1⟩ : ∃ W1, W1 = W.alloc (.cells #[.string p, .string t, .bool r] 35) := ⟨_, rfl⟩
  have ho1 : ∀ b, b < W.heap.size → W1.heap[b]? = W.heap[b]? := fun b hb => by rw [hW1]; exact Below.heap_alloc _ _ b hb
  have hs1 : W1.heap.size = W.heap.size + 1 := by rw [hW1]; exact World.size_alloc _ _
  have hL1 : W1.heap[l]? = some (.loop (apR ca cb fn sv Bs D .ready none)) := (ho1 l hl).trans h.L
  have hbr := run_beginRound (P := Tryz.prog) hL1 rfl
  obtain ⟨W2, hW2⟩ : ∃ W2, W1.putObj l (.loop { apR ca cb fn sv Bs D .ready none with state := .busy }) = W2 := ⟨_, rfl⟩
  rw [hW2] at hbr
  have hg2 : W1.grownBy W2 (some l) := by rw [← hW2]; exact grownBy_putObj_a _ _ _
  have hk2 : KeepsWalks W W2 := by
    have hk1 : KeepsWalks W W1 := by rw [hW1]; exact KeepsWalks.alloc _ _
    refine hk1.trans ?_
    rw [← hW2]
    exact KeepsWalks.putObj _ hL1 rfl
  have hBw : Bs < W.heap.size := (Array.getElem?_eq_some_iff.1 hv).1
  have hDw : D < W.heap.size := (Array.getElem?_eq_some_iff.1 h.K).1
  have hv2 : W2.heap[Bs]? = some (.cells #[v] 22 (0, 0)) := by rw [← hW2]; exact (World.putObj_heap_other hBl).trans ((ho1 Bs hBw).trans hv)
  have hK2 : W2.heap[D]? = some (.deferred (some [])) := by rw [← hW2]; exact (World.putObj_heap_other hDl).trans ((ho1 D hDw).trans h.K)
  have hL2 : W2.heap[l]? = some (.loop { apR ca cb fn sv Bs D .ready none with state := .busy }) := by rw [← hW2]; exact World.putObj_heap_same (by omega)
  have hX2 : W2.heap[W.heap.size]? = some (.cells #[.string p, .string t, .bool r] 35 (0, 0)) := by
    rw [← hW2]
    refine (World.putObj_heap_other (by omega)).trans ?_
    rw [hW1]
    exact World.alloc_heap_new W _
  have hs2 : W2.heap.size = W.heap.size + 1 := by rw [← hW2, ← hs1]; simp
  have hrow1 : W1.ownsRow w0.heap.size 35 3 v fs.length (flCells fs) := by rw [hW1]; exact hrow.alloc _
  have hrow2 : W2.ownsRow w0.heap.size 35 3 v fs.length (flCells fs) := hrow1.kept hg2 (ownsRow_ne_a hrow1 hL1 (fun cur e => by cases e))
  have hb1 : Below w0.heap.size w0 W1 := by rw [hW1]; exact h.below.alloc h.below.size _
  have hb2 : Below w0.heap.size w0 W2 := hb1.grown hg2 hb1.size (fun k e => by cases e; exact h0l)
  obtain ⟨hc2, hf2⟩ := cell_of_box_a hv2
  have x0 : W2.cell? ⟨W.heap.size, 0, none⟩ = some (.string p) := Lib.cell_of_heap hX2 0
  have x1 : W2.cell? ⟨W.heap.size, 1, none⟩ = some (.string t) := Lib.cell_of_heap hX2 1
  have x2 : W2.cell? ⟨W.heap.size, 2, none⟩ = some (.bool r) := Lib.cell_of_heap hX2 2
  have hBlt : Bs < W2.heap.size := by omega
  have hl2 : l < W2.heap.size := by omega
  have hDlt : D < W2.heap.size := by omega
  have ne_of : ∀ {j : Nat} {o : Obj}, W2.heap[j]? = some o → (∀ cur, o ≠ .cells cur 35 (0, 0)) → some j ≠ v.ownBlock := fun hj hno => by
    rcases ownsRow_ne_a hrow2 hj hno with e | e
    · rw [e]; simp
    · exact fun e' => e e'.symm
  have HCA : Hid (ca = (subO [true, false, true, false, false] (Tryz.f124.body.getD .skip))) := hca
  have HCB : Hid (cb = (subO [true, false, true, false, true] (Tryz.f124.body.getD .skip))) := hcb
  clear hca hcb
  unfold encF
  simp only
  conv => arg 4; rw [HCA.out]; whnf
  gi_wp2_with gi_round_op_a
  refine ⟨W2, by rw [← hW1]; exact hbr, ?_⟩
  clear hW1 hW2 hs1 hs2 ho1
  conv => arg 4; rw [HCB.out]; whnf
  gi_wp2_with (first
    | (gi_at_builtin; refine wpListIn_append_own _ rfl _ _ 22 rfl w0.heap.size 35 i0 (.agg #[.string ⟨#[]⟩, .string ⟨#[]⟩, .bool false]) 3 40 Tryz.underlying22 hi hz0 hz1 hz2 rfl (by decide) _ _ _ rfl (hrow2.alloc _) ⟨W2.heap.size, 0, none⟩ 1 1 [.string p, .string t, .bool r] rfl rfl (new_cells W2 _ _) (by simp [Value.oneCell']) (by unfold maxLen; omega) (by omega) (by have := hb2.size; simp; omega) ?_; intro v' w3 hown' hg3 hnil3
       have hv3 : w3.heap[Bs]? = some (.cells #[v] 22 (0, 0)) := (hg3.block Bs (by simp; omega) (ne_of hv2 (fun cur e => by cases e))).trans ((Below.heap_alloc _ _ Bs hBlt).trans hv2)
       obtain ⟨hc3, hf3⟩ := cell_of_box_a hv3
       obtain ⟨g', cap', cur', rfl, hbase', hgb', hr1, hr2, hr3, hr4⟩ : ∃ g' cap' cur', v' = .slice (some ⟨g', 0, none⟩) (fs.length + 1) cap' ∧ w0.heap.size ≤ g' ∧ w3.heap[g']? = some (.cells cur' 35 (0, 0)) ∧ fs.length + 1 ≤ cap' ∧ cap' ≤ maxLen ∧ cur'.size = cap' * 3 ∧ cur'.toList.take ((fs.length + 1) * 3) = flCells fs ++ [.string p, .string t, .bool r] := by
         rcases hown'.2 with ⟨_, h0⟩ | h'
         · exact absurd h0 (by omega)
         · exact h'
       go_frame)
    | gi_round_op_a)
  have hg3' : (W2.alloc (.cells #[.string p, .string t, .bool r] 35)).grownBy w3 v.ownBlock := hg3
  have hL3 : w3.heap[l]? = some (.loop { apR ca cb fn sv Bs D .ready none with state := .busy }) := (hg3'.block l (by simp; omega) (ne_of hL2 (fun cur e => by cases e))).trans ((Below.heap_alloc _ _ l hl2).trans hL2)
  have hK3 : w3.heap[D]? = some (.deferred (some [])) := (hg3'.block D (by simp; omega) (ne_of hK2 (fun cur e => by cases e))).trans ((Below.heap_alloc _ _ D hDlt).trans hK2)
  obtain ⟨w4, hw4⟩ : ∃ w4, w3.setCell ⟨Bs, 0, none⟩ (.slice (some ⟨g', 0, none⟩) (fs.length + 1) cap') = w4 := ⟨_, rfl⟩
  rw [hw4]
  have hg4 : w3.grownBy w4 (some Bs) := by rw [← hw4]; exact grownBy_setCell0_a _ _ _
  have hv4 : w4.heap[Bs]? = some (.cells #[.slice (some ⟨g', 0, none⟩) (fs.length + 1) cap'] 22 (0, 0)) := by rw [← hw4]; exact heap_setCell_box_a _ hv3
  have hL4 : w4.heap[l]? = some (.loop { apR ca cb fn sv Bs D .ready none with state := .busy }) := (hg4.block l (Array.getElem?_eq_some_iff.1 hL3).1 (fun e => hBl (by cases e; rfl))).trans hL3
  have hK4 : w4.heap[D]? = some (.deferred (some [])) := (hg4.block D (Array.getElem?_eq_some_iff.1 hK3).1 (fun e => hDB (by cases e; rfl))).trans hK3
  have hrow4 := hown'.kept hg4 (ownsRow_ne_a hown' hv3 (fun cur e => by cases e))
  have hl4 : l < w4.heap.size := (Array.getElem?_eq_some_iff.1 hL4).1
  have hb3 : Below w0.heap.size w0 w3 := (hb2.alloc hb2.size _).grown hg3' (by have := hb2.size; simp; omega) (fun k e => (hrow2.lt k e).1)
  have hb4 : Below w0.heap.size w0 w4 := hb3.grown hg4 hb3.size (fun k e => by cases e; exact h0B)
  have hk4 : KeepsWalks W w4 := ((hk2.trans (KeepsWalks.alloc _ _)).trans (KeepsWalks.of_grownBy hg3' (ownsRow_not_walk_a (hrow2.alloc _)))).trans (by rw [← hw4]; exact KeepsWalks.setCell _ _ _)
  clear hw4
  have ec : flCells (fs ++ [⟨p, t, r⟩]) = flCells fs ++ [.string p, .string t, .bool r] := by simp [flCells]
  refine ⟨_, _, run_endRound none hL4, rfl, ⟨⟨_, (World.putObj_heap_other hBl).trans hv4, ?_⟩, World.putObj_heap_same hl4, (World.putObj_heap_other hDl).trans hK4, hb4.grown (grownBy_putObj_a _ _ _) hb4.size (fun k e => by cases e; exact h0l)⟩, hk4.trans (KeepsWalks.putObj _ hL4 rfl)⟩
  have := hrow4.kept (grownBy_putObj_a w4 l (.loop { { apR ca cb fn sv Bs D .ready none with state := .busy } with state := if (none : Option Code).isNone then .ready else .done, pending := none })) (ownsRow_ne_a hrow4 hL4 (fun cur e => by cases e))
  rw [ec, List.length_append]
  exact this
end Go.Proofs.YtapiedeekbfpnaaGreatDoor

/- slices.AppendSeq, Collect and SortedFunc of the files of a map; laidOver. -/
namespace Go.Proofs.YtapiedeekbfpnaaGreatDoor
open Go.RowKit Go.Shelf Go.Maps Go.WideMaps Go.Sort

/-- How the files of a map are answered. -/
def SqP (D0 : DataW Unit) (w : World) (e : Ending) (w' : World) : Prop := ∃ (v : Value) (fs : List Fl), e = .returned v ∧ AllF D0 fs ∧ w'.ownsRow w.heap.size 35 3 v fs.length (flCells fs) ∧ Below w.heap.size w w'

set_option maxRecDepth 100000 in
set_option maxHeartbeats 4000000 in
theorem appendSeqF (g : Nat) (lb : Array Value) (eg : ∀ args w, (callFunc g args).run Tryz.prog w = .ok (.enter g args) w) (D0 : DataW Unit) (N : Nat) (hN : N ≤ 1000000) (w : World) (hseq : SeqStopsK Fence.wide 3 Tryz.prog g lb (fun f : Fl => #[encF f]) KeepsWalks (AllF D0) (fun _ => True) N w) :
    CallsIn Fence.wide 4 Tryz.prog 124 #[.slice none 0 0, .func (.func g) #[] lb] w (SqP D0 w) := by
  obtain ⟨ca, hca⟩ : ∃ ca, ca = (subO [true, false, true, false, false] (Tryz.f124.body.getD .skip)) := ⟨_, rfl⟩
  obtain ⟨cb, hcb⟩ : ∃ cb, cb = (subO [true, false, true, false, true] (Tryz.f124.body.getD .skip)) := ⟨_, rfl⟩
  have hla := hca.symm
  have hlb := hcb.symm
  conv at hla => lhs; whnf
  conv at hlb => lhs; whnf
  have HCA : Hid (ca = (subO [true, false, true, false, false] (Tryz.f124.body.getD .skip))) := hca
  have HCB : Hid (cb = (subO [true, false, true, false, true] (Tryz.f124.body.getD .skip))) := hcb
  clear hca hcb
  have HSeq : Hid (SeqStopsK Fence.wide 3 Tryz.prog g lb (fun f : Fl => #[encF f]) KeepsWalks (AllF D0) (fun _ => True) N w) := hseq
  have HEg : Hid (∀ args w, (callFunc g args).run Tryz.prog w = .ok (.enter g args) w) := eg
  clear hseq eg
  refine callsIn_of_wp_marks Tryz.func124 rfl trivial ?_ rfl
  simp only [Tryz.ntmps124, List.size_toArray, List.length_cons, List.length_nil, Nat.reduceAdd, Nat.reduceSub, Array.replicate_succ, Array.replicate_zero, List.push_toArray, List.append_toArray, List.nil_append, List.cons_append]
  gi_wp2
  rw [hla, hlb]
  clear hla hlb
  refine wpIn_rangeFunc ?_
  intro fn hfn
  obtain ⟨W0, hW0⟩ : ∃ W0, w.alloc (.cells #[.slice none 0 0] 22) = W0 := ⟨_, rfl⟩
  have hs0 : W0.heap.size = w.heap.size + 1 := by rw [← hW0]; simp
  have hv0 : W0.heap[w.heap.size]? = some (.cells #[.slice none 0 0] 22 (0, 0)) := by rw [← hW0]; exact World.alloc_heap_new w _
  have hb0 : Below w.heap.size w W0 := by rw [← hW0]; exact (Below.refl _ w).alloc (Nat.le_refl _) _
  rw [hW0]
  obtain ⟨W1, hW1⟩ : ∃ W1, (W0.alloc (.deferred (some []))).alloc (.loop (apR ca cb fn (.func (.func g) #[] lb) w.heap.size W0.heap.size .ready none)) = W1 := ⟨_, rfl⟩
  have hold : ∀ k, k < W0.heap.size → W1.heap[k]? = W0.heap[k]? := fun k hk => by
    rw [← hW1]; exact (Below.heap_alloc _ _ k (by simp; omega)).trans (Below.heap_alloc _ _ k hk)
  have hb1 : Below w.heap.size w W1 := by rw [← hW1]; exact (hb0.alloc hb0.size _).alloc (by have := hb0.size; simp; omega) _
  have hs1 : W1.heap.size = W0.heap.size + 2 := by rw [← hW1]; simp
  have hM : ApF ca cb w fn (.func (.func g) #[] lb) w.heap.size (W0.heap.size + 1) W0.heap.size [] W1 :=
    ⟨⟨_, (hold w.heap.size (by omega)).trans hv0, World.ownsRow_nil _ _ _ _⟩,
     by rw [← hW1]; have := World.alloc_heap_new (W0.alloc (.deferred (some []))) (.loop (apR ca cb fn (.func (.func g) #[] lb) w.heap.size W0.heap.size .ready none)); rwa [World.size_alloc] at this,
     by rw [← hW1]; exact (Below.heap_alloc _ _ _ (by simp)).trans (World.alloc_heap_new W0 _), hb1⟩
  refine ⟨W0.heap.size + 1, [{ target := .collected W0.heap.size, args := #[] }], W1, { target := .fn (.func g) lb, args := #[.func (.yield (W0.heap.size + 1)) #[] #[]] }, W1, g,
    #[.func (.yield (W0.heap.size + 1)) #[] #[]] ++ lb, W1, ?_, ?_, ?_, ?_, fun _ => by omega, ?_⟩
  · rw [← hW1]; exact run_enterLoop_outer _ _ _ _ _
  · simp [resolve, go_sem]
  · intro f' hf'; trivial
  · simp [invoke, go_sem, HEg.out]
  · refine (HSeq.out (W0.heap.size + 1) (ApF ca cb w fn (.func (.func g) #[] lb) w.heap.size (W0.heap.size + 1) W0.heap.size) (fun _ _ => False) W1 hb1 (ap_abides ca cb _ _ _ _ _ _ _ hb1.size) (fun _ _ _ _ h => h.elim)
      (fun pre x W hJ hl => ?_) hM).mono ?_
    · obtain ⟨f1, t1, a1, b1, hy, hR⟩ := apYieldF ca cb HCA.out HCB.out Fence.wide (3 - 1) w fn hfn _ w.heap.size (W0.heap.size + 1) W0.heap.size (by omega) (by omega) (by omega) (Nat.le_refl _) (by omega) pre x W hJ (by omega)
      exact ⟨f1, t1, a1, b1, hy, hR.mono fun e W' h => .inl h⟩
    rintro e W2 ⟨⟨v0, rfl⟩, ⟨fs, hS, h2⟩ | ⟨_, _, h⟩⟩
    · obtain ⟨v, hv, hrow⟩ := h2.box
      have hend := run_endLoop (P := Tryz.prog) h2.L (by simp [apR])
      obtain ⟨W3, hW3⟩ : ∃ W3, W2.putObj (W0.heap.size + 1) (.loop { apR ca cb fn (.func (.func g) #[] lb) w.heap.size W0.heap.size .ready none with state := .exhausted }) = W3 := ⟨_, rfl⟩
      rw [hW3] at hend
      have hg3 : W2.grownBy W3 (some (W0.heap.size + 1)) := by rw [← hW3]; exact grownBy_putObj_a _ _ _
      have hv3 : W3.heap[w.heap.size]? = some (.cells #[v] 22 (0, 0)) := by rw [← hW3]; exact (World.putObj_heap_other (by omega)).trans hv
      have hK3 : W3.heap[W0.heap.size]? = some (.deferred (some [])) := by rw [← hW3]; exact (World.putObj_heap_other (by omega)).trans h2.K
      have hrow3 := hrow.kept hg3 (ownsRow_ne_a hrow h2.L (fun cur e => by cases e))
      have hb3 : Below w.heap.size w W3 := h2.below.grown hg3 h2.below.size (fun k e => by cases e; omega)
      obtain ⟨hc3, hf3⟩ := cell_of_box_a hv3
      clear hW3
      refine ⟨none, W3, hend, ?_⟩
      gi_wp2
      rw [← hs0]
      refine ⟨by simp, .inl ⟨_, _, rfl, run_takeDeferred hK3, ?_⟩⟩
      exact ⟨_, results_tmp rfl _ _ _, v, fs, rfl, hS, hrow3.kept (grownBy_putObj_a _ _ _) (ownsRow_ne_a hrow3 hK3 (fun cur e => by cases e)), hb3.grown (grownBy_putObj_a _ _ _) hb3.size (fun k e => by cases e; omega)⟩
    · exact h.elim
end Go.Proofs.YtapiedeekbfpnaaGreatDoor

/- Sorts, and sorted keys: the contracts of the shelf, laid at this program (by wip/trlay.py). -/
namespace Go.Proofs.YtapiedeekbfpnaaGreatDoor
open Go.RowKit Go.Maps Go.Sort Go.Shelf Go.Lib

def sortFF_ren : Go.Shelf.Ren := ⟨fun | 6 => 90 | 15 => 126 | 14 => 125 | 28 => 149 | 29 => 150 | 20 => 141 | 21 => 142 | 22 => 143 | 23 => 144 | 24 => 145 | 25 => 146 | 26 => 147 | 27 => 148 | 46 => 165 | 47 => 166 | 48 => 167 | 49 => 168 | 50 => 169 | 57 => 177 | n => n, fun | 22 => 22 | 24 => 35 | 25 => 60 | 3 => 3 | 39 => 134 | 0 => 0 | 53 => 126 | 55 => 142 | 4 => 4 | 46 => 145 | 45 => 144 | 50 => 91 | 5 => 5 | 9 => 9 | 66 => 162 | 70 => 166 | 76 => 173 | 77 => 174 | n => n, fun | n => n⟩
theorem sortFF : Go.Proofs.SlLaysF0.n6 Tryz.prog sortFF_ren := {
  mixed := by kernel_rfl
  f6 := ⟨Tryz.f90.name, by decide, Tryz.func90.trans (congrArg some (by kernel_rfl))⟩
  f14 := ⟨Tryz.f125.name, by decide, Tryz.func125.trans (congrArg some (by kernel_rfl))⟩
  f15 := Tryz.func126.trans (congrArg some (by kernel_rfl))
  f20 := ⟨Tryz.f141.name, by decide, Tryz.func141.trans (congrArg some (by kernel_rfl))⟩
  f21 := ⟨Tryz.f142.name, by decide, Tryz.func142.trans (congrArg some (by kernel_rfl))⟩
  f22 := ⟨Tryz.f143.name, by decide, Tryz.func143.trans (congrArg some (by kernel_rfl))⟩
  f23 := ⟨Tryz.f144.name, by decide, Tryz.func144.trans (congrArg some (by kernel_rfl))⟩
  f24 := ⟨Tryz.f145.name, by decide, Tryz.func145.trans (congrArg some (by kernel_rfl))⟩
  f25 := ⟨Tryz.f146.name, by decide, Tryz.func146.trans (congrArg some (by kernel_rfl))⟩
  f26 := ⟨Tryz.f147.name, by decide, Tryz.func147.trans (congrArg some (by kernel_rfl))⟩
  f27 := ⟨Tryz.f148.name, by decide, Tryz.func148.trans (congrArg some (by kernel_rfl))⟩
  f28 := Tryz.func149.trans (congrArg some (by kernel_rfl))
  f29 := Tryz.func150.trans (congrArg some (by kernel_rfl))
  f46 := ⟨Tryz.f165.name, by decide, Tryz.func165.trans (congrArg some (by kernel_rfl))⟩
  f47 := Tryz.func166.trans (congrArg some (by kernel_rfl))
  f48 := Tryz.func167.trans (congrArg some (by kernel_rfl))
  f49 := ⟨Tryz.f168.name, by decide, Tryz.func168.trans (congrArg some (by kernel_rfl))⟩
  f50 := ⟨Tryz.f169.name, by decide, Tryz.func169.trans (congrArg some (by kernel_rfl))⟩
  f57 := ⟨Tryz.f177.name, by decide, Tryz.func177.trans (congrArg some (by kernel_rfl))⟩
  t0 := Tryz.underlying0
  a0 := Tryz.isAgg0
  z0 := Tryz.sizeOf0
  v0 := Tryz.zeroValue0
  t3 := Tryz.underlying3
  a3 := Tryz.isAgg3
  z3 := Tryz.sizeOf3
  v3 := Tryz.zeroValue3
  t4 := Tryz.underlying4
  a4 := Tryz.isAgg4
  z4 := Tryz.sizeOf4
  v4 := Tryz.zeroValue4
  t5 := Tryz.underlying5
  a5 := Tryz.isAgg5
  z5 := Tryz.sizeOf5
  v5 := Tryz.zeroValue5
  t9 := Tryz.underlying9
  a9 := Tryz.isAgg9
  z9 := Tryz.sizeOf9
  v9 := Tryz.zeroValue9
  t22 := Tryz.underlying22
  a22 := Tryz.isAgg22
  z22 := Tryz.sizeOf22
  v22 := Tryz.zeroValue22
  t25 := Tryz.underlying60
  a25 := Tryz.isAgg60
  z25 := Tryz.sizeOf60
  v25 := Tryz.zeroValue60
  t39 := Tryz.underlying134
  a39 := Tryz.isAgg134
  z39 := Tryz.sizeOf134
  v39 := Tryz.zeroValue134
  t45 := Tryz.underlying144
  a45 := Tryz.isAgg144
  z45 := Tryz.sizeOf144
  v45 := Tryz.zeroValue144
  t46 := Tryz.underlying145
  a46 := Tryz.isAgg145
  z46 := Tryz.sizeOf145
  v46 := Tryz.zeroValue145
  t50 := Tryz.underlying91
  a50 := Tryz.isAgg91
  z50 := Tryz.sizeOf91
  v50 := Tryz.zeroValue91
  t53 := Tryz.underlying126
  a53 := Tryz.isAgg126
  z53 := Tryz.sizeOf126
  v53 := Tryz.zeroValue126
  t55 := Tryz.underlying142
  a55 := Tryz.isAgg142
  z55 := Tryz.sizeOf142
  v55 := Tryz.zeroValue142
  t66 := Tryz.underlying162
  a66 := Tryz.isAgg162
  z66 := Tryz.sizeOf162
  v66 := Tryz.zeroValue162
  t70 := Tryz.underlying166
  a70 := Tryz.isAgg166
  z70 := Tryz.sizeOf166
  v70 := Tryz.zeroValue166
  t76 := Tryz.underlying173
  a76 := Tryz.isAgg173
  z76 := Tryz.sizeOf173
  v76 := Tryz.zeroValue173
  t77 := Tryz.underlying174
  a77 := Tryz.isAgg174
  z77 := Tryz.sizeOf174
  v77 := Tryz.zeroValue174 }

theorem sortFF_any {α : Type} [Inhabited α] (enc : α → List Value) (hk : ∀ x, (enc x).length = 3) (h1 : ∀ x, ∀ v ∈ enc x, v.oneCell' = true) (cf : α → α → Int) (hO : SWO (ltOf cf)) (g : Nat) (cb : Array Value) (blk off cap : Nat) (d : Array α) (w : World) (eg : ∀ args w, (callFunc g args).run Tryz.prog w = .ok (.enter g args) w) (hcmp : CmpLays Tryz.prog g cb enc 3 cf blk off d.size w) (hH : HoldsK enc 3 w blk off d) (hblk : blk < w.heap.size) (hsz : d.size < 4611686018427387904) :
    Calls Tryz.prog 90 #[.slice (some ⟨blk, off, none⟩) d.size cap, .func (.func g) #[] cb] w fun e w' => e = .returned (.tuple #[]) ∧ ∃ d' n os, PermIn 0 d.size d d' ∧ SortedIn (ltOf cf) 0 d.size d' ∧ w' = sortWorldK enc 3 w blk off n d' os :=
  AnyQ.slices_SortFunc sortFF 3 Tryz.isAgg35 Tryz.sizeOf35 enc hk h1 cf hO g cb blk off cap d w eg hcmp hH hblk hsz

theorem sortFF_none (p : Option Addr) (cap : Nat) (fv : Value) (w : World) : Calls Tryz.prog 90 #[.slice p 0 cap, fv] w fun e w' => e = .returned (.tuple #[]) ∧ w' = w :=
  AnyF.slices_SortFunc_none { sortFF with } p cap fv w
end Go.Proofs.YtapiedeekbfpnaaGreatDoor

/- What is made, sorted by paths. -/
namespace Go.Proofs.YtapiedeekbfpnaaGreatDoor
open Go.RowKit Go.Shelf Go.Maps Go.WideMaps Go.Sort Go.Lib

theorem flat_get {α : Type} (enc : α → List Value) (a b c : α → Value) (he : ∀ x, enc x = [a x, b x, c x]) : ∀ (l : List α) (j : Nat) (hj : j < l.length), (l.flatMap enc)[j * 3]? = some (a l[j]) ∧ (l.flatMap enc)[j * 3 + 1]? = some (b l[j]) ∧ (l.flatMap enc)[j * 3 + 2]? = some (c l[j])
  | [], j, hj => by simp at hj
  | x :: l, j, hj => by
    have e : (x :: l).flatMap enc = [a x, b x, c x] ++ l.flatMap enc := by rw [List.flatMap_cons, he]
    cases j with
    | zero => rw [e]; exact ⟨rfl, rfl, rfl⟩
    | succ j =>
      have h := flat_get enc a b c he l j (by simpa using hj)
      rw [e, show (j + 1) * 3 = j * 3 + 3 by omega]
      exact ⟨by simpa using h.1, by simpa using h.2.1, by simpa using h.2.2⟩
theorem flat_len {α : Type} (enc : α → List Value) (hk : ∀ x, (enc x).length = 3) : ∀ l : List α, (l.flatMap enc).length = l.length * 3
  | [] => rfl
  | x :: l => by rw [List.flatMap_cons, List.length_append, flat_len enc hk l, hk, List.length_cons]; omega
section
variable {α : Type} [Inhabited α]
theorem flat3 (enc : α → List Value) (a b c : α → Value) (he : ∀ x, enc x = [a x, b x, c x]) (l : List α) : (flatK enc 3 l.toArray).toList = l.flatMap enc := by
  have hk : ∀ x, (enc x).length = 3 := fun x => by rw [he]; rfl
  apply List.ext_getElem?
  intro t
  by_cases ht : t < l.length * 3
  · have h1 : (flatK enc 3 l.toArray).toList[t]? = some ((enc l.toArray[t / 3]!)[t % 3]!) := by
      rw [Array.getElem?_toList]
      have hs : t < (flatK enc 3 l.toArray).size := by rw [size_flatK]; simpa using ht
      rw [Array.getElem?_eq_getElem hs]
      congr 1
      have := get_flatK enc 3 l.toArray t (by simpa using ht)
      rwa [getElem!_pos _ t hs] at this
    rw [h1]
    have hj : t / 3 < l.length := by omega
    have hg : l.toArray[t / 3]! = l[t / 3] := by
      rw [getElem!_pos _ _ (by simpa using hj)]
      simp
    rw [hg, he]
    have k := flat_get enc a b c he l (t / 3) hj
    have e0 : t = t / 3 * 3 + t % 3 := by omega
    have h3 : t % 3 < 3 := Nat.mod_lt _ (by decide)
    generalize hr : t % 3 = r at e0 h3
    rw [hr] at *
    match r, h3 with
    | 0, _ => conv => rhs; rw [e0]
              exact k.1.symm
    | 1, _ => conv => rhs; rw [e0]
              exact k.2.1.symm
    | 2, _ => conv => rhs; rw [e0]
              exact k.2.2.symm
  · rw [List.getElem?_eq_none (by rw [Array.length_toList, size_flatK]; simp; omega), List.getElem?_eq_none (by rw [flat_len enc hk]; omega)]

theorem holdsK_row {w : World} {base g cap n : Nat} {e : TypeId} (enc : α → List Value) (a b c : α → Value) (he : ∀ x, enc x = [a x, b x, c x]) (l : List α) (hn : n = l.length) (h : w.ownsRow base e 3 (.slice (some ⟨g, 0, none⟩) n cap) n (l.flatMap enc)) : HoldsK enc 3 w g 0 l.toArray := by
  rcases h.2 with ⟨h1, _⟩ | ⟨g2, cap2, cur, hv, _, hb, _, _, _, h4⟩
  · cases h1
  · injection hv with hv _ _
    injection hv with hv
    injection hv with hv
    subst hv
    intro j hj
    have hj' : j < l.length * 3 := by rw [size_flatK] at hj; simpa using hj
    refine ⟨?_, by simp [World.frozen?, hb]⟩
    have hf := flat3 enc a b c he l
    have h5 : (cur.toList.take (n * 3))[j]? = (flatK enc 3 l.toArray).toList[j]? := by rw [h4, hf]
    rw [List.getElem?_take_of_lt (by omega)] at h5
    simp only [World.cell?, hb, Nat.zero_add]
    simp only [Option.isSome_none, Bool.false_eq_true, if_false]
    rw [← Array.getElem?_toList, h5, Array.getElem?_toList, Array.getElem?_eq_getElem hj, getElem!_pos (flatK enc 3 l.toArray) j hj]
    rfl
theorem rowK_put {w : World} {base g cap n m : Nat} {e : TypeId} {os : Array Obj} (enc : α → List Value) (a b c : α → Value) (he : ∀ x, enc x = [a x, b x, c x]) (l l2 : List α) (hn : n = l.length) (hl : l2.length = l.length) (h : w.ownsRow base e 3 (.slice (some ⟨g, 0, none⟩) n cap) n (l.flatMap enc)) :
    (sortWorldK enc 3 w g 0 m l2.toArray os).ownsRow base e 3 (.slice (some ⟨g, 0, none⟩) n cap) n (l2.flatMap enc) ∧ w.grownBy (sortWorldK enc 3 w g 0 m l2.toArray os) (some g) := by
  have hk : ∀ x, (enc x).length = 3 := fun x => by rw [he]; rfl
  constructor
  · rcases h.2 with ⟨h1, _⟩ | ⟨g2, cap2, cur, hv, hbase, hb, hc1, hc2, hc3, h4⟩
    · cases h1
    · injection hv with hv _ hv3
      injection hv with hv
      injection hv with hv
      subst hv hv3
      have hg : g < w.heap.size := (Array.getElem?_eq_some_iff.1 hb).1
      have hfs : (flatK enc 3 l2.toArray).size = n * 3 := by rw [size_flatK]; simp; omega
      refine ⟨by rw [flat_len enc hk, hl, hn], .inr ⟨g, cap, putCells id 0 (flatK enc 3 l2.toArray) cur, rfl, hbase, ?_, hc1, hc2, by simp [putCells, hc3], ?_⟩⟩
      · unfold sortWorldK putRowK
        rw [heap_grow_old _ _ (by simpa using hg)]
        simp [putRow, mapBlock, Sort.ahead, Array.getElem?_modify, hb, onCells]
      · rw [← flat3 enc a b c he l2]
        apply List.ext_getElem?
        intro j
        by_cases hj : j < n * 3
        · have hj2 : j < (flatK enc 3 l2.toArray).size := by omega
          have hcur : j < cur.size := by rw [hc3]; have := Nat.mul_le_mul_right 3 hc1; omega
          rw [List.getElem?_take_of_lt hj, Array.getElem?_toList, Array.getElem?_toList]
          have hj3 : j < l2.length * 3 := by rw [size_flatK] at hj2; simpa using hj2
          rw [Array.getElem?_eq_getElem hj2, ← getElem!_pos (flatK enc 3 l2.toArray) j hj2]
          simp [putCells, hj3, hcur]
        · rw [List.getElem?_take_eq_none (by omega), List.getElem?_eq_none (by rw [Array.length_toList]; omega)]
  · unfold sortWorldK putRowK
    refine ⟨rfl, rfl, rfl, by simp, fun k hk hne => ?_⟩
    rw [heap_grow_old _ _ (by simpa using hk)]
    have : g ≠ k := fun e => hne (by rw [e])
    simp [putRow, mapBlock, Sort.ahead, Array.getElem?_modify, this]
end


set_option maxHeartbeats 2000000 in
set_option maxRecDepth 100000 in
theorem comparePaths_w (a b : Fl) (w : World) :
    Calls Tryz.prog 39 #[.agg #[.string a.pa, .string a.tx, .bool a.rn], .agg #[.string b.pa, .string b.tx, .bool b.rn]] w fun e w' => e = .returned (.int .i64 (cmpB a.pa b.pa)) ∧ w' = (w.alloc (.cells #[.string a.pa, .string a.tx, .bool a.rn] 35)).alloc (.cells #[.string b.pa, .string b.tx, .bool b.rn] 35) := by
  obtain ⟨p, t, r⟩ := a
  obtain ⟨p2, t2, r2⟩ := b
  have HC : Hid (∀ W, Calls Tryz.prog 40 #[.string p, .string p2] W fun e w' => e = .returned (.int .i64 (cmpB p p2)) ∧ w' = W) := Compare_s p p2
  simp only
  generalize cmpB p p2 = r9 at *
  go_enter Tryz.func39, Tryz.ntmps39
  go_wp2_with (first | (go_at_call 40; refine (HC.out _).mono ?_; rintro e w1 ⟨rfl, hw⟩; subst w1) | go_in)
  go_ret
  exact ⟨rfl, rfl⟩

def encT (x : ByteArray × ByteArray × Bool) : List Value := [.string x.1, .string x.2.1, .bool x.2.2]
def tri (f : Fl) : ByteArray × ByteArray × Bool := (f.pa, f.tx, f.rn)
def ofT (x : ByteArray × ByteArray × Bool) : Fl := ⟨x.1, x.2.1, x.2.2⟩
theorem flT (F : List Fl) : flCells F = (F.map tri).flatMap encT := by
  unfold flCells
  rw [List.flatMap_map]
  rfl
theorem encT_one (x : ByteArray × ByteArray × Bool) : ∀ v ∈ encT x, v.oneCell' = true := by
  intro v hv
  simp [encT] at hv
  rcases hv with rfl | rfl | rfl <;> rfl
theorem ltT (x y : ByteArray × ByteArray × Bool) : ltOf (fun x y : ByteArray × ByteArray × Bool => cmpB x.1 y.1) x y = decide (x.1.data.toList < y.1.data.toList) := cmpB_neg x.1 y.1
theorem swoT : SWO (ltOf fun x y : ByteArray × ByteArray × Bool => cmpB x.1 y.1) where
  irrefl x := by rw [ltT]; simp [List.lt_irrefl]
  trans x y z h1 h2 := by
    rw [ltT, decide_eq_true_eq] at *
    exact List.lt_trans h1 h2
  ntrans x y z h1 h2 := by
    rw [ltT, decide_eq_false_iff_not] at *
    exact fun h3 => h2 (by
      rcases Decidable.em (y.1.data.toList < z.1.data.toList) with h | h
      · exact h
      · exfalso
        exact h1 (by
          rcases Decidable.em (x.1.data.toList < y.1.data.toList) with h4 | h4
          · exact h4
          · exact absurd h3 (List.not_lt.2 (List.le_trans (List.not_lt.1 h) (List.not_lt.1 h4)))))
theorem sort_files_uniq {L d : List Fl} (hL : L.Pairwise fun f g => pth f < pth g) (hp : d.Perm L) (hs : d.Pairwise fun f g => pth f ≤ pth g) : d = L := by
  refine List.Perm.eq_of_pairwise (le := fun f g => pth f ≤ pth g) (fun a b ha hb h1 h2 => ?_) hs (hL.imp fun h => List.le_of_lt h) hp
  have e := List.le_antisymm h1 h2
  obtain ⟨i, hi, rfl⟩ := List.getElem_of_mem (hp.mem_iff.1 ha)
  obtain ⟨j, hj, rfl⟩ := List.getElem_of_mem hb
  have hq := List.pairwise_iff_getElem.1 hL
  rcases Nat.lt_trichotomy i j with hij | hij | hij
  · have := hq i j hi hj hij; rw [e] at this; exact absurd this (List.lt_irrefl _)
  · subst hij; rfl
  · have := hq j i hj hi hij; rw [e] at this; exact absurd this (List.lt_irrefl _)

/-- Files that are a tree's, sorted, are as they were. -/
theorem sortFiles {B : Nat} {F L : List Fl} {v : Value} {w : World} (h : w.ownsRow B 35 3 v F.length (flCells F)) (hL : L.Pairwise fun f g => pth f < pth g) (hp : F.Perm L) (hl : F.length ≤ 1000000) :
    Calls Tryz.prog 90 #[v, .func (.func 39) #[] #[]] w fun e w' => e = .returned (.tuple #[]) ∧ w'.ownsRow B 35 3 v L.length (flCells L) ∧ w.grownBy w' v.ownBlock := by
  have hh := h
  rcases h.2 with ⟨rfl, h0⟩ | ⟨g, cap, cur, rfl, hbase, hb, _⟩
  · have e : F = [] := List.length_eq_zero_iff.1 h0
    subst e
    have e2 : L = [] := List.Perm.eq_nil hp.symm
    subst e2
    refine (sortFF_none none 0 _ w).mono ?_
    rintro e w' ⟨rfl, rfl⟩
    exact ⟨rfl, hh, ⟨rfl, rfl, rfl, Nat.le_refl _, fun _ _ _ => rfl⟩⟩
  · rw [flT] at hh
    have hlen : F.length = (F.map tri).length := by simp
    have hH : HoldsK encT 3 w g 0 (F.map tri).toArray := holdsK_row encT (fun x => .string x.1) (fun x => .string x.2.1) (fun x => .bool x.2.2) (fun _ => rfl) (F.map tri) hlen hh
    have hc : CmpLays Tryz.prog 39 #[] encT 3 (fun x y : ByteArray × ByteArray × Bool => cmpB x.1 y.1) g 0 (F.map tri).toArray.size w := fun m os dk _ x y => by
      refine (comparePaths_w (ofT x) (ofT y) _).mono ?_
      rintro e w' ⟨rfl, rfl⟩
      exact ⟨rfl, 0, _, by rw [alloc_eq_grow, alloc_eq_grow, grow_grow]; rfl⟩
    have := sortFF_any encT (fun _ => rfl) encT_one (fun x y : ByteArray × ByteArray × Bool => cmpB x.1 y.1) swoT 39 #[] g 0 cap (F.map tri).toArray w (enters_of Tryz.func39 (by kernel_rfl) rfl) hc hH (Array.getElem?_eq_some_iff.1 hb).1 (by simp; omega)
    rw [show (F.map tri).toArray.size = F.length from by simp] at this
    refine this.mono ?_
    rintro e w' ⟨rfl, d', m, os, hpp, hs, rfl⟩
    have e1 : d'.size = F.length := by rw [hpp.1]; simp
    have hp2 : d'.toList.Perm (F.map tri) := by
      have := hpp.2.2
      have e2 : List.take F.length d'.toList = d'.toList := List.take_of_length_le (by rw [Array.length_toList]; omega)
      have e3 : List.take F.length (F.map tri) = F.map tri := List.take_of_length_le (by simp)
      simpa [hpp.1, e2, e3] using this
    have hs2 : (d'.toList.map ofT).Pairwise fun a b => pth a ≤ pth b := by
      rw [List.pairwise_map, List.pairwise_iff_getElem]
      intro i j hi hj hij
      have hi' : i < d'.size := by simpa using hi
      have hj' : j < d'.size := by simpa using hj
      have h1 := hs i j (Nat.zero_le _) hij (by omega)
      rw [ltT, decide_eq_false_iff_not, getElem!_pos d' i hi', getElem!_pos d' j hj'] at h1
      show d'.toList[i].1.data.toList ≤ d'.toList[j].1.data.toList
      rw [Array.getElem_toList, Array.getElem_toList]
      exact List.not_lt.1 h1
    have hot : ∀ l : List Fl, (l.map tri).map ofT = l := fun l => by rw [List.map_map]; exact List.map_id' l
    have hto : ∀ l : List (ByteArray × ByteArray × Bool), (l.map ofT).map tri = l := fun l => by rw [List.map_map]; exact List.map_id' l
    have e : d'.toList.map ofT = L := sort_files_uniq hL (by
      have := hp2.map ofT
      rw [hot] at this
      exact this.trans hp) hs2
    have e4 : d'.toList = L.map tri := by rw [← e, hto]
    have hput := rowK_put (m := m) (os := os) encT (fun x => .string x.1) (fun x => .string x.2.1) (fun x => .bool x.2.2) (fun _ => rfl) (F.map tri) (L.map tri) hlen (by simp [hp.length_eq]) hh
    rw [← e4, Array.toArray_toList] at hput
    refine ⟨rfl, ?_, hput.2⟩
    rw [flT, ← hp.length_eq, ← e4]
    exact hput.1


set_option maxRecDepth 100000 in
set_option maxHeartbeats 2000000 in
theorem CollectF (g : Nat) (lb : Array Value) (eg : ∀ args w, (callFunc g args).run Tryz.prog w = .ok (.enter g args) w) (D0 : DataW Unit) (N : Nat) (hN : N ≤ 1000000) (w : World) (hseq : SeqStopsK Fence.wide 3 Tryz.prog g lb (fun f : Fl => #[encF f]) KeepsWalks (AllF D0) (fun _ => True) N w) :
    Calls Tryz.prog 89 #[.func (.func g) #[] lb] w (SqP D0 w) := by
  have HA : Hid (Calls Tryz.prog 124 #[.slice none 0 0, .func (.func g) #[] lb] w (SqP D0 w)) := (callsIn_wide (n := 4)).1 (appendSeqF g lb eg D0 N hN w hseq)
  clear eg hseq
  go_enter Tryz.func89, Tryz.ntmps89
  go_wp2_with fail
  refine HA.out.mono ?_
  rintro e w1 ⟨v, fs, rfl, h1, h2, h3⟩
  have HE : Hid (AllF D0 fs ∧ w1.ownsRow w.heap.size 35 3 v fs.length (flCells fs) ∧ Below w.heap.size w w1) := ⟨h1, h2, h3⟩
  clear h1 h2 h3
  go_wp2
  go_ret
  exact ⟨v, fs, rfl, HE.out⟩

set_option maxRecDepth 100000 in
set_option maxHeartbeats 2000000 in
theorem SortedF (g : Nat) (lb : Array Value) (eg : ∀ args w, (callFunc g args).run Tryz.prog w = .ok (.enter g args) w) (D0 : DataW Unit) (N : Nat) (hN : N ≤ 1000000) (L : List Fl) (hL : L.Pairwise fun f g => pth f < pth g) (hl : L.length ≤ 1000000) (hp : ∀ F, AllF D0 F → F.Perm L) (w : World) (hseq : SeqStopsK Fence.wide 3 Tryz.prog g lb (fun f : Fl => #[encF f]) KeepsWalks (AllF D0) (fun _ => True) N w) :
    Calls Tryz.prog 37 #[.func (.func g) #[] lb, .func (.func 39) #[] #[]] w fun e w' => ∃ v, e = .returned v ∧ w'.ownsRow w.heap.size 35 3 v L.length (flCells L) ∧ Below w.heap.size w w' := by
  have HA : Hid (Calls Tryz.prog 89 #[.func (.func g) #[] lb] w (SqP D0 w)) := CollectF g lb eg D0 N hN w hseq
  have HP : Hid (L.Pairwise (fun f g => pth f < pth g) ∧ L.length ≤ 1000000 ∧ ∀ F, AllF D0 F → F.Perm L) := ⟨hL, hl, hp⟩
  clear eg hseq hL hl hp
  go_enter Tryz.func37, Tryz.ntmps37
  go_wp2_with fail
  refine HA.out.mono ?_
  rintro e w1 ⟨v, fs, rfl, h1, h2, h3⟩
  have hpp := HP.out.2.2 fs h1
  have HS : Hid (Calls Tryz.prog 90 #[v, .func (.func 39) #[] #[]] w1 fun e w' => e = .returned (.tuple #[]) ∧ w'.ownsRow w.heap.size 35 3 v L.length (flCells L) ∧ w1.grownBy w' v.ownBlock) := sortFiles h2 HP.out.1 hpp (by have := hpp.length_eq; have := HP.out.2.1; omega)
  have HB : Hid (Below w.heap.size w w1 ∧ ∀ k, v.ownBlock = some k → w.heap.size ≤ k) := ⟨h3, fun k hk => (h2.lt k hk).1⟩
  clear h1 h2 h3 hpp HA
  go_wp2_with fail
  refine HS.out.mono ?_
  rintro e w2 ⟨rfl, h4, h5⟩
  have HE : Hid (w2.ownsRow w.heap.size 35 3 v L.length (flCells L) ∧ Below w.heap.size w w2) := ⟨h4, HB.out.1.grown h5 HB.out.1.size HB.out.2⟩
  clear h4 h5 HS
  go_wp2
  go_ret
  exact ⟨v, rfl, HE.out⟩
end Go.Proofs.YtapiedeekbfpnaaGreatDoor

/- A machine in memory: what burns, what ends it, what is put. -/
namespace Go.Proofs.YtapiedeekbfpnaaGreatDoor
open Go.RowKit Go.Shelf

/-- A machine: its files (as a value), the map of what is made (a block), its texts, and how it stands. -/
structure Mc where
  fv : Value
  mp : Nat
  tx : List ByteArray
  fuel : Nat
  next : Nat
  ended : Bool
  code : Nat
def mcL (m : Mc) : List Value := [m.fv, .map (some m.mp)] ++ (m.tx.map Value.string ++ [.int .i64 (m.fuel : Int), .int .i64 (m.next : Int), .bool m.ended, .int .i64 (m.code : Int)])
structure McAt (w : World) (P : Nat) (m : Mc) : Prop where
  at_ : w.heap[P]? = some (.cells (mcL m).toArray 52 (0, 0))
  len : m.tx.length = 8
theorem McAt.lt {w : World} {P : Nat} {m : Mc} (h : McAt w P m) : P < w.heap.size := (Array.getElem?_eq_some_iff.1 h.at_).1
theorem McAt.below {w w' : World} {P : Nat} {m : Mc} (h : McAt w P m) (hb : Below w.heap.size w w') : McAt w' P m := ⟨(hb.block P h.lt).trans h.at_, h.len⟩
theorem mcL_lo {m : Mc} (i : Nat) (x : ByteArray) (hx : m.tx[i]? = some x) : (mcL m)[2 + i]? = some (.string x) := by
  unfold mcL
  have hi : i < m.tx.length := (List.getElem?_eq_some_iff.1 hx).1
  rw [List.getElem?_append_right (by simp), List.getElem?_append_left (by simp; omega), List.getElem?_map]
  simp [hx]
theorem mcL_hi {m : Mc} (h : m.tx.length = 8) (i : Nat) : (mcL m)[10 + i]? = [Value.int .i64 (m.fuel : Int), .int .i64 (m.next : Int), .bool m.ended, .int .i64 (m.code : Int)][i]? := by
  unfold mcL
  rw [List.getElem?_append_right (by simp; omega), List.getElem?_append_right (by simp; omega)]
  simp only [List.length_map, h, List.length_cons, List.length_nil]
  congr 1
  omega
theorem mcL_set_hi {m : Mc} (h : m.tx.length = 8) (i : Nat) (v : Value) : (mcL m).set (10 + i) v = [m.fv, .map (some m.mp)] ++ (m.tx.map Value.string ++ [Value.int .i64 (m.fuel : Int), .int .i64 (m.next : Int), .bool m.ended, .int .i64 (m.code : Int)].set i v) := by
  unfold mcL
  rw [List.set_append_right _ _ (by simp; omega), List.set_append_right _ _ (by simp; omega)]
  simp only [List.length_map, h, List.length_cons, List.length_nil]
  rw [show 10 + i - (0 + 1 + 1) - 8 = i by omega]
theorem mcL_set_lo {m : Mc} (i : Nat) (x : ByteArray) (hi : i < m.tx.length) : (mcL m).set (2 + i) (.string x) = mcL { m with tx := m.tx.set i x } := by
  unfold mcL
  rw [List.set_append_right _ _ (by simp), List.set_append_left _ _ (by simp; omega)]
  simp only [List.length_cons, List.length_nil]
  rw [show 2 + i - (0 + 1 + 1) = i by omega, List.map_set]

section
variable {w : World} {P : Nat} {m : Mc}
theorem McAt.cell (h : McAt w P m) (i : Nat) : w.cell? ⟨P, i, none⟩ = (mcL m)[i]? := by
  rw [Lib.cell_of_heap h.at_, List.getElem?_toArray]
theorem McAt.c10 (h : McAt w P m) : w.cell? ⟨P, 10, none⟩ = some (.int .i64 (m.fuel : Int)) := (h.cell 10).trans (mcL_hi h.len 0)
theorem McAt.c11 (h : McAt w P m) : w.cell? ⟨P, 11, none⟩ = some (.int .i64 (m.next : Int)) := (h.cell 11).trans (mcL_hi h.len 1)
theorem McAt.c12 (h : McAt w P m) : w.cell? ⟨P, 12, none⟩ = some (.bool m.ended) := (h.cell 12).trans (mcL_hi h.len 2)
theorem McAt.c13 (h : McAt w P m) : w.cell? ⟨P, 13, none⟩ = some (.int .i64 (m.code : Int)) := (h.cell 13).trans (mcL_hi h.len 3)
theorem McAt.frozen (h : McAt w P m) (i : Nat) : w.frozen? ⟨P, i, none⟩ = false := Lib.frozen_of_heap h.at_ i
theorem McAt.set (h : McAt w P m) (i : Nat) (v : Value) : (w.setCell ⟨P, i, none⟩ v).heap[P]? = some (.cells ((mcL m).set i v).toArray 52 (0, 0)) := by
  rw [Go.Joins.block_setCell h.at_]
  simp
theorem McAt.setFuel (h : McAt w P m) (x : Nat) : McAt (w.setCell ⟨P, 10, none⟩ (.int .i64 (x : Int))) P { m with fuel := x } := ⟨by rw [h.set, mcL_set_hi h.len 0]; rfl, h.len⟩
theorem McAt.setNext (h : McAt w P m) (x : Nat) : McAt (w.setCell ⟨P, 11, none⟩ (.int .i64 (x : Int))) P { m with next := x } := ⟨by rw [h.set, mcL_set_hi h.len 1]; rfl, h.len⟩
theorem McAt.setEnded (h : McAt w P m) (x : Bool) : McAt (w.setCell ⟨P, 12, none⟩ (.bool x)) P { m with ended := x } := ⟨by rw [h.set, mcL_set_hi h.len 2]; rfl, h.len⟩
theorem McAt.setCode (h : McAt w P m) (x : Nat) : McAt (w.setCell ⟨P, 13, none⟩ (.int .i64 (x : Int))) P { m with code := x } := ⟨by rw [h.set, mcL_set_hi h.len 3]; rfl, h.len⟩
theorem McAt.setText (h : McAt w P m) (i : Nat) (x : ByteArray) (hi : i < 8) : McAt (w.setCell ⟨P, 2 + i, none⟩ (.string x)) P { m with tx := m.tx.set i x } := ⟨by rw [h.set, mcL_set_lo i x (by rw [h.len]; exact hi)], by simp [h.len]⟩
end

/-- What a line burns that has so many bytes. -/
def burnM (m : Mc) (bytes : Nat) : Mc × Bool := if m.fuel < 1 + bytes / 16 then ({ m with fuel := 0, ended := true, code := 104 }, false) else ({ m with fuel := m.fuel - (1 + bytes / 16) }, true)

set_option maxHeartbeats 1000000 in
set_option maxRecDepth 100000 in
theorem burn_any (m : Mc) (P bytes : Nat) (w : World) (h : McAt w P m) (hb : bytes ≤ 1000000) (hf : m.fuel ≤ 1000000) :
    Calls Tryz.prog 111 #[.pointer (some ⟨P, 0, none⟩), .int .i64 (bytes : Int)] w fun e w' => e = .returned (.bool (burnM m bytes).2) ∧ McAt w' P (burnM m bytes).1 ∧ UpB P w w' := by
  have c10 := h.c10
  have f10 := h.frozen 10
  have f12 := h.frozen 12
  have f13 := h.frozen 13
  have c12 := h.c12
  have c13 := h.c13
  have H : Hid (McAt w P m) := h
  obtain ⟨q, hq⟩ : ∃ q : Nat, q = bytes / 16 := ⟨_, rfl⟩
  have e1 : ((bytes : Int)).tdiv 16 = (q : Int) := by rw [hq]; rfl
  obtain ⟨n, hn⟩ : ∃ n : Nat, n = 1 + q := ⟨_, rfl⟩
  have e2 : (1 : Int) + (q : Int) = (n : Int) := by omega
  have e3 : IntKind.i64.wrap (q : Int) = (q : Int) := by rw [IntKind.wrap_i64]; omega
  have e4 : IntKind.i64.wrap (n : Int) = (n : Int) := by rw [IntKind.wrap_i64]; omega
  unfold burnM
  rw [← hq, ← hn]
  by_cases hlt : m.fuel < n
  · rw [if_pos hlt]
    have hlti : (m.fuel : Int) < (n : Int) := by omega
    clear h hb hf hq hn hlt
    generalize (m.fuel : Int) = fu at *
    generalize (m.code : Int) = co at *
    generalize m.ended = en at *
    go_enter Tryz.func111, Tryz.ntmps111
    go_wp2
    go_ret
    exact ⟨rfl, ((H.out.setFuel 0).setEnded true).setCode 104, ((UpB.set P 10 w _).trans (UpB.set P 12 _ _)).trans (UpB.set P 13 _ _)⟩
  · rw [if_neg hlt]
    have hlti : ¬ (m.fuel : Int) < (n : Int) := by omega
    obtain ⟨r, hr⟩ : ∃ r : Nat, m.fuel - n = r := ⟨_, rfl⟩
    rw [hr]
    have e5 : (m.fuel : Int) - (n : Int) = (r : Int) := by omega
    have e6 : IntKind.i64.wrap (r : Int) = (r : Int) := by rw [IntKind.wrap_i64]; omega
    clear h hb hf hq hn hlt hr
    go_enter Tryz.func111, Tryz.ntmps111
    go_wp2
    go_ret
    exact ⟨rfl, H.out.setFuel r, UpB.set P 10 w _⟩

/-- It ends by a line, which does nothing else. -/
def endM (m : Mc) (c : Nat) : Mc := if (burnM m 0).2 = true then { (burnM m 0).1 with ended := true, code := c } else (burnM m 0).1

set_option maxHeartbeats 1000000 in
set_option maxRecDepth 100000 in
theorem end_any (m : Mc) (P c : Nat) (w : World) (h : McAt w P m) (hf : m.fuel ≤ 1000000) :
    Calls Tryz.prog 88 #[.pointer (some ⟨P, 0, none⟩), .int .i64 (c : Int)] w fun e w' => e = .returned (.tuple #[]) ∧ McAt w' P (endM m c) ∧ UpB P w w' := by
  have HB := burn_any m P 0 w h (by omega) hf
  unfold endM
  generalize burnM m 0 = bm at *
  obtain ⟨m1, b⟩ := bm
  have HB : Hid (Calls Tryz.prog 111 #[.pointer (some ⟨P, 0, none⟩), .int .i64 (0 : Int)] w fun e w' => e = .returned (.bool b) ∧ Hid (McAt w' P m1 ∧ UpB P w w')) := HB
  simp only
  clear h hf
  cases b with
  | false =>
    rw [if_neg (by simp)]
    go_enter Tryz.func88, Tryz.ntmps88
    go_wp2_with (first | (go_at_call 111; refine HB.out.mono ?_; rintro e w1 ⟨rfl, H1⟩) | go_in)
    go_end0
    exact ⟨rfl, H1.out.1, H1.out.2⟩
  | true =>
    rw [if_pos rfl]
    go_enter Tryz.func88, Tryz.ntmps88
    go_wp2_with (first | (go_at_call 111; refine HB.out.mono ?_; rintro e w1 ⟨rfl, H1⟩; have c12 := H1.out.1.c12; have f12 := H1.out.1.frozen 12; have c13 := H1.out.1.c13; have f13 := H1.out.1.frozen 13) | go_in)
    go_end0
    exact ⟨rfl, (H1.out.1.setEnded true).setCode c, (H1.out.2.trans (UpB.set P 12 _ _)).trans (UpB.set P 13 _ _)⟩

/-- A text is put. -/
def putM (m : Mc) (r : Nat) (t : ByteArray) : Mc := if 100000 < t.size then endM m 102 else if (burnM m t.size).2 = true then { (burnM m t.size).1 with tx := (burnM m t.size).1.tx.set r t } else (burnM m t.size).1

set_option maxHeartbeats 1000000 in
set_option maxRecDepth 100000 in
theorem put_any (m : Mc) (P r : Nat) (t : ByteArray) (w : World) (h : McAt w P m) (hf : m.fuel ≤ 1000000) (hr : r < 8) (ht : t.size ≤ 1000000) :
    Calls Tryz.prog 68 #[.pointer (some ⟨P, 0, none⟩), .int .i64 (r : Int), .string t] w fun e w' => e = .returned (.tuple #[]) ∧ McAt w' P (putM m r t) ∧ UpB P w w' := by
  have HT : Hid (∀ W, Calls Tryz.prog 33 #[.string t] W fun e w' => e = .returned (.bool (decide (100000 < t.size))) ∧ w' = W) := isTooLong_any t
  unfold putM
  by_cases hl : 100000 < t.size
  · rw [if_pos hl]
    rw [decide_eq_true hl] at HT
    have HE : Hid (Calls Tryz.prog 88 #[.pointer (some ⟨P, 0, none⟩), .int .i64 (102 : Int)] w fun e w' => e = .returned (.tuple #[]) ∧ Hid (McAt w' P (endM m 102) ∧ UpB P w w')) := end_any m P 102 w h hf
    clear h hf ht hl
    go_enter Tryz.func68, Tryz.ntmps68
    go_wp2_with (first
      | (go_at_call 33; refine (HT.out _).mono ?_; rintro e w1 ⟨rfl, hw⟩; subst w1)
      | (go_at_call 88; refine HE.out.mono ?_; rintro e w1 ⟨rfl, H1⟩)
      | go_in)
    refine bodyPost_ret (v := .tuple #[]) (by simp [results, Tryz.results68]) rfl ?_
    exact ⟨rfl, H1.out⟩
  · rw [if_neg hl]
    rw [decide_eq_false hl] at HT
    have HB := burn_any m P t.size w h ht hf
    have hsz9 : (t.size : Int) ≤ 9223372036854775807 := by omega
    generalize burnM m t.size = bm at *
    obtain ⟨m1, b⟩ := bm
    have HB : Hid (Calls Tryz.prog 111 #[.pointer (some ⟨P, 0, none⟩), .int .i64 (t.size : Int)] w fun e w' => e = .returned (.bool b) ∧ Hid (McAt w' P m1 ∧ UpB P w w')) := HB
    simp only
    clear h hf ht hl
    cases b with
    | false =>
      rw [if_neg (by simp)]
      go_enter Tryz.func68, Tryz.ntmps68
      go_wp2_with (first
        | (go_at_call 33; refine (HT.out _).mono ?_; rintro e w1 ⟨rfl, hw⟩; subst w1)
        | (go_at_call 111; refine HB.out.mono ?_; rintro e w1 ⟨rfl, H1⟩)
        | go_in)
      go_end0
      exact ⟨rfl, H1.out⟩
    | true =>
      rw [if_pos rfl]
      have hri : (r : Int) < 8 := by omega
      go_enter Tryz.func68, Tryz.ntmps68
      go_wp2_with (first
        | (go_at_call 33; refine (HT.out _).mono ?_; rintro e w1 ⟨rfl, hw⟩; subst w1)
        | (go_at_call 111; refine HB.out.mono ?_; rintro e w1 ⟨rfl, H1⟩; have cr : w1.cell? ⟨P, 2 + r, none⟩ = some (.string (m1.tx[r]'(by rw [H1.out.1.len]; exact hr))) := (H1.out.1.cell (2 + r)).trans (mcL_lo r _ (List.getElem?_eq_getElem _)); have fr := H1.out.1.frozen (2 + r))
        | go_in)
      go_end0
      exact ⟨rfl, H1.out.1.setText r t hr, H1.out.2.trans (UpB.set P (2 + r) _ _)⟩

/-- It goes elsewhere. -/
def goM (m : Mc) (b : Bool) (n : Nat) : Mc := if ((burnM m 0).2 && b) = true then { (burnM m 0).1 with next := n } else (burnM m 0).1

set_option maxHeartbeats 1000000 in
set_option maxRecDepth 100000 in
theorem goIf_any (m : Mc) (P : Nat) (hb : Bool) (n : Nat) (w : World) (h : McAt w P m) (hf : m.fuel ≤ 1000000) :
    Calls Tryz.prog 84 #[.pointer (some ⟨P, 0, none⟩), .bool hb, .int .i64 (n : Int)] w fun e w' => e = .returned (.tuple #[]) ∧ McAt w' P (goM m hb n) ∧ UpB P w w' := by
  have HB := burn_any m P 0 w h (by omega) hf
  unfold goM
  generalize burnM m 0 = bm at *
  obtain ⟨m1, b⟩ := bm
  have HB : Hid (Calls Tryz.prog 111 #[.pointer (some ⟨P, 0, none⟩), .int .i64 (0 : Int)] w fun e w' => e = .returned (.bool b) ∧ Hid (McAt w' P m1 ∧ UpB P w w')) := HB
  simp only
  clear h hf
  cases b with
  | false =>
    rw [if_neg (by simp)]
    go_enter Tryz.func84, Tryz.ntmps84
    go_wp2_with (first | (go_at_call 111; refine HB.out.mono ?_; rintro e w1 ⟨rfl, H1⟩) | go_in)
    go_end0
    exact ⟨rfl, H1.out⟩
  | true =>
    cases hb with
    | false =>
      rw [if_neg (by simp)]
      go_enter Tryz.func84, Tryz.ntmps84
      go_wp2_with (first | (go_at_call 111; refine HB.out.mono ?_; rintro e w1 ⟨rfl, H1⟩) | go_in)
      go_end0
      exact ⟨rfl, H1.out⟩
    | true =>
      rw [if_pos (by simp)]
      go_enter Tryz.func84, Tryz.ntmps84
      go_wp2_with (first | (go_at_call 111; refine HB.out.mono ?_; rintro e w1 ⟨rfl, H1⟩; have c11 := H1.out.1.c11; have f11 := H1.out.1.frozen 11) | go_in)
      go_end0
      exact ⟨rfl, H1.out.1.setNext n, H1.out.2.trans (UpB.set P 11 _ _)⟩
end Go.Proofs.YtapiedeekbfpnaaGreatDoor
