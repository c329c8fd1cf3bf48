/- A tree, plain: what Check answers. -/
import Derived.Maps.OwnSet
import Derived.Maps.Views
import Derived.WalkSmall
import Derived.Deep.RegionHeld3
import Derived.Lib.Walk
import Derived.Lib.Hide
import Derived.WalkKit
import Derived.Shelf.Abstract
import Derived.Deep.QuietTactic
import Derived.BigQuiet
import Derived.BigRegion
import Derived.Test.YtefdfcjohkndgaaGreatDoorRows
import Derived.WalkSpells
import Derived.WalkLawsBesides
import Derived.Lib.Strings
import Derived.Lib.Builder
import Derived.Test.YtefdfcjohkndgaaGreatDoorTc1
namespace Go.Proofs.YtefdfcjohkndgaaGreatDoor
open Go.RowKit Go.Shelf Go.Maps

theorem tlt : ∀ a b : List UInt8, Op.bytesLess a b = decide (a < b)
  | [], [] => by simp [Op.bytesLess]
  | [], b :: s => by simp [Op.bytesLess]
  | a :: r, [] => by simp [Op.bytesLess]
  | a :: r, b :: s => by
    rw [Op.bytesLess, tlt r s]
    rw [Bool.eq_iff_iff]
    simp [List.cons_lt_cons_iff]

/-- A path's bytes. -/
def pth (f : Fl) : List UInt8 := f.pa.data.toList
/-- The first that is wrong. -/
def flEs : List Fl → Int
  | [] => 0
  | f :: l => if flE f = 0 then flEs l else flE f
theorem flEs_yes (ns : List Fl) (h : ∀ j (hj : j < ns.length), flE ns[j] = 0) : flEs ns = 0 := by
  induction ns with
  | nil => rfl
  | cons n l ih =>
    have h0 : flE n = 0 := h 0 (by simp)
    show (if flE n = 0 then flEs l else flE n) = 0
    rw [if_pos h0]
    exact ih (fun j hj => h (j + 1) (by simp; omega))
theorem flEs_no (ns : List Fl) (k : Nat) (hk : k < ns.length) (h : ∀ j (hj : j < ns.length), j < k → flE ns[j] = 0) (hne : flE ns[k] ≠ 0) : flEs ns = flE ns[k] := by
  induction ns generalizing k with
  | nil => simp at hk
  | cons n l ih =>
    show (if flE n = 0 then flEs l else flE n) = _
    cases k with
    | zero => exact if_neg (show ¬ flE n = 0 from hne)
    | succ k =>
      have h0 : flE n = 0 := h 0 (by simp) (by omega)
      rw [if_pos h0]
      exact ih k (by simpa using hk) (fun j hj hjk => h (j + 1) (by simp; omega) (by omega)) hne
theorem flEs_all {ns : List Fl} (h : flEs ns = 0) : ∀ f ∈ ns, flE f = 0 := by
  induction ns with
  | nil => intro f hf; cases hf
  | cons n l ih =>
    rw [show flEs (n :: l) = (if flE n = 0 then flEs l else flE n) from rfl] at h
    by_cases h0 : flE n = 0
    · rw [if_pos h0] at h
      intro f hf
      rcases List.mem_cons.1 hf with rfl | hf
      · exact h0
      · exact ih h f hf
    · rw [if_neg h0] at h
      exact absurd h h0
theorem flE_pa {f : Fl} (h : flE f = 0) : pathOk f.pa = true ∧ f.tx.size ≤ 100000 := by
  unfold flE at h
  by_cases h1 : pathOk f.pa = false
  · rw [if_pos h1] at h; exact absurd h (by decide)
  · rw [if_neg h1] at h
    by_cases h2 : 100000 < f.tx.size
    · rw [if_pos h2] at h; exact absurd h (by decide)
    · exact ⟨by simpa using h1, by omega⟩

/-- Do the paths rise? -/
def upF (L : List Fl) : Bool := decide (L.Pairwise fun f g => pth f < pth g)
/-- Does a path of the one go through a file of the other? -/
def thruF (L M : List Fl) : Bool := L.any fun f => M.any fun g => inB f.pa g.pa
/-- What Check answers. -/
def chF (L : List Fl) : Int := if 60 < L.length then 2 else if flEs L = 0 then (if (upF L && !thruF L L) = true then 0 else 6) else flEs L

/-- No path is less than the one ahead of it. -/
def adjF (L : List Fl) : Prop := ∀ j (hj : j + 1 < L.length), ¬ pth L[j + 1] < pth L[j]
theorem adjF_pw : ∀ L : List Fl, adjF L → L.Pairwise fun f g => pth f ≤ pth g
  | [], _ => .nil
  | [a], _ => List.pairwise_singleton _ _
  | a :: b :: l, h => by
    have h0 : pth a ≤ pth b := List.not_lt.1 (h 0 (by simp))
    have ih := adjF_pw (b :: l) (fun j hj => h (j + 1) (by simp at hj ⊢; omega))
    rw [List.pairwise_cons]
    refine ⟨fun x hx => ?_, ih⟩
    rcases List.mem_cons.1 hx with rfl | hx
    · exact h0
    · exact List.le_trans h0 ((List.pairwise_cons.1 ih).1 x hx)
theorem up_of {L : List Fl} (h : adjF L) (hn : (L.map pth).Nodup) : upF L = true := by
  unfold upF
  rw [decide_eq_true_eq]
  have h1 := adjF_pw L h
  have h2 : L.Pairwise fun f g => pth f ≠ pth g := List.pairwise_map.1 hn
  refine (h1.and h2).imp fun {f g} hh => ?_
  obtain ⟨ha, hb⟩ := hh
  rcases Decidable.em (pth f < pth g) with h | h
  · exact h
  · exact absurd (List.le_antisymm ha (List.not_lt.1 h)) hb
theorem up_pw {L : List Fl} (h : upF L = true) : L.Pairwise fun f g => pth f < pth g := of_decide_eq_true h
theorem up_nodup {L : List Fl} (h : upF L = true) : (L.map pth).Nodup :=
  List.pairwise_map.2 ((up_pw h).imp fun hh e => by rw [e] at hh; exact List.lt_irrefl _ hh)
theorem up_adj {L : List Fl} (h : upF L = true) : adjF L := fun j hj hlt => by
  have := List.pairwise_iff_getElem.1 (up_pw h) j (j + 1) (by omega) hj (by omega)
  exact List.lt_irrefl _ (List.lt_trans this hlt)

theorem snocInd {α : Type} {P : List α → Prop} (h0 : P []) (h1 : ∀ l a, P l → P (l ++ [a])) (l : List α) : P l := by
  rw [← List.reverse_reverse l]
  induction l.reverse with
  | nil => exact h0
  | cons a r ih => rw [List.reverse_cons]; exact h1 _ _ ih

/-- A file, as a map's datum. -/
def fD (f : Fl) : DataW Unit := .agg [.lit (.string (pth f)), .lit (.string f.tx.data.toList), .lit (.bool f.rn)]
/-- Files by their paths. -/
def byD (L : List Fl) : DataW Unit := L.foldl (fun D f => D.put (.string (pth f)) (fD f)) (.map [])
theorem byD_snoc (L : List Fl) (f : Fl) : byD (L ++ [f]) = (byD L).put (.string (pth f)) (fD f) := by simp [byD, List.foldl_append]
theorem byD_tidy (L : List Fl) : Tidy (byD L) := by
  refine snocInd (P := fun L => Tidy (byD L)) tidy_empty (fun l a ih => ?_) L
  rw [byD_snoc]
  exact ih.put (by exact trivial) _
theorem has_byD (L : List Fl) (k : List UInt8) : Maps.has (byD L) (.string k) = L.any (fun f => decide (pth f = k)) := by
  refine snocInd (P := fun L => Maps.has (byD L) (.string k) = L.any (fun f => decide (pth f = k))) rfl (fun l a ih => ?_) L
  rw [byD_snoc, List.any_append, ← ih]
  by_cases h : pth a = k
  · subst h
    rw [has_put_same (byD_tidy l).isMap (by exact trivial)]
    simp
  · rw [has_put_other (fun e => h (by injection e with e; exact e.symm))]
    simp [h]
theorem size_byD (L : List Fl) : Maps.size (byD L) ≤ L.length ∧ (Maps.size (byD L) = L.length ↔ (L.map pth).Nodup) := by
  refine snocInd (P := fun L => Maps.size (byD L) ≤ L.length ∧ (Maps.size (byD L) = L.length ↔ (L.map pth).Nodup)) ⟨Nat.le_refl _, by simp [byD, Maps.size]⟩ (fun l a ih => ?_) L
  rw [byD_snoc, size_put (byD_tidy l), has_byD, List.length_append, List.map_append]
  obtain ⟨h1, h2⟩ := ih
  have e1 : [a].length = 1 := rfl
  rw [e1]
  by_cases h : l.any (fun f => decide (pth f = pth a)) = true
  · rw [if_pos h]
    refine ⟨by omega, ⟨fun e => by omega, fun e => ?_⟩⟩
    exfalso
    obtain ⟨f, hf, he⟩ := List.any_eq_true.1 h
    rw [List.nodup_append] at e
    exact e.2.2 (pth f) (List.mem_map.2 ⟨f, hf, rfl⟩) (pth a) (by simp) (by simpa using he)
  · rw [if_neg h]
    refine ⟨by omega, ⟨fun e => ?_, fun e => ?_⟩⟩
    · rw [List.nodup_append]
      refine ⟨h2.1 (by omega), by simp, fun x hx y hy e => ?_⟩
      obtain ⟨f, hf, rfl⟩ := List.mem_map.1 hx
      have hy' : y = pth a := by simpa using hy
      exact h (List.any_eq_true.2 ⟨f, hf, by rw [e, hy']; simp⟩)
    · have := h2.2 (List.nodup_append.1 e).1
      omega
theorem at_byD {L : List Fl} (hn : (L.map pth).Nodup) {f : Fl} (hf : f ∈ L) (z : DataW Unit) : (byD L).atKey (.string (pth f)) z = fD f := by
  refine snocInd (P := fun L => (L.map pth).Nodup → f ∈ L → (byD L).atKey (.string (pth f)) z = fD f) (fun _ h => by cases h) (fun l a ih => ?_) L hn hf
  intro hn hf
  rw [byD_snoc]
  rw [List.map_append, List.nodup_append] at hn
  rcases List.mem_append.1 hf with h | h
  · have hne : pth f ≠ pth a := hn.2.2 _ (List.mem_map.2 ⟨f, h, rfl⟩) _ (by simp)
    rw [atKey_put_other (fun e => hne (by injection e))]
    exact ih hn.1 h
  · have e : f = a := by simpa using h
    subst e
    exact atKey_put_same (byD_tidy l).isMap (by exact trivial) _ _
theorem atNo_byD {L : List Fl} {k : List UInt8} (h : ∀ f ∈ L, pth f ≠ k) (z : DataW Unit) : (byD L).atKey (.string k) z = z := by
  refine atKey_of_not_has ?_ z
  rw [has_byD, List.any_eq_false]
  intro f hf
  simpa using h f hf

/-- Where a path's slash is, a file stands. -/
theorem inB_iff (p d : ByteArray) : inB p d = true ↔ ∃ i, i < p.size ∧ p.data.toList.getD i 0 = 47 ∧ d.data.toList = (p.extract 0 i).data.toList := by
  unfold inB
  rw [Bool.and_eq_true, Bool.and_eq_true, decide_eq_true_eq, decide_eq_true_eq, decide_eq_true_eq, Lib.toList_data, Lib.toList_data]
  constructor
  · rintro ⟨⟨h1, h2⟩, h3⟩
    exact ⟨d.size, h1, h2, h3.symm⟩
  · rintro ⟨i, h1, h2, h3⟩
    have h4 : d.size = i := by
      have := congrArg List.length h3
      rw [Array.length_toList, Array.length_toList] at this
      have e2 : (p.extract 0 i).data.size = i := by
        show (p.extract 0 i).size = i
        rw [ByteArray.size_extract]
        omega
      rw [e2] at this
      exact this
    rw [h4]
    exact ⟨⟨h1, h2⟩, h3.symm⟩
end Go.Proofs.YtefdfcjohkndgaaGreatDoor

/- Check: files in memory; by their paths; do they rise? -/
namespace Go.Proofs.YtefdfcjohkndgaaGreatDoor
open Go.RowKit Go.Shelf Go.Maps Go.WideMaps

theorem lawS : Keyed Tryz.prog 9 := string_keyed Tryz.underlying9
/-- The files L lie in block g from offset o on. -/
def FlAt (g o : Nat) (L : List Fl) (w : World) : Prop := ∀ j (hj : j < L.length), w.cell? ⟨g, o + j * 3, none⟩ = some (.string L[j].pa) ∧ w.cell? ⟨g, o + j * 3 + 1, none⟩ = some (.string L[j].tx) ∧ w.cell? ⟨g, o + j * 3 + 2, none⟩ = some (.bool L[j].rn)
theorem FlAt.below {B g o : Nat} {L : List Fl} {w w' : World} (h : FlAt g o L w) (hb : Below B w w') (hg : g < B) : FlAt g o L w' := fun j hj =>
  ⟨(hb.cell (p := ⟨g, o + j * 3, none⟩) hg).trans (h j hj).1, (hb.cell (p := ⟨g, o + j * 3 + 1, none⟩) hg).trans (h j hj).2.1, (hb.cell (p := ⟨g, o + j * 3 + 2, none⟩) hg).trans (h j hj).2.2⟩
/-- A slice that begins at ao has the files L. -/
def IsFl (w : World) (ao : Option Addr) (L : List Fl) : Prop := L = [] ∨ ∃ g o, ao = some ⟨g, o, none⟩ ∧ g < w.heap.size ∧ FlAt g o L w
theorem IsFl.below {B : Nat} {ao : Option Addr} {L : List Fl} {w w' : World} (h : IsFl w ao L) (hb : Below B w w') (hB : w.heap.size ≤ B) : IsFl w' ao L := by
  rcases h with h | ⟨g, o, h1, h2, h3⟩
  · exact .inl h
  · exact .inr ⟨g, o, h1, Nat.lt_of_lt_of_le h2 hb.size, h3.below hb (by omega)⟩

/-- How a file in a map reads. -/
def fileE (v : Value) : Option (DataW Unit × List MemPlace) := match v with
  | .agg a => match a.toList with
    | [.string p, .string t, .bool r] => some (fD ⟨p, t, r⟩, [])
    | _ => none
  | _ => none
theorem fileE_mk (f : Fl) : fileE (encF f) = some (fD f, []) := rfl
theorem fileE_inv {v : Value} {d : DataW Unit} {ps : List MemPlace} (h : fileE v = some (d, ps)) : ∃ f, v = encF f ∧ d = fD f := by
  unfold fileE at h
  split at h
  · rename_i a
    split at h
    · rename_i p t r e
      injection h with h
      injection h with h1 h2
      refine ⟨⟨p, t, r⟩, ?_, h1.symm⟩
      show Value.agg a = Value.agg #[.string p, .string t, .bool r]
      rw [← Array.toArray_toList (xs := a), e]
    · cases h
  · cases h
theorem fD_inj {f g : Fl} (h : fD f = fD g) : f = g := by
  obtain ⟨p, t, r⟩ := f
  obtain ⟨p2, t2, r2⟩ := g
  unfold fD at h
  injection h with h
  injection h with h1 h
  injection h with h2 h
  injection h with h3 _
  injection h1 with h1
  injection h1 with h1
  injection h2 with h2
  injection h2 with h2
  injection h3 with h3
  injection h3 with h3
  have e1 : p = p2 := by
    have := Array.toList_inj.1 (show p.data.toList = p2.data.toList from h1)
    obtain ⟨x⟩ := p; obtain ⟨y⟩ := p2; exact congrArg ByteArray.mk this
  have e2 : t = t2 := by
    have := Array.toList_inj.1 (show t.data.toList = t2.data.toList from h2)
    obtain ⟨x⟩ := t; obtain ⟨y⟩ := t2; exact congrArg ByteArray.mk this
  rw [e1, e2, show r = r2 from h3]
theorem zeroF (w : World) : (zeroValue 44).run Tryz.prog w = .ok (encF ⟨⟨#[]⟩, ⟨#[]⟩, false⟩) w := by kernel_rfl

theorem makeMap_n {t k e : TypeId} (ht : Tryz.prog.underlying t = some (.map k e)) (n : Nat) (w : World) : (Instr.makeMap t (some (.int .i64 (n : Int)))).run Tryz.prog w = .ok (.map (some w.heap.size)) (w.alloc (.map #[] 0)) := by
  simp [Instr.makeMap, run_underlying ht, asInt, asIntOf]

set_option maxHeartbeats 2000000 in
set_option maxRecDepth 100000 in
theorem byPath_any (ao : Option Addr) (cap : Nat) (L : List Fl) (w : World) (hn : L.length ≤ 1000000) (hl : IsFl w ao L) (hs : ∀ f ∈ L, f.pa.size ≤ maxLen) :
    Calls Tryz.prog 41 #[.slice ao L.length cap] w fun e w' => e = .returned (.map (some w.heap.size)) ∧ w'.ownsMap Tryz.prog 9 fileE w.heap.size L.length (byD L) ∧ Below w.heap.size w w' := by
  have HL : Hid (IsFl w ao L) := hl
  have HS : Hid (∀ f ∈ L, f.pa.size ≤ maxLen) := hs
  have hn1 : (L.length : Int) ≤ 1000000 := by omega
  have hmm := makeMap_n Tryz.underlying68
  clear hl hs
  go_enter Tryz.func41, Tryz.ntmps41
  go_wp2
  go_loopw [11] (fun i wr => ∃ k : Nat, k ≤ L.length ∧ i = .int .i64 k ∧ wr.ownsMap Tryz.prog 9 fileE w.heap.size k (byD (L.take k)) ∧ Below w.heap.size w wr) (fun i _ => L.length - (intOf i).toNat)
  case atStart => exact ⟨0, by omega, rfl, World.ownsMap_made _ _ _ _, (Below.refl _ _).alloc (Nat.le_refl _) _⟩
  case round =>
    obtain ⟨k, hk, rfl, hown, hb⟩ := hrel
    by_cases hlt : k < L.length
    · have HLB := HL.out.below hb (Nat.le_refl _)
      rcases HLB with h | ⟨g, o, rfl, hg, hc⟩
      · exfalso; rw [h] at hlt; exact absurd hlt (by simp)
      have hgs : g < w.heap.size := by
        rcases HL.out with h | ⟨g2, o2, e, h2, _⟩
        · exfalso; rw [h] at hlt; exact absurd hlt (by simp)
        · injection e with e; injection e with e1 _; rw [e1]; exact h2
      obtain ⟨c0, c1, c2⟩ := hc k hlt
      have hsz : L[k].pa.size ≤ maxLen := HS.out _ (List.getElem_mem hlt)
      have HE : Hid (byD (L.take (k + 1)) = (byD (L.take k)).put (.string (pth L[k])) (fD L[k])) := by
        show _ = _
        rw [List.take_succ_eq_append_getElem hlt, byD_snoc]
      have HB : Hid (Below w.heap.size w wr) := hb
      have hwz := hb.size
      generalize hx : L[k] = x at c0 c1 c2 hsz HE
      clear hx
      obtain ⟨p, t, r⟩ := x
      simp only at c0 c1 c2 hsz
      have hkey := keyOf_string_mk Tryz.underlying9 hsz
      have hown2 := hown.alloc (.cells #[.string p, .string t, .bool r] 44)
      clear hb hown hc
      go_wp2_with (first
        | (at_mapUpdate; refine wpList_mapUpdate_own _ rfl _ _ _ 68 rfl 9 44 lawS Tryz.underlying68 _ w.heap.size k (byD (L.take k)) rfl hown2 (by unfold maxLen; omega) _ _ _ rfl rfl hkey _ [] (fileE_mk ⟨p, t, r⟩) ?_; intro w1 hown1 hgrow1)
        | go_in)
      refine ⟨⟨k + 1, by omega, by go_num, by rw [HE.out]; exact hown1, ?_⟩, by simp [intOf]; omega⟩
      exact ((HB.out.alloc (by omega) _).grown hgrow1 (by rw [World.size_alloc]; omega) (fun j hj => by cases hj; exact Nat.le_refl _))
    · obtain rfl : k = L.length := by omega
      have HB : Hid (Below w.heap.size w wr) := hb
      have HO : Hid (wr.ownsMap Tryz.prog 9 fileE w.heap.size L.length (byD L)) := by
        rw [List.take_length] at hown
        exact hown
      clear hb hown
      go_wp2
      go_ret
      exact ⟨rfl, HO.out, HB.out⟩
end Go.Proofs.YtefdfcjohkndgaaGreatDoor

/- Check: do paths rise? -/
namespace Go.Proofs.YtefdfcjohkndgaaGreatDoor
open Go.RowKit Go.Shelf Go.Maps Go.WideMaps

theorem cmpB_neg (x y : ByteArray) : decide (cmpB x y < 0) = decide (x.data.toList < y.data.toList) := by
  unfold cmpB
  rw [Lib.toList_data, Lib.toList_data, tlt]
  by_cases h : x.data.toList < y.data.toList
  · simp [h]
  · by_cases h2 : x.data.toList = y.data.toList
    · simp [h2, List.lt_irrefl]
    · simp [h, h2]

/-- How the look ends. -/
def SortedP (L : List Fl) (w : World) (e : Ending) (w' : World) : Prop := ∃ b, e = .returned (.bool b) ∧ (b = true ↔ adjF L) ∧ Below w.heap.size w w'

set_option maxHeartbeats 2000000 in
set_option maxRecDepth 100000 in
theorem isSorted_any (ao : Option Addr) (cap : Nat) (L : List Fl) (w : World) (hn : L.length ≤ 1000000) (hl : IsFl w ao L) :
    Calls Tryz.prog 43 #[.slice ao L.length cap, .func (.func 31) #[] #[]] w (SortedP L w) := by
  have HL : Hid (IsFl w ao L) := hl
  have hn1 : (L.length : Int) ≤ 1000000 := by omega
  clear hl
  go_enter Tryz.func43, Tryz.ntmps43
  go_wp2
  go_loopw [5] (fun i wr => ∃ k : Nat, k ≤ L.length ∧ i = .int .i64 ((k : Int) - 1) ∧ (∀ j, (hj : j + 1 < L.length) → k ≤ j + 1 → ¬ pth L[j + 1] < pth L[j]) ∧ Below w.heap.size w wr) (fun i _ => (intOf i + 1).toNat)
  case atStart => exact ⟨L.length, Nat.le_refl _, by go_num, fun j hj hjk => by omega, Below.refl _ _⟩
  case round =>
    obtain ⟨k, hk, rfl, hlo, hb⟩ := hrel
    have HO : Hid (∀ j, (hj : j + 1 < L.length) → k ≤ j + 1 → ¬ pth L[j + 1] < pth L[j]) := hlo
    have HB : Hid (Below w.heap.size w wr) := hb
    have hsz := hb.size
    clear hlo
    by_cases hlt : 2 ≤ k
    · obtain ⟨m, rfl⟩ : ∃ m, k = m + 2 := ⟨k - 2, by omega⟩
      have HLB := HL.out.below hb (Nat.le_refl _)
      clear hb
      rcases HLB with h | ⟨g, o, rfl, hgr, hc⟩
      · exfalso; rw [h] at hk; simp at hk
      obtain ⟨a0, a1, a2⟩ := hc m (by omega)
      obtain ⟨b0, b1, b2⟩ := hc (m + 1) (by omega)
      have i0 : (((m + 2 : Nat) : Int) - 1) = (m : Int) + 1 := by omega
      rw [i0]
      have i1 : (0 : Int) ≤ (m : Int) := by omega
      have i2 : (m : Int) < L.length := by omega
      have i3 : (0 : Int) ≤ (m : Int) + 1 := by omega
      have i4 : (m : Int) + 1 < L.length := by omega
      have i5 : IntKind.i64.wrap ((m : Int) + 1 - 1) = m := by rw [wraps_i64 _ (by omega) (by omega)]; omega
      have i6 : IntKind.i64.wrap (m : Int) = m := wraps_i64 _ (by omega) (by omega)
      have i7 : ((m : Int) + 1).toNat = m + 1 := by omega
      generalize hx : L[m] = x at a0 a1 a2
      generalize hy : L[m + 1] = y at b0 b1 b2
      obtain ⟨xp, xt, xr⟩ := x
      obtain ⟨yp, yt, yr⟩ := y
      have HX : Hid (L[m] = ⟨xp, xt, xr⟩) := hx
      have HY : Hid (L[m + 1] = ⟨yp, yt, yr⟩) := hy
      simp only at a0 a1 a2 b0 b1 b2
      clear hx hy hc
      obtain ⟨cv, hcv⟩ : ∃ cv, cv = cmpB yp xp := ⟨_, rfl⟩
      have HC : Hid (∀ W, Calls Tryz.prog 31 #[.agg #[.string yp, .string yt, .bool yr], .agg #[.string xp, .string xt, .bool xr]] W fun e w' => e = .returned (.int .i64 cv) ∧ Below W.heap.size W w') := fun W => by
        rw [hcv]
        exact comparePaths_any ⟨yp, yt, yr⟩ ⟨xp, xt, xr⟩ W
      have HD : Hid (decide (cv < 0) = decide (pth L[m + 1] < pth L[m])) := by
        show _ = _
        rw [hcv, cmpB_neg, HX.out, HY.out]
        rfl
      clear hcv
      by_cases hls : cv < 0
      · have HLS : Hid (cv < 0) := hls
        go_wp2_with fail
        go_region_held3 (fun w' => w'.cell? ⟨g, o + m * 3, none⟩ = some (.string xp) ∧ w'.cell? ⟨g, o + m * 3 + 1, none⟩ = some (.string xt) ∧ w'.cell? ⟨g, o + m * 3 + 2, none⟩ = some (.bool xr) ∧ w'.cell? ⟨g, o + (m + 1) * 3, none⟩ = some (.string yp) ∧ w'.cell? ⟨g, o + (m + 1) * 3 + 1, none⟩ = some (.string yt) ∧ w'.cell? ⟨g, o + (m + 1) * 3 + 2, none⟩ = some (.bool yr) ∧ g < w'.heap.size)
          (first | (simp [go_sem, *]; done) | (go_split_ands; refine ⟨?_, ?_, ?_, ?_, ?_, ?_, ?_⟩ <;> first | (exact Nat.lt_of_lt_of_le (by assumption) hb1.size) | (rw [hb1.cell (p := ⟨g, _, none⟩) (by assumption)]; assumption)))
          (first
            | (go_at_call 31; refine (HC.out _).mono ?_; rintro e w1 ⟨rfl, hb1⟩)
            | fail)
        have HB3 : Hid (Below w.heap.size w w1) := HB.out.drew.trans (hb1.mono HB.out.drew.size)
        clear hb1
        go_wp2
        go_ret
        refine ⟨false, rfl, ⟨fun h => absurd h (by decide), fun h => ?_⟩, HB3.out⟩
        have := h m (by omega)
        have h2 := HD.out
        rw [decide_eq_true HLS.out] at h2
        exact absurd (of_decide_eq_true h2.symm) this
      · have HLS : Hid (0 ≤ cv) := by
          show 0 ≤ cv
          omega
        go_wp2_with fail
        go_region_held3 (fun w' => w'.cell? ⟨g, o + m * 3, none⟩ = some (.string xp) ∧ w'.cell? ⟨g, o + m * 3 + 1, none⟩ = some (.string xt) ∧ w'.cell? ⟨g, o + m * 3 + 2, none⟩ = some (.bool xr) ∧ w'.cell? ⟨g, o + (m + 1) * 3, none⟩ = some (.string yp) ∧ w'.cell? ⟨g, o + (m + 1) * 3 + 1, none⟩ = some (.string yt) ∧ w'.cell? ⟨g, o + (m + 1) * 3 + 2, none⟩ = some (.bool yr) ∧ g < w'.heap.size)
          (first | (simp [go_sem, *]; done) | (go_split_ands; refine ⟨?_, ?_, ?_, ?_, ?_, ?_, ?_⟩ <;> first | (exact Nat.lt_of_lt_of_le (by assumption) hb1.size) | (rw [hb1.cell (p := ⟨g, _, none⟩) (by assumption)]; assumption)))
          (first
            | (go_at_call 31; refine (HC.out _).mono ?_; rintro e w1 ⟨rfl, hb1⟩)
            | fail)
        have HB3 : Hid (Below w.heap.size w w1) := HB.out.drew.trans (hb1.mono HB.out.drew.size)
        clear hb1
        go_wp2
        refine ⟨⟨m + 1, by omega, by go_num, fun j hj hjk => ?_, HB3.out⟩, by simp [intOf]; omega⟩
        by_cases h : m + 2 ≤ j + 1
        · exact HO.out j hj h
        · obtain rfl : j = m := by omega
          intro h3
          have h2 := HD.out
          rw [decide_eq_true h3] at h2
          have h4 : cv < 0 := of_decide_eq_true h2
          have h5 : 0 ≤ cv := HLS.out
          omega
    · clear hb
      have i0 : ¬ (0 : Int) < (k : Int) - 1 := by omega
      go_wp2
      go_ret
      exact ⟨true, rfl, ⟨fun _ => fun j hj => HO.out j hj (by omega), fun _ => rfl⟩, HB.out⟩
end Go.Proofs.YtefdfcjohkndgaaGreatDoor

/- Check: does a path go through a file? -/
namespace Go.Proofs.YtefdfcjohkndgaaGreatDoor
open Go.RowKit Go.Shelf Go.Maps Go.WideMaps

theorem ownsMap_heap {H : Type} {w w' : World} {P : Program} {k : TypeId} {R : Value → Option (DataW H × List MemPlace)} {b n : Nat} {D : DataW H} (h : w.ownsMap P k R b n D) (hh : w'.heap[b]? = w.heap[b]?) : w'.ownsMap P k R b n D := by
  obtain ⟨es, clock, hb, rest⟩ := h
  exact ⟨es, clock, hh.trans hb, rest⟩

theorem lookF {M n : Nat} {D : DataW Unit} {w : World} (hown : w.ownsMap Tryz.prog 9 fileE M n D) (s : ByteArray) (hs : s.size ≤ maxLen) :
    ∃ f, fD f = D.atKey (.string s.data.toList) (fD ⟨⟨#[]⟩, ⟨#[]⟩, false⟩) ∧ ∀ W : World, W.heap[M]? = w.heap[M]? → (Instr.lookup 68 (.map (some M)) (.string s) true).run Tryz.prog W = .ok (.tuple #[encF f, .bool (Maps.has D (.string s.data.toList))]) W := by
  obtain ⟨v, ps, _, hv⟩ := hown.look_ok lawS Tryz.underlying68 (zeroF w) (fileE_mk ⟨⟨#[]⟩, ⟨#[]⟩, false⟩) (keyOf_string_mk Tryz.underlying9 hs)
  obtain ⟨f, rfl, hf⟩ := fileE_inv hv
  refine ⟨f, hf.symm, fun W hW => ?_⟩
  obtain ⟨v2, ps2, hr2, hv2⟩ := (ownsMap_heap hown hW).look_ok lawS Tryz.underlying68 (zeroF W) (fileE_mk ⟨⟨#[]⟩, ⟨#[]⟩, false⟩) (keyOf_string_mk Tryz.underlying9 hs)
  obtain ⟨f2, rfl, hf2⟩ := fileE_inv hv2
  rw [fD_inj (hf.symm.trans hf2)]
  exact hr2

/-- Does a path go through something that is there? -/
def thrB (p : ByteArray) (D : DataW Unit) : Bool := (List.range p.size).any fun i => decide (p.data.toList.getD i 0 = 47) && Maps.has D (.string (p.extract 0 i).data.toList)

theorem ne47 (x : UInt8) : ((x.toNat : Int) != 47) = !decide (x = 47) := by
  rw [← is47]
  rfl

set_option maxHeartbeats 4000000 in
set_option maxRecDepth 100000 in
theorem thr1_any (f : Fl) (bx M n : Nat) (D : DataW Unit) (w : World) (hbx : w.cell? ⟨bx, 0, none⟩ = some (.map (some M))) (hown : w.ownsMap Tryz.prog 9 fileE M n D) (hs : f.pa.size ≤ 1000000) :
    Calls Tryz.prog 77 #[encF f, .pointer (some ⟨bx, 0, none⟩)] w fun e w' => e = .returned (.bool (thrB f.pa D)) ∧ Below w.heap.size w w' := by
  obtain ⟨p, t, r⟩ := f
  have hbl : bx < w.heap.size := by simpa using World.block_lt_of_cell? w _ hbx
  have hMl := hown.lt
  have HX : Hid (w.cell? ⟨bx, 0, none⟩ = some (.map (some M))) := hbx
  have HO : Hid (w.ownsMap Tryz.prog 9 fileE M n D) := hown
  have hs1 : (p.size : Int) ≤ 1000000 := by simp only at hs; omega
  unfold encF
  simp only at hs ⊢
  clear hbx hown
  go_enter Tryz.func77, Tryz.ntmps77
  go_wp2
  go_loopw [10] (fun i wr => ∃ k : Nat, k ≤ p.size ∧ i = .int .i64 k ∧ (∀ j, j < k → (decide (p.data.toList.getD j 0 = 47) && Maps.has D (.string (p.extract 0 j).data.toList)) = false) ∧ Below (w.heap.size + 1) (w.alloc (.cells #[.string p, .string t, .bool r] 44)) wr) (fun i _ => p.size - (intOf i).toNat)
  case atStart => exact ⟨0, by omega, rfl, by omega, Below.refl _ _⟩
  case round =>
    obtain ⟨k, hk, rfl, hlo, hb⟩ := hrel
    have HL : Hid (∀ j, j < k → (decide (p.data.toList.getD j 0 = 47) && Maps.has D (.string (p.extract 0 j).data.toList)) = false) := hlo
    have HB : Hid (Below (w.heap.size + 1) (w.alloc (.cells #[.string p, .string t, .bool r] 44)) wr) := hb
    have hx := heap_alloc_new w (.cells #[.string p, .string t, .bool r] 44)
    have hwz : (w.alloc (.cells #[.string p, .string t, .bool r] 44)).heap.size = w.heap.size + 1 := World.size_alloc _ _
    have HF : Hid (Below w.heap.size w wr) := ((Below.refl _ w).alloc (Nat.le_refl _) _).trans (hb.mono (by omega))
    have hsz : w.heap.size + 1 ≤ wr.heap.size := by rw [← hwz]; exact hb.size
    have c0 : wr.cell? ⟨w.heap.size, 0, none⟩ = some (.string p) := by
      rw [hb.cell (p := ⟨w.heap.size, 0, none⟩) (by show w.heap.size < _; omega)]
      exact Lib.cell_of_heap hx 0
    have cb : wr.cell? ⟨bx, 0, none⟩ = some (.map (some M)) := by
      rw [HF.out.cell (p := ⟨bx, 0, none⟩) hbl]
      exact HX.out
    have hownr : wr.ownsMap Tryz.prog 9 fileE M n D := ownsMap_heap HO.out (HF.out.block M hMl)
    clear hlo hb hx hwz
    by_cases hlt : k < p.size
    · have hki : (k : Int) < p.size := by omega
      have hq : ((p[k].toNat : Int) != 47) = !decide (p.data.toList.getD k 0 = 47) := by rw [ne47, at_getD]
      by_cases h47 : p.data.toList.getD k 0 = 47
      · have H47 : Hid (p.data.toList.getD k 0 = 47) := h47
        rw [decide_eq_true h47] at hq
        have hq' : ((p[k].toNat : Int) != 47) = false := hq
        clear hq h47
        have hex : (p.extract 0 k).size ≤ maxLen := by rw [ByteArray.size_extract]; unfold maxLen; omega
        obtain ⟨f2, _, hlk⟩ := lookF hownr (p.extract 0 k) hex
        obtain ⟨fp, ft, fr⟩ := f2
        have l0 : (Instr.lookup 68 (.map (some M)) (.string (p.extract 0 k)) true).run Tryz.prog wr.drew = .ok (.tuple #[.agg #[.string fp, .string ft, .bool fr], .bool (Maps.has D (.string (p.extract 0 k).data.toList))]) wr.drew := hlk wr.drew rfl
        have l1 : ∀ o, (Instr.lookup 68 (.map (some M)) (.string (p.extract 0 k)) true).run Tryz.prog (wr.alloc o).drew = .ok (.tuple #[.agg #[.string fp, .string ft, .bool fr], .bool (Maps.has D (.string (p.extract 0 k).data.toList))]) (wr.alloc o).drew := fun o => hlk _ (Below.heap_alloc _ _ M hownr.lt)
        have hle : k ≤ p.size := by omega
        have HH : Hid ((decide (p.data.toList.getD k 0 = 47) && Maps.has D (.string (p.extract 0 k).data.toList)) = Maps.has D (.string (p.extract 0 k).data.toList)) := by
          show _ = _
          rw [decide_eq_true H47.out, Bool.true_and]
        have cA : ∀ o, (wr.alloc o).cell? ⟨w.heap.size, 0, none⟩ = some (.string p) := fun o => (((Below.refl _ wr).alloc (Nat.le_refl _) o).cell (p := ⟨w.heap.size, 0, none⟩) (by show w.heap.size < wr.heap.size; omega)).trans c0
        have cB : ∀ o, (wr.alloc o).cell? ⟨bx, 0, none⟩ = some (.map (some M)) := fun o => (((Below.refl _ wr).alloc (Nat.le_refl _) o).cell (p := ⟨bx, 0, none⟩) (by show bx < wr.heap.size; omega)).trans cb
        have HE : Hid (∀ o, Below (w.heap.size + 1) (w.alloc (.cells #[.string p, .string t, .bool r] 44)) (wr.alloc o).drew ∧ Below w.heap.size w (wr.alloc o).drew) := fun o => ⟨(HB.out.alloc (by omega) o).drew, (HF.out.alloc (by omega) o).drew⟩
        clear hlk hownr
        have HQ : Hid (∀ hb, Maps.has D (.string (p.extract 0 k).data.toList) = hb → (decide (p.data.toList.getD k 0 = 47) && Maps.has D (.string (p.extract 0 k).data.toList)) = hb) := fun hb h => HH.out.trans h
        obtain ⟨hb, hhb⟩ : ∃ hb, Maps.has D (.string (p.extract 0 k).data.toList) = hb := ⟨_, rfl⟩
        have HR : Hid ((decide (p.data.toList.getD k 0 = 47) && Maps.has D (.string (p.extract 0 k).data.toList)) = hb) := HQ.out hb hhb
        rw [hhb] at l0
        simp only [hhb] at l1
        clear hhb HH HQ
        cases hb with
        | true =>
          go_wp2
          go_region
          go_wp2
          go_ret
          refine ⟨?_, (HE.out _).2⟩
          have : thrB p D = true := List.any_eq_true.2 ⟨k, List.mem_range.2 hlt, HR.out⟩
          rw [this]
          rfl
        | false =>
          go_wp2
          go_region
          go_wp2
          refine ⟨⟨k + 1, by omega, by go_num, fun j hj => ?_, (HE.out _).1⟩, by simp [intOf]; omega⟩
          by_cases h : j < k
          · exact HL.out j h
          · obtain rfl : j = k := by omega
            exact HR.out
      · have H47 : Hid (¬ p.data.toList.getD k 0 = 47) := h47
        rw [decide_eq_false h47] at hq
        have hq' : ((p[k].toNat : Int) != 47) = true := hq
        clear hq h47 hownr
        go_wp2
        refine ⟨⟨k + 1, by omega, by go_num, fun j hj => ?_, HB.out⟩, by simp [intOf]; omega⟩
        by_cases h : j < k
        · exact HL.out j h
        · obtain rfl : j = k := by omega
          rw [decide_eq_false H47.out, Bool.false_and]
    · have hki : ¬ (k : Int) < p.size := by omega
      have e : thrB p D = false := by
        unfold thrB
        rw [List.any_eq_false]
        intro j hj
        rw [HL.out j (by have := List.mem_range.1 hj; omega)]
        decide
      have HE : Hid (thrB p D = false) := e
      clear e hownr
      go_wp2
      go_ret
      exact ⟨by rw [HE.out]; rfl, HF.out⟩

theorem thrB_byD (p : ByteArray) (M : List Fl) : thrB p (byD M) = M.any fun g => inB p g.pa := by
  rw [Bool.eq_iff_iff]
  unfold thrB
  rw [List.any_eq_true, List.any_eq_true]
  constructor
  · rintro ⟨i, hi, h⟩
    rw [Bool.and_eq_true, has_byD, List.any_eq_true] at h
    obtain ⟨h1, g, hg, h2⟩ := h
    exact ⟨g, hg, (inB_iff _ _).2 ⟨i, List.mem_range.1 hi, of_decide_eq_true h1, of_decide_eq_true h2⟩⟩
  · rintro ⟨g, hg, h⟩
    obtain ⟨i, h1, h2, h3⟩ := (inB_iff _ _).1 h
    refine ⟨i, List.mem_range.2 h1, ?_⟩
    rw [Bool.and_eq_true, has_byD, List.any_eq_true]
    exact ⟨decide_eq_true h2, g, hg, decide_eq_true h3⟩

theorem anyD (L M : List Fl) : (L.any fun f => thrB f.pa (byD M)) = thruF L M := by
  unfold thruF
  congr 1
  funext f
  exact thrB_byD _ _
end Go.Proofs.YtefdfcjohkndgaaGreatDoor

/- Check: does some path go through a file? -/
namespace Go.Proofs.YtefdfcjohkndgaaGreatDoor
open Go.RowKit Go.Shelf Go.Maps Go.WideMaps

/-- How the search ends. -/
def IdxP (b : Bool) (w : World) (e : Ending) (w' : World) : Prop := ∃ r : Int, e = .returned (.int .i64 r) ∧ decide (0 ≤ r) = b ∧ Below w.heap.size w w'

set_option maxHeartbeats 4000000 in
set_option maxRecDepth 100000 in
theorem idxT_any (ao : Option Addr) (cap : Nat) (L : List Fl) (bx M n : Nat) (D : DataW Unit) (w : World) (hn : L.length ≤ 1000000) (hl : IsFl w ao L) (hs : ∀ f ∈ L, f.pa.size ≤ 1000000) (hbx : w.cell? ⟨bx, 0, none⟩ = some (.map (some M))) (hown : w.ownsMap Tryz.prog 9 fileE M n D) :
    Calls Tryz.prog 118 #[.slice ao L.length cap, .func (.func 77) #[] #[.pointer (some ⟨bx, 0, none⟩)]] w (IdxP (L.any fun f => thrB f.pa D) w) := by
  have hbl : bx < w.heap.size := by simpa using World.block_lt_of_cell? w _ hbx
  have hMl := hown.lt
  have HL : Hid (IsFl w ao L) := hl
  have HS : Hid (∀ f ∈ L, f.pa.size ≤ 1000000) := hs
  have HX : Hid (w.cell? ⟨bx, 0, none⟩ = some (.map (some M))) := hbx
  have HO : Hid (w.ownsMap Tryz.prog 9 fileE M n D) := hown
  have hn1 : (L.length : Int) ≤ 1000000 := by omega
  clear hl hs hbx hown
  go_enter Tryz.func118, Tryz.ntmps118
  go_wp2
  go_loopw [8] (fun i wr => ∃ k : Nat, k ≤ L.length ∧ i = .int .i64 k ∧ (∀ j, (hj : j < L.length) → j < k → thrB L[j].pa D = false) ∧ Below w.heap.size w wr) (fun i _ => L.length - (intOf i).toNat)
  case atStart => exact ⟨0, by omega, rfl, by omega, Below.refl _ _⟩
  case round =>
    obtain ⟨k, hk, rfl, hlo, hb⟩ := hrel
    have HN : Hid (∀ j, (hj : j < L.length) → j < k → thrB L[j].pa D = false) := hlo
    have HB : Hid (Below w.heap.size w wr) := hb
    have hsz := hb.size
    clear hlo
    by_cases hlt : k < L.length
    · have HLB := HL.out.below hb (Nat.le_refl _)
      rcases HLB with h | ⟨g, o, rfl, hgr, hc⟩
      · exfalso; rw [h] at hlt; exact absurd hlt (by simp)
      obtain ⟨c0, c1, c2⟩ := hc k hlt
      have hpa := HS.out _ (List.getElem_mem hlt)
      have HC : Hid (Calls Tryz.prog 77 #[encF L[k], .pointer (some ⟨bx, 0, none⟩)] wr fun e w' => e = .returned (.bool (thrB L[k].pa D)) ∧ Below wr.heap.size wr w') :=
        thr1_any L[k] bx M n D wr ((hb.cell (p := ⟨bx, 0, none⟩) hbl).trans HX.out) (ownsMap_heap HO.out (hb.block M hMl)) hpa
      have HP : Hid (∀ b, thrB L[k].pa D = b → b = true → (L.any fun f => thrB f.pa D) = true) := fun b h1 h2 => List.any_eq_true.2 ⟨L[k], List.getElem_mem hlt, h1.trans h2⟩
      clear hc hb hpa
      unfold encF at HC
      generalize hx : L[k] = x at c0 c1 c2 HC HP
      have HK : Hid (L[k] = x) := hx
      clear hx
      obtain ⟨p, t, r⟩ := x
      simp only at c0 c1 c2 HC HP
      obtain ⟨b, hb2⟩ : ∃ b, thrB p D = b := ⟨_, rfl⟩
      have HE : Hid (thrB p D = b) := hb2
      rw [hb2] at HC
      clear hb2
      cases b with
      | true =>
        go_wp2_with (first | (go_at_call 77; refine HC.out.mono ?_; rintro e w1 ⟨rfl, hb1⟩) | go_in)
        go_ret
        refine ⟨k, rfl, ?_, HB.out.trans (hb1.mono hsz)⟩
        rw [HP.out true HE.out rfl]
        simp
      | false =>
        go_wp2_with (first | (go_at_call 77; refine HC.out.mono ?_; rintro e w1 ⟨rfl, hb1⟩) | go_in)
        refine ⟨⟨k + 1, by omega, by go_num, fun j hj hjk => ?_, HB.out.trans (hb1.mono hsz)⟩, by simp [intOf]; omega⟩
        by_cases h : j < k
        · exact HN.out j hj h
        · obtain rfl : j = k := by omega
          rw [HK.out]
          exact HE.out
    · clear hb
      go_wp2
      go_ret
      refine ⟨-1, rfl, ?_, HB.out⟩
      rw [show (L.any fun f => thrB f.pa D) = false from List.any_eq_false.2 fun f hf => by
        obtain ⟨j, hj, rfl⟩ := List.getElem_of_mem hf
        rw [HN.out j hj (by omega)]
        decide]
      rfl

set_option maxHeartbeats 2000000 in
set_option maxRecDepth 100000 in
theorem cfT_of (ao : Option Addr) (ln cap bx : Nat) (b : Bool) (w : World) (HI : Hid (Calls Tryz.prog 118 #[.slice ao ln cap, .func (.func 77) #[] #[.pointer (some ⟨bx, 0, none⟩)]] w (IdxP b w))) :
    Calls Tryz.prog 76 #[.slice ao ln cap, .func (.func 77) #[] #[.pointer (some ⟨bx, 0, none⟩)]] w fun e w' => e = .returned (.bool b) ∧ Below w.heap.size w w' := by
  go_enter Tryz.func76, Tryz.ntmps76
  go_wp2_with fail
  refine HI.out.mono ?_
  rintro e w1 ⟨r, rfl, hr, hb1⟩
  have HB1 : Hid (Below w.heap.size w w1) := hb1
  have HR : Hid (decide (0 ≤ r) = b) := hr
  clear hb1 hr
  go_wp2
  go_ret
  exact ⟨by rw [← HR.out]; rfl, HB1.out⟩

set_option maxHeartbeats 2000000 in
set_option maxRecDepth 100000 in
theorem someGo_any (ao : Option Addr) (cap : Nat) (L : List Fl) (M n : Nat) (D : DataW Unit) (w : World) (hn : L.length ≤ 1000000) (hl : IsFl w ao L) (hs : ∀ f ∈ L, f.pa.size ≤ 1000000) (hown : w.ownsMap Tryz.prog 9 fileE M n D) :
    Calls Tryz.prog 44 #[.slice ao L.length cap, .map (some M)] w fun e w' => e = .returned (.bool (L.any fun f => thrB f.pa D)) ∧ Below w.heap.size w w' := by
  have hA : Below w.heap.size w (w.alloc (.cells #[.map (some M)] 68)) := (Below.refl _ w).alloc (Nat.le_refl _) _
  have HC : Hid (Calls Tryz.prog 76 #[.slice ao L.length cap, .func (.func 77) #[] #[.pointer (some ⟨w.heap.size, 0, none⟩)]] (w.alloc (.cells #[.map (some M)] 68)) fun e w' => e = .returned (.bool (L.any fun f => thrB f.pa D)) ∧ Below w.heap.size w w') :=
    (cfT_of ao L.length cap w.heap.size _ _ (idxT_any ao cap L w.heap.size M n D (w.alloc (.cells #[.map (some M)] 68)) hn (hl.below hA (Nat.le_refl _)) hs (Lib.cell_of_heap (heap_alloc_new w _) 0) (hown.alloc _))).mono fun e w' h => ⟨h.1, hA.trans (h.2.mono hA.size)⟩
  clear hA hl hs hown
  go_enter Tryz.func44, Tryz.ntmps44
  go_wp2_with (first | (go_at_call 76; refine HC.out.mono ?_; rintro e w1 ⟨rfl, hb1⟩) | go_in)
  go_ret
  exact ⟨rfl, hb1⟩
end Go.Proofs.YtefdfcjohkndgaaGreatDoor

/- Check, whole. -/
namespace Go.Proofs.YtefdfcjohkndgaaGreatDoor
open Go.RowKit Go.Shelf Go.Maps Go.WideMaps

theorem pathOk_size {p : ByteArray} (h : pathOk p = true) : p.size ≤ 100 := by
  unfold pathOk at h
  rw [Bool.and_eq_true] at h
  exact of_decide_eq_true h.1

set_option maxHeartbeats 2000000 in
set_option maxRecDepth 100000 in
theorem Check_many (ao : Option Addr) (n cap : Nat) (w : World) (hn : 60 < n) :
    Calls Tryz.prog 20 #[.slice ao n cap] w fun e w' => e = .returned (.int .i64 2) ∧ Below w.heap.size w w' := by
  have hn1 : 60 < (n : Int) := by omega
  clear hn
  go_enter Tryz.func20, Tryz.ntmps20
  go_wp2
  go_ret
  exact ⟨rfl, Below.refl _ _⟩

set_option maxHeartbeats 4000000 in
set_option maxRecDepth 100000 in
theorem Check_few (ao : Option Addr) (cap : Nat) (L : List Fl) (w : World) (hn : L.length ≤ 60) (hl : IsFl w ao L) (hm : MaxIs w) :
    Calls Tryz.prog 20 #[.slice ao L.length cap] w fun e w' => e = .returned (.int .i64 (chF L)) ∧ Below w.heap.size w w' := by
  have HL : Hid (IsFl w ao L) := hl
  have HM : Hid (MaxIs w) := hm
  have HN : Hid (L.length ≤ 60) := hn
  have hn1 : (L.length : Int) ≤ 60 := by omega
  clear hl hm hn
  go_enter Tryz.func20, Tryz.ntmps20
  go_wp2
  go_loopw [12] (fun i wr => ∃ k : Nat, k ≤ L.length ∧ i = .int .i64 k ∧ (∀ j, (hj : j < L.length) → j < k → flE L[j] = 0) ∧ Below w.heap.size w wr) (fun i _ => L.length - (intOf i).toNat)
  case atStart => exact ⟨0, by omega, rfl, by omega, Below.refl _ _⟩
  case round =>
    obtain ⟨k, hk, rfl, hlo, hb⟩ := hrel
    have HO : Hid (∀ j, (hj : j < L.length) → j < k → flE L[j] = 0) := hlo
    have HB : Hid (Below w.heap.size w wr) := hb
    have hsz := hb.size
    have HLB : Hid (IsFl wr ao L) := HL.out.below hb (Nat.le_refl _)
    clear hlo
    by_cases hlt : k < L.length
    · rcases HLB.out with h | ⟨g, o, rfl, hgr, hc⟩
      · exfalso; rw [h] at hlt; exact absurd hlt (by simp)
      obtain ⟨c0, c1, c2⟩ := hc k hlt
      have HF : Hid (Calls Tryz.prog 42 #[encF L[k]] (wr.alloc (.cells #[.string L[k].pa, .string L[k].tx, .bool L[k].rn] 44)) fun e w' => e = .returned (.int .i64 (flE L[k])) ∧ Below w.heap.size w w') := by
        have hA : Below w.heap.size w (wr.alloc (.cells #[.string L[k].pa, .string L[k].tx, .bool L[k].rn] 44)) := hb.alloc hsz _
        refine (fileError_any L[k] _ ?_).mono fun e w' h => ⟨h.1, hA.trans (h.2.mono hA.size)⟩
        exact HM.out.up (hA.trans ((flW_bel _ _).mono hA.size))
      have HQ : Hid (flE L[k] ≠ 0 → chF L = flE L[k]) := fun hne => by
        have h1 := flEs_no L k hlt (fun j hj hjk => HO.out j hj hjk) hne
        unfold chF
        have := HN.out
        rw [if_neg (by omega), h1, if_neg hne]
      clear hc hb HLB
      unfold encF at HF
      generalize hx : L[k] = x at c0 c1 c2 HF HQ
      have HK : Hid (L[k] = x) := hx
      clear hx
      obtain ⟨p, t, r⟩ := x
      simp only at c0 c1 c2 HF
      obtain ⟨ev, hev⟩ : ∃ ev, flE ⟨p, t, r⟩ = ev := ⟨_, rfl⟩
      have HE : Hid (flE ⟨p, t, r⟩ = ev) := hev
      rw [hev] at HF HQ
      clear hev
      by_cases h0 : ev = 0
      · subst h0
        go_wp2_with (first | (go_at_call 42; refine HF.out.mono ?_; rintro e w1 ⟨rfl, hb1⟩) | go_in)
        refine ⟨⟨k + 1, by omega, by go_num, fun j hj hjk => ?_, hb1⟩, by simp [intOf]; omega⟩
        by_cases h : j < k
        · exact HO.out j hj h
        · obtain rfl : j = k := by omega
          rw [HK.out]
          exact HE.out
      · have H0 : Hid (ev ≠ 0) := h0
        have h0' : (ev != 0) = true := by simpa using h0
        clear h0
        go_wp2_with (first | (go_at_call 42; refine HF.out.mono ?_; rintro e w1 ⟨rfl, hb1⟩) | go_in)
        go_ret
        exact ⟨by rw [HQ.out H0.out]; rfl, hb1⟩
    · have h0 : flEs L = 0 := flEs_yes L fun j hj => HO.out j hj (by omega)
      have hall : ∀ f ∈ L, f.pa.size ≤ 100 := fun f hf => pathOk_size (flE_pa (flEs_all h0 f hf)).1
      have hN := HN.out
      have hki : ¬ (k : Int) < (L.length : Int) := by omega
      have HV : Hid (chF L = if (upF L && !thruF L L) = true then 0 else 6) := by
        show _ = _
        unfold chF
        rw [if_neg (by omega), if_pos h0]
      have HBy : Hid (Calls Tryz.prog 41 #[.slice ao L.length cap] wr fun e w' => e = .returned (.map (some wr.heap.size)) ∧ w'.ownsMap Tryz.prog 9 fileE wr.heap.size L.length (byD L) ∧ Below wr.heap.size wr w') :=
        byPath_any ao cap L wr (by omega) HLB.out (fun f hf => by have := hall f hf; unfold maxLen; omega)
      have HSo : Hid (∀ W, Below wr.heap.size wr W → Calls Tryz.prog 43 #[.slice ao L.length cap, .func (.func 31) #[] #[]] W (SortedP L W)) := fun W hW =>
        isSorted_any ao cap L W (by omega) (HLB.out.below hW (Nat.le_refl _))
      have HGo : Hid (∀ W, Below wr.heap.size wr W → W.ownsMap Tryz.prog 9 fileE wr.heap.size L.length (byD L) → Calls Tryz.prog 44 #[.slice ao L.length cap, .map (some wr.heap.size)] W fun e w' => e = .returned (.bool (thruF L L)) ∧ Below W.heap.size W w') := fun W hW ho => by
        have := someGo_any ao cap L wr.heap.size L.length (byD L) W (by omega) (HLB.out.below hW (Nat.le_refl _)) (fun f hf => by have := hall f hf; omega) ho
        rw [anyD] at this
        exact this
      have HU1 : Hid (adjF L → Maps.size (byD L) = L.length → upF L = true) := fun h1 h2 => up_of h1 ((size_byD L).2.1 h2)
      have HU2 : Hid (upF L = true → adjF L ∧ Maps.size (byD L) = L.length) := fun h => ⟨up_adj h, (size_byD L).2.2 (up_nodup h)⟩
      have hle := (size_byD L).1
      clear hb h0 hall HM HO HL HLB
      go_wp2_with fail
      refine HBy.out.mono ?_
      rintro e w1 ⟨rfl, hown1, hb1⟩
      have HO1 : Hid (w1.ownsMap Tryz.prog 9 fileE wr.heap.size L.length (byD L)) := hown1
      have HB1 : Hid (Below wr.heap.size wr w1) := hb1
      clear hown1 hb1
      go_wp2_with fail
      refine (HSo.out w1 HB1.out).mono ?_
      rintro e w2 ⟨b, rfl, hbi, hb2⟩
      have HB2 : Hid (Below wr.heap.size wr w2) := HB1.out.trans (hb2.mono HB1.out.size)
      have HO2 : Hid (w2.ownsMap Tryz.prog 9 fileE wr.heap.size L.length (byD L)) := ownsMap_heap HO1.out (hb2.block _ HO1.out.lt)
      have HI : Hid (b = true ↔ adjF L) := hbi
      have hln : ∀ ty, (Builtin.len_ #[68] ty #[.map (some wr.heap.size)]).run Tryz.prog w2 = .ok (.int .i64 (Maps.size (byD L) : Int)) w2 := fun ty => HO2.out.len Tryz.underlying68 ty
      have HGo2 : Hid (Calls Tryz.prog 44 #[.slice ao L.length cap, .map (some wr.heap.size)] w2 fun e w' => e = .returned (.bool (thruF L L)) ∧ Below w2.heap.size w2 w') := HGo.out w2 HB2.out HO2.out
      have HBw : Hid (Below w.heap.size w w2) := HB.out.trans (HB2.out.mono hsz)
      have hsz2 : w.heap.size ≤ w2.heap.size := HBw.out.size
      clear hbi hb2 HGo HSo HBy HO1 HB1 HB2 HO2 HB
      cases b with
      | false =>
        have HZ : Hid (chF L = 6) := by
          show _ = _
          rw [HV.out, if_neg]
          intro h
          rw [Bool.and_eq_true] at h
          exact absurd (HI.out.2 (HU2.out h.1).1) (by decide)
        go_wp2
        go_ret
        exact ⟨by rw [HZ.out]; rfl, HBw.out⟩
      | true =>
        by_cases hlt2 : Maps.size (byD L) < L.length
        · have HZ : Hid (chF L = 6) := by
            show _ = _
            rw [HV.out, if_neg]
            intro h
            rw [Bool.and_eq_true] at h
            have := (HU2.out h.1).2
            omega
          have hlt3 : (Maps.size (byD L) : Int) < (L.length : Int) := by omega
          clear hlt2
          go_wp2
          go_ret
          exact ⟨by rw [HZ.out]; rfl, HBw.out⟩
        · have hlt3 : ¬ (Maps.size (byD L) : Int) < (L.length : Int) := by omega
          have hup : upF L = true := HU1.out (HI.out.1 rfl) (by omega)
          obtain ⟨b, hb⟩ : ∃ b, thruF L L = b := ⟨_, rfl⟩
          have HV2 : Hid (chF L = if (!b) = true then 0 else 6) := by
            show _ = _
            rw [HV.out, hup, hb, Bool.true_and]
          rw [hb] at HGo2
          clear hlt2 hup hb HV HI
          cases b with
          | true =>
            go_wp2_with (first | (go_at_call 44; refine HGo2.out.mono ?_; rintro e w3 ⟨rfl, hb3⟩) | go_in)
            go_ret
            exact ⟨by rw [HV2.out]; rfl, HBw.out.trans (hb3.mono hsz2)⟩
          | false =>
            go_wp2_with (first | (go_at_call 44; refine HGo2.out.mono ?_; rintro e w3 ⟨rfl, hb3⟩) | go_in)
            go_ret
            exact ⟨by rw [HV2.out]; rfl, HBw.out.trans (hb3.mono hsz2)⟩

/-- Check, at whatever list. -/
theorem Check_any (ao : Option Addr) (cap : Nat) (L : List Fl) (w : World) (hl : IsFl w ao L) (hm : MaxIs w) :
    Calls Tryz.prog 20 #[.slice ao L.length cap] w fun e w' => e = .returned (.int .i64 (chF L)) ∧ Below w.heap.size w w' := by
  by_cases h : 60 < L.length
  · have e : chF L = 2 := by unfold chF; rw [if_pos h]
    rw [e]
    exact Check_many ao _ cap w h
  · exact Check_few ao cap L w (by omega) hl hm
end Go.Proofs.YtefdfcjohkndgaaGreatDoor

/- The document's CheckTree. -/
namespace Go.Proofs.YtefdfcjohkndgaaGreatDoor
open Go.RowKit Go.Shelf Go.Maps Go.WideMaps

/-- Two files may be in one tree, the one ahead of the other. -/
def fit2 (f g : Fl) : Prop := pth f < pth g ∧ inB g.pa f.pa = false ∧ inB f.pa g.pa = false
theorem inB_self (p : ByteArray) : inB p p = false := by unfold inB; simp
theorem fit_iff (L : List Fl) : (L.Pairwise fit2) ↔ (upF L && !thruF L L) = true := by
  rw [Bool.and_eq_true, Bool.not_eq_true']
  constructor
  · intro h
    refine ⟨decide_eq_true (h.imp fun hh => hh.1), ?_⟩
    unfold thruF
    rw [List.any_eq_false]
    intro f hf
    rw [Bool.not_eq_true, List.any_eq_false]
    intro g hg
    obtain ⟨i, hi, rfl⟩ := List.getElem_of_mem hf
    obtain ⟨j, hj, rfl⟩ := List.getElem_of_mem hg
    have hp := List.pairwise_iff_getElem.1 h
    rcases Nat.lt_trichotomy i j with hij | hij | hij
    · rw [(hp i j hi hj hij).2.2]; decide
    · subst hij; rw [inB_self]; decide
    · rw [(hp j i hj hi hij).2.1]; decide
  · rintro ⟨h1, h2⟩
    have h3 := up_pw h1
    unfold thruF at h2
    rw [List.any_eq_false] at h2
    rw [List.pairwise_iff_getElem] at h3 ⊢
    intro i j hi hj hij
    refine ⟨h3 i j hi hj hij, ?_, ?_⟩
    · have := h2 L[j] (List.getElem_mem hj)
      rw [Bool.not_eq_true, List.any_eq_false] at this
      simpa using this L[i] (List.getElem_mem hi)
    · have := h2 L[i] (List.getElem_mem hi)
      rw [Bool.not_eq_true, List.any_eq_false] at this
      simpa using this L[j] (List.getElem_mem hj)

set_option maxHeartbeats 2000000 in
set_option maxRecDepth 100000 in
theorem RCheck_many (ao : Option Addr) (n cap : Nat) (w : World) (hn : 60 < n) :
    Calls Tryz.prog 14 #[.slice ao n cap] w fun e w' => e = .returned (.int .i64 2) ∧ Below w.heap.size w w' := by
  have hn1 : 60 < (n : Int) := by omega
  clear hn
  go_enter Tryz.func14, Tryz.ntmps14
  go_wp2
  go_ret
  exact ⟨rfl, Below.refl _ _⟩

set_option maxHeartbeats 8000000 in
set_option maxRecDepth 100000 in
theorem RCheck_few (ao : Option Addr) (cap : Nat) (L : List Fl) (w : World) (hn : L.length ≤ 60) (hl : IsFl w ao L) :
    Calls Tryz.prog 14 #[.slice ao L.length cap] w fun e w' => e = .returned (.int .i64 (chF L)) ∧ Below w.heap.size w w' := by
  have HL : Hid (IsFl w ao L) := hl
  have HN : Hid (L.length ≤ 60) := hn
  have hn1 : (L.length : Int) ≤ 60 := by omega
  clear hl hn
  go_enter Tryz.func14, Tryz.ntmps14
  go_wp2
  go_loopw [3] (fun i wr => ∃ k : Nat, k ≤ L.length ∧ i = .int .i64 k ∧ (∀ j, (hj : j < L.length) → j < k → flE L[j] = 0) ∧ Below w.heap.size w wr) (fun i _ => L.length - (intOf i).toNat)
  case atStart => exact ⟨0, by omega, rfl, by omega, Below.refl _ _⟩
  case round =>
    obtain ⟨k, hk, rfl, hlo, hb⟩ := hrel
    have HO : Hid (∀ j, (hj : j < L.length) → j < k → flE L[j] = 0) := hlo
    have HB : Hid (Below w.heap.size w wr) := hb
    have hsz := hb.size
    have HLB : Hid (IsFl wr ao L) := HL.out.below hb (Nat.le_refl _)
    clear hlo
    by_cases hlt : k < L.length
    · rcases HLB.out with h | ⟨g, o, rfl, hgr, hc⟩
      · exfalso; rw [h] at hlt; exact absurd hlt (by simp)
      obtain ⟨c0, c1, c2⟩ := hc k hlt
      have HQ : Hid (flE L[k] ≠ 0 → chF L = flE L[k]) := fun hne => by
        have h1 := flEs_no L k hlt (fun j hj hjk => HO.out j hj hjk) hne
        unfold chF
        have := HN.out
        rw [if_neg (by omega), h1, if_neg hne]
      clear hc hb HLB
      generalize hx : L[k] = x at c0 c1 c2 HQ
      have HK : Hid (L[k] = x) := hx
      clear hx
      obtain ⟨p, t, r⟩ := x
      simp only at c0 c1 c2
      have HP : Hid (∀ W, Calls Tryz.prog 34 #[.string p] W fun e w' => e = .returned (.bool (pathOk p)) ∧ Below W.heap.size W w') := fun W => RIsPath_any p W
      by_cases hp : pathOk p = true
      · rw [hp] at HP
        by_cases h2 : 100000 < t.size
        · have HE : Hid (flE ⟨p, t, r⟩ = 2) := by
            show _ = _
            unfold flE
            rw [if_neg (by rw [hp]; decide), if_pos h2]
          have h3 : (100000 : Int) < (t.size : Int) := by omega
          clear hp h2
          go_wp2_with fail
          refine (HP.out _).mono ?_
          rintro e w1 ⟨rfl, hb1⟩
          have d1 := (hb1.cell (p := ⟨g, o + k * 3 + 1, none⟩) (by show g < _; omega)).trans c1
          have HB1 : Hid (Below w.heap.size w w1) := HB.out.trans (hb1.mono hsz)
          clear hb1
          go_wp2
          go_ret
          exact ⟨by rw [HQ.out (by rw [HE.out]; decide), HE.out]; rfl, HB1.out⟩
        · have HE : Hid (flE ⟨p, t, r⟩ = 0) := by
            show _ = _
            unfold flE
            rw [if_neg (by rw [hp]; decide), if_neg h2]
          have h3 : ¬ (100000 : Int) < (t.size : Int) := by omega
          clear hp h2
          go_wp2_with fail
          refine (HP.out _).mono ?_
          rintro e w1 ⟨rfl, hb1⟩
          have d1 := (hb1.cell (p := ⟨g, o + k * 3 + 1, none⟩) (by show g < _; omega)).trans c1
          have HB1 : Hid (Below w.heap.size w w1) := HB.out.trans (hb1.mono hsz)
          clear hb1
          go_wp2
          refine ⟨⟨k + 1, by omega, by go_num, fun j hj hjk => ?_, HB1.out⟩, by simp [intOf]; omega⟩
          by_cases h : j < k
          · exact HO.out j hj h
          · obtain rfl : j = k := by omega
            rw [HK.out]
            exact HE.out
      · have hp' : pathOk p = false := by simpa using hp
        rw [hp'] at HP
        have HE : Hid (flE ⟨p, t, r⟩ = 1) := by
          show _ = _
          unfold flE
          rw [if_pos hp']
        clear hp hp'
        go_wp2_with fail
        refine (HP.out _).mono ?_
        rintro e w1 ⟨rfl, hb1⟩
        have HB1 : Hid (Below w.heap.size w w1) := HB.out.trans (hb1.mono hsz)
        clear hb1
        go_wp2
        go_ret
        exact ⟨by rw [HQ.out (by rw [HE.out]; decide), HE.out]; rfl, HB1.out⟩
    · have h0 : flEs L = 0 := flEs_yes L fun j hj => HO.out j hj (by omega)
      have hN := HN.out
      have hki : ¬ (k : Int) < (L.length : Int) := by omega
      have HV : Hid (chF L = if (upF L && !thruF L L) = true then 0 else 6) := by
        show _ = _
        unfold chF
        rw [if_neg (by omega), if_pos h0]
      have HI : Hid (∀ (x y : ByteArray) (W : World), Calls Tryz.prog 35 #[.string x, .string y] W fun e w' => e = .returned (.bool (inB y x)) ∧ w' = W) := fun x y W => RIsInside_any y x W
      have HS : Hid (∀ i j, (hi : i < L.length) → (hj : j < L.length) → j < i → ¬ fit2 L[j] L[i] → chF L = 6) := fun i j hi hj hij hno => by
        rw [HV.out, if_neg]
        intro h
        exact hno (List.pairwise_iff_getElem.1 ((fit_iff L).2 h) j i hj hi hij)
      have HT : Hid ((∀ i j, (hi : i < L.length) → (hj : j < L.length) → j < i → fit2 L[j] L[i]) → chF L = 0) := fun h => by
        rw [HV.out, if_pos]
        exact (fit_iff L).1 (List.pairwise_iff_getElem.2 fun i j hi hj hij => h j i hj hi hij)
      clear hb h0 HO HL HV
      obtain ⟨w1, rfl⟩ : ∃ w1, w1 = wr := ⟨wr, rfl⟩
      go_wp2
      go_loopw [4] (fun i ws => ∃ a : Nat, a ≤ L.length ∧ i = .int .i64 a ∧ (∀ i j, (hi : i < L.length) → (hj : j < L.length) → i < a → j < i → fit2 L[j] L[i]) ∧ Below w1.heap.size w1 ws) (fun i _ => L.length - (intOf i).toNat)
      case atStart => exact ⟨0, by omega, rfl, by omega, Below.refl _ _⟩
      case round =>
        obtain ⟨ws, rfl⟩ : ∃ ws, ws = wr := ⟨wr, rfl⟩
        obtain ⟨a, ha, rfl, hgood, hb⟩ := hrel
        have HG : Hid (∀ i j, (hi : i < L.length) → (hj : j < L.length) → i < a → j < i → fit2 L[j] L[i]) := hgood
        have HBs : Hid (Below w1.heap.size w1 ws) := hb
        have hszs := hb.size
        clear hgood hb
        by_cases hla : a < L.length
        · rcases HLB.out with h | ⟨g, o, rfl, hgr, hc⟩
          · exfalso; rw [h] at hla; exact absurd hla (by simp)
          have HC : Hid (FlAt g o L w1) := hc
          have hla2 : (a : Int) < (L.length : Int) := by omega
          clear hc
          go_wp2
          go_loopw [5] (fun i wt => ∃ b : Nat, b ≤ a ∧ i = .int .i64 b ∧ (∀ j, (hj : j < L.length) → j < b → fit2 L[j] L[a]) ∧ Below w1.heap.size w1 wt) (fun i _ => a - (intOf i).toNat)
          case atStart => exact ⟨0, by omega, rfl, by omega, HBs.out⟩
          case round =>
            obtain ⟨wt, rfl⟩ : ∃ wt, wt = wr := ⟨wr, rfl⟩
            obtain ⟨b, hba, rfl, hgb, hbt⟩ := hrel
            have HGB : Hid (∀ j, (hj : j < L.length) → j < b → fit2 L[j] L[a]) := hgb
            have HBt : Hid (Below w1.heap.size w1 wt) := hbt
            have HBw : Hid (∀ q, Below w.heap.size w (wt.drewN q)) := fun q => below_drewN (HB.out.trans (hbt.mono hsz)) q
            clear hgb
            by_cases hlb : b < a
            · have hbL : b < L.length := by omega
              obtain ⟨a0, _, _⟩ := HC.out.below hbt hgr a hla
              obtain ⟨b0, _, _⟩ := HC.out.below hbt hgr b hbL
              have HS2 : Hid (¬ fit2 L[b] L[a] → chF L = 6) := fun h => HS.out a b hla hbL hlb h
              have HF : Hid (pth L[b] = L[b].pa.data.toList ∧ pth L[a] = L[a].pa.data.toList) := ⟨rfl, rfl⟩
              generalize hx : L[b].pa = x at b0
              generalize hy : L[a].pa = y at a0
              have HX : Hid (L[b].pa = x) := hx
              have HY : Hid (L[a].pa = y) := hy
              have hlb2 : (b : Int) < (a : Int) := by omega
              have hbL2 : (b : Int) < (L.length : Int) := by omega
              clear hx hy hbt
              cases hless : Op.bytesLess x.toList y.toList with
              | false =>
                have HZ : Hid (chF L = 6) := HS2.out fun h => by
                  have h1 := h.1
                  rw [HF.out.1, HF.out.2, HX.out, HY.out] at h1
                  rw [Lib.toList_data, Lib.toList_data, tlt, decide_eq_true h1] at hless
                  exact absurd hless (by decide)
                go_wp2
                go_quiet (fail)
                go_wp2
                go_ret
                exact ⟨by rw [HZ.out]; rfl, HBw.out _⟩
              | true =>
                have HLT : Hid (pth L[b] < pth L[a]) := by
                  show _ < _
                  rw [HF.out.1, HF.out.2, HX.out, HY.out]
                  rw [Lib.toList_data, Lib.toList_data, tlt] at hless
                  exact of_decide_eq_true hless
                have HI1 : Hid (∀ W, Calls Tryz.prog 35 #[.string x, .string y] W fun e w' => e = .returned (.bool (inB y x)) ∧ w' = W) := HI.out x y
                have HI2 : Hid (∀ W, Calls Tryz.prog 35 #[.string y, .string x] W fun e w' => e = .returned (.bool (inB x y)) ∧ w' = W) := HI.out y x
                cases h1 : inB y x with
                | true =>
                  rw [h1] at HI1
                  have HZ : Hid (chF L = 6) := HS2.out fun h => by
                    have h2 := h.2.1
                    rw [HX.out, HY.out, h1] at h2
                    exact absurd h2 (by decide)
                  clear h1 HI
                  go_wp2
                  go_quiet ((go_at_call 35; exact Calls.quiet_of_same (HI1.out _)))
                  go_wp2
                  go_ret
                  exact ⟨by rw [HZ.out]; rfl, HBw.out _⟩
                | false =>
                  rw [h1] at HI1
                  cases h2 : inB x y with
                  | true =>
                    rw [h2] at HI2
                    have HZ : Hid (chF L = 6) := HS2.out fun h => by
                      have h3 := h.2.2
                      rw [HX.out, HY.out, h2] at h3
                      exact absurd h3 (by decide)
                    clear h1 h2 HI
                    go_wp2
                    go_quiet (first | (go_at_call 35; with_reducible exact Calls.quiet_of_same (HI1.out _)) | (go_at_call 35; with_reducible exact Calls.quiet_of_same (HI2.out _)))
                    go_wp2
                    go_ret
                    exact ⟨by rw [HZ.out]; rfl, HBw.out _⟩
                  | false =>
                    rw [h2] at HI2
                    have HOK : Hid (fit2 L[b] L[a]) := ⟨HLT.out, by rw [HX.out, HY.out]; exact h1, by rw [HX.out, HY.out]; exact h2⟩
                    clear h1 h2 HI
                    go_wp2
                    go_quiet (first | (go_at_call 35; with_reducible exact Calls.quiet_of_same (HI1.out _)) | (go_at_call 35; with_reducible exact Calls.quiet_of_same (HI2.out _)))
                    go_wp2
                    refine ⟨⟨b + 1, by omega, by go_num, fun j hj hjk => ?_, below_drewN HBt.out _⟩, by simp [intOf]; omega⟩
                    by_cases h : j < b
                    · exact HGB.out j hj h
                    · obtain rfl : j = b := by omega
                      exact HOK.out
            · have hlb2 : ¬ (b : Int) < (a : Int) := by omega
              clear hbt
              go_wp2
              refine ⟨⟨a + 1, by omega, by go_num, fun i j hi hj hia hji => ?_, HBt.out⟩, by simp [intOf]; omega⟩
              by_cases h : i < a
              · exact HG.out i j hi hj h hji
              · obtain rfl : i = a := by omega
                exact HGB.out j hj (by omega)
        · have hla2 : ¬ (a : Int) < (L.length : Int) := by omega
          have HZ : Hid (chF L = 0) := HT.out fun i j hi hj hij => HG.out i j hi hj (by omega) hij
          go_wp2
          go_ret
          exact ⟨by rw [HZ.out]; rfl, HB.out.trans (HBs.out.mono hsz)⟩

theorem RCheck_any (ao : Option Addr) (cap : Nat) (L : List Fl) (w : World) (hl : IsFl w ao L) :
    Calls Tryz.prog 14 #[.slice ao L.length cap] w fun e w' => e = .returned (.int .i64 (chF L)) ∧ Below w.heap.size w w' := by
  by_cases h : 60 < L.length
  · have e : chF L = 2 := by unfold chF; rw [if_pos h]
    rw [e]
    exact RCheck_many ao _ cap w h
  · exact RCheck_few ao cap L w (by omega) hl
end Go.Proofs.YtefdfcjohkndgaaGreatDoor

/- What Is answers (of digests), the program's and the document's own. -/
namespace Go.Proofs.YtefdfcjohkndgaaGreatDoor
open Go.RowKit

theorem d_size {s : ByteArray} {l : List UInt8} (h : s.data.toList = l) : s.size = l.length := by rw [← h]; exact Array.length_toList.symm
theorem d_bytes {s : ByteArray} {l : List UInt8} (h : s.data.toList = l) : s = ⟨l.toArray⟩ := by
  subst h
  cases s
  simp
theorem d_get (s : ByteArray) (k : Nat) (h : k < s.size) : s.toList[k]? = some s[k] := by
  rw [Lib.toList_data]
  have : k < s.data.toList.length := by rw [← d_size (s := s) rfl]; exact h
  rw [List.getElem?_eq_getElem this]
  rfl
theorem d_all_false (s : ByteArray) (k : Nat) (h : k < s.size) (f : UInt8 → Bool) (hf : f s[k] = false) : s.toList.all f = false := by
  rw [List.all_eq_false]
  exact ⟨s[k], List.mem_of_getElem? (d_get s k h), by simp [hf]⟩
theorem d_all_true (s : ByteArray) (f : UInt8 → Bool) (hf : ∀ j (hj : j < s.size), f s[j] = true) : s.toList.all f = true := by
  rw [List.all_eq_true]
  intro c hc
  obtain ⟨j, hj, rfl⟩ := List.getElem_of_mem hc
  have hj' : j < s.size := by rw [Lib.toList_data] at hj; rw [d_size (s := s) rfl]; exact hj
  have := d_get s j hj'
  rw [List.getElem?_eq_getElem hj] at this
  rw [Option.some.inj this]
  exact hf j hj'

def digB (c : Int) : Bool := decide (48 ≤ c ∧ c ≤ 57) || decide (97 ≤ c ∧ c ≤ 102)
def digOk (s : ByteArray) : Bool := decide (s.size = 64) && s.toList.all fun c => digB c.toNat

theorem dig_cls (c : Int) : (digB c = true ∧ 48 ≤ c ∧ c ≤ 57) ∨ (digB c = true ∧ decide (c ≤ 57) = false ∧ 97 ≤ c ∧ c ≤ 102) ∨ (digB c = false ∧ c < 48) ∨ (digB c = false ∧ 48 ≤ c ∧ decide (c ≤ 57) = false ∧ c < 97) ∨ (digB c = false ∧ 97 ≤ c ∧ decide (c ≤ 57) = false ∧ decide (c ≤ 102) = false) := by
  simp [digB]
  omega

set_option maxHeartbeats 1000000 in
theorem isDigit_any (c : Int) (w : World) : Calls Tryz.prog 59 #[.int .u8 c] w fun e w' => e = .returned (.bool (digB c)) ∧ w' = w := by
  rcases dig_cls c with ⟨h, c1, c2⟩ | ⟨h, c1, c2, c3⟩ | ⟨h, c1⟩ | ⟨h, c1, c2, c3⟩ | ⟨h, c1, c2, c3⟩
  all_goals
    have H : Hid _ := h
    clear h
    go_enter Tryz.func59, Tryz.ntmps59
    go_wp2
    go_ret
    exact ⟨by rw [H.out]; rfl, rfl⟩

set_option maxHeartbeats 1000000 in
set_option maxRecDepth 100000 in
theorem Is_any (s : ByteArray) (w : World) : Calls Tryz.prog 27 #[.string s] w fun e w' => e = .returned (.bool (digOk s)) ∧ w' = w := by
  by_cases h : s.size = 64
  · have hz : ((s.size : Int) != 64) = false := by simp; omega
    have hz1 : (s.size : Int) ≤ 64 := by omega
    have HN : Hid (digOk s = s.toList.all fun c => digB c.toNat) := by show _ = _; simp [digOk, h]
    have HZ : Hid _ := h
    clear h
    go_enter Tryz.func27, Tryz.ntmps27
    go_wp2
    go_loop [9] (fun i => ∃ k : Nat, k ≤ s.size ∧ i = .int .i64 k ∧ ∀ j (hj : j < s.size), j < k → digB s[j].toNat = true) (fun i => s.size - (intOf i).toNat)
    case atStart => exact ⟨0, Nat.zero_le _, rfl, by omega⟩
    case round =>
      obtain ⟨k, hk, rfl, hlo⟩ := hrel
      have HL : Hid _ := hlo
      clear hlo
      by_cases hlt : k < s.size
      · by_cases hb : digB s[k].toNat = true
        · go_wp2_with (go_at_call 59; refine (isDigit_any _ _).mono ?_; rintro e w' ⟨rfl, rfl⟩; rw [hb])
          refine ⟨⟨k + 1, by omega, by go_num, fun j hj hjk => ?_⟩, by simp [intOf]; omega⟩
          by_cases h : j < k
          · exact HL.out j hj h
          · obtain rfl : j = k := by omega
            exact hb
        · have hb' : digB s[k].toNat = false := by simpa using hb
          clear hb
          have HF : Hid (digOk s = false) := by show _ = _; rw [HN.out]; exact d_all_false s k hlt _ hb'
          go_wp2_with (go_at_call 59; refine (isDigit_any _ _).mono ?_; rintro e w' ⟨rfl, rfl⟩; rw [hb'])
          go_ret
          exact ⟨by rw [HF.out]; rfl, rfl⟩
      · have HF : Hid (digOk s = true) := by show _ = _; rw [HN.out]; exact d_all_true s _ (fun j hj => HL.out j hj (by omega))
        go_wp2
        go_ret
        exact ⟨by rw [HF.out]; rfl, rfl⟩
  · have hz : ((s.size : Int) != 64) = true := by rw [bne_iff_ne]; omega
    have HF : Hid (digOk s = false) := by show _ = _; simp [digOk, h]
    clear h
    go_enter Tryz.func27, Tryz.ntmps27
    go_wp2
    go_ret
    exact ⟨by rw [HF.out]; rfl, rfl⟩

def hexd (n : Nat) : Nat := if n < 10 then 48 + n else 87 + n
def hexI (c : Int) : Int := if 48 ≤ c ∧ c ≤ 57 then c - 48 else if 97 ≤ c ∧ c ≤ 102 then c - 87 else -1
theorem hex_at (k : Nat) (hk : k < 16) : hexI (hexd k) = k := by
  unfold hexd hexI
  split <;> split <;> (try split) <;> omega
theorem hex_no (c : Nat) (h : ∀ k, k < 16 → hexd k ≠ c) : hexI c = -1 := by
  unfold hexI
  split
  · have := h (c - 48) (by omega)
    unfold hexd at this
    rw [if_pos (by omega)] at this
    omega
  · split
    · have := h (c - 87) (by omega)
      unfold hexd at this
      rw [if_neg (by omega)] at this
      omega
    · rfl
theorem hexI_neg (c : Int) : decide (hexI c < 0) = !digB c := by
  unfold hexI digB
  by_cases h1 : 48 ≤ c ∧ c ≤ 57
  · rw [if_pos h1]; simp [h1]
  · rw [if_neg h1]
    by_cases h2 : 97 ≤ c ∧ c ≤ 102
    · rw [if_pos h2]; simp [h2]; omega
    · rw [if_neg h2]; simp [h1, h2]
theorem hex_digits : ∀ n, n < 16 → (ByteArray.extract ⟨#[48, 49, 50, 51, 52, 53, 54, 55, 56, 57, 97, 98, 99, 100, 101, 102]⟩ n (n + 1)).data.toList = [UInt8.ofNat (hexd n)] := by
  intro n hn
  rw [Lib.extract_data]
  revert n
  decide

set_option maxHeartbeats 1000000 in
theorem hexDigit_any (n : Nat) (w : World) (h : n < 16) : Calls Tryz.prog 71 #[.int .i64 n] w fun e w' => e = .returned (.string ⟨#[UInt8.ofNat (hexd n)]⟩) ∧ w' = w := by
  have HE : Hid _ := d_bytes (hex_digits n h)
  have h1 : (n : Int) < 16 := by omega
  clear h
  go_enter Tryz.func71, Tryz.ntmps71
  go_wp2
  go_ret
  exact ⟨by rw [show (⟨#[UInt8.ofNat (hexd n)]⟩ : ByteArray) = ⟨[UInt8.ofNat (hexd n)].toArray⟩ from rfl, ← HE.out]; rfl, rfl⟩
end Go.Proofs.YtefdfcjohkndgaaGreatDoor

/- What wire's packer does with a result, and Result. -/
namespace Go.Proofs.YtefdfcjohkndgaaGreatDoor
open Go.RowKit Go.Shelf

abbrev Rv (c : Int) (s : ByteArray) (d : Int) : Value := .agg #[.int .i64 c, .string s, .int .i64 d]
def noN (n : Int) : Bool := decide (n < 0) || decide (9007199254740991 < n)
theorem noN_false {n : Int} (h : noN n = false) : 0 ≤ n ∧ n ≤ 9007199254740991 := by simp [noN] at h; omega
theorem isNoNumber_noN (n : Int) (w : World) : Calls Tryz.prog 183 #[.int .i64 n] w fun e w' => e = .returned (.bool (noN n)) ∧ w' = w := isNoNumber_any n w
theorem bcell {W w1 : World} (hb : Below W.heap.size W w1) : (∀ b o, b < W.heap.size → w1.cell? ⟨b, o, none⟩ = W.cell? ⟨b, o, none⟩) ∧ (∀ b o, b < W.heap.size → w1.frozen? ⟨b, o, none⟩ = W.frozen? ⟨b, o, none⟩) :=
  ⟨fun b o h => hb.cell (p := ⟨b, o, none⟩) h, fun b o h => hb.frozen (p := ⟨b, o, none⟩) h⟩

def pkR (c : Nat) (s : ByteArray) (d : Nat) : List UInt8 := pk c ++ (pkT s ++ pk d)

theorem pk_alloc {B b : Nat} {bs : List Value} {w : World} (h : PkIs B b bs w) (o : Obj) : PkIs B b bs (w.alloc o) := by
  rcases h with ⟨hB, v, hh, hown, hne⟩ | ⟨hB, v, hh, hown, hne⟩
  · exact Or.inl ⟨hB, v, (Lib.alloc_old w o b (Array.getElem?_eq_some_iff.1 hh).1).trans hh, hown.alloc o, hne⟩
  · exact Or.inr ⟨hB, v, (Lib.alloc_old w o b (Array.getElem?_eq_some_iff.1 hh).1).trans hh, hown.alloc o, hne⟩
theorem pk_lt {B b : Nat} {bs : List Value} {w : World} (h : PkIs B b bs w) : b < w.heap.size := by
  rcases h with h | h
  · exact h.lt
  · exact h.lt
theorem kp_cells {B b k : Nat} {w w' : World} {c : Array Value} {T : TypeId} (h : Kp B b w w') (hk : w.heap[k]? = some (.cells c T (0, 0))) (hb : k ≠ b) (hT : T ≠ 5) : w'.heap[k]? = some (.cells c T (0, 0)) :=
  h.2 k _ hk (fun e => hb (Option.some.inj e)) (fun c' fz e => hT (by injection e))

theorem digOk_size {s : ByteArray} (h : digOk s = true) : s.size = 64 := by
  unfold digOk at h
  rw [Bool.and_eq_true] at h
  simpa using h.1
theorem pkR_len (c d : Nat) (s : ByteArray) (hc : c ≤ 9007199254740991) (hd : d ≤ 9007199254740991) (hs : s.size ≤ 100000) : (pkR c s d).length ≤ 100024 := by
  have h1 := pk_len8 c hc
  have h2 := pk_len8 d hd
  have h3 := pk_len8 s.size (by omega)
  have h4 := size_of (s := s) rfl
  simp only [pkR, pkT, List.length_append]
  omega

def okR (c : Int) (s : ByteArray) (d : Int) : Prop := noN c = false ∧ noN d = false ∧ digOk s = true
end Go.Proofs.YtefdfcjohkndgaaGreatDoor

/- What wire's nodesError answers, and what it asks of each node. -/
namespace Go.Proofs.YtefdfcjohkndgaaGreatDoor
open Go.RowKit Go.Shelf

/-- A node: its name, its kind, its digest. -/
abbrev Nd : Type := ByteArray × Int × ByteArray
abbrev Nv (n : Nd) : Value := .agg #[.string n.1, .int .i64 n.2.1, .string n.2.2]
def kindNo (k : Int) : Bool := (k != 1) && (k != 2) && (k != 3)

set_option maxHeartbeats 1000000 in
theorem isNoKind_any (k : Int) (w : World) : Calls Tryz.prog 155 #[.int .i64 k] w fun e w' => e = .returned (.bool (kindNo k)) ∧ w' = w := by
  by_cases h1 : k = 1
  · subst h1
    go_enter Tryz.func155, Tryz.ntmps155
    go_wp2
    go_ret
    exact ⟨rfl, rfl⟩
  by_cases h2 : k = 2
  · subst h2
    go_enter Tryz.func155, Tryz.ntmps155
    go_wp2
    go_ret
    exact ⟨rfl, rfl⟩
  by_cases h3 : k = 3
  · subst h3
    go_enter Tryz.func155, Tryz.ntmps155
    go_wp2
    go_ret
    exact ⟨rfl, rfl⟩
  have e1 : (k != 1) = true := by rw [bne_iff_ne]; exact h1
  have e2 : (k != 2) = true := by rw [bne_iff_ne]; exact h2
  have e3 : (k != 3) = true := by rw [bne_iff_ne]; exact h3
  have HK : Hid (kindNo k = true) := by show _ = _; simp [kindNo, e1, e2, e3]
  clear h1 h2 h3
  go_enter Tryz.func155, Tryz.ntmps155
  go_wp2
  go_ret
  exact ⟨by rw [HK.out]; rfl, rfl⟩

def ndE (n : Nd) : Int := if nameOk n.1 = false then 1 else if digOk n.2.2 = false then 1 else if kindNo n.2.1 = true then 7 else 0

set_option maxHeartbeats 1000000 in
theorem nodeError_any (a d : ByteArray) (k : Int) (w : World) (ha : a.size ≤ maxLen) :
    Calls Tryz.prog 129 #[.agg #[.string a, .int .i64 k, .string d]] w fun e w' => e = .returned (.int .i64 (ndE (a, k, d))) ∧ Below w.heap.size w w' := by
  have HB : Hid (Below w.heap.size w (w.alloc (.cells #[.string a, .int .i64 k, .string d] 79))) := (Below.refl _ _).alloc (Nat.le_refl _) _
  by_cases h1 : nameOk a = true
  · by_cases h2 : digOk d = true
    · by_cases h3 : kindNo k = true
      · have HR : Hid (ndE (a, k, d) = 7) := by show _ = _; simp [ndE, h1, h2, h3]
        go_enter Tryz.func129, Tryz.ntmps129
        go_wp2_with fail
        refine (IsName_any a _ ha).mono ?_
        rintro e w1 ⟨rfl, rfl⟩
        rw [h1]
        go_wp2_with fail
        refine (Is_any d _).mono ?_
        rintro e w1 ⟨rfl, rfl⟩
        rw [h2]
        go_wp2_with fail
        refine (isNoKind_any k _).mono ?_
        rintro e w1 ⟨rfl, rfl⟩
        rw [h3]
        go_wp2
        go_ret
        exact ⟨by rw [HR.out]; rfl, HB.out⟩
      · have h3' : kindNo k = false := by simpa using h3
        have HR : Hid (ndE (a, k, d) = 0) := by show _ = _; simp [ndE, h1, h2, h3']
        clear h3
        go_enter Tryz.func129, Tryz.ntmps129
        go_wp2_with fail
        refine (IsName_any a _ ha).mono ?_
        rintro e w1 ⟨rfl, rfl⟩
        rw [h1]
        go_wp2_with fail
        refine (Is_any d _).mono ?_
        rintro e w1 ⟨rfl, rfl⟩
        rw [h2]
        go_wp2_with fail
        refine (isNoKind_any k _).mono ?_
        rintro e w1 ⟨rfl, rfl⟩
        rw [h3']
        go_wp2
        go_ret
        exact ⟨by rw [HR.out]; rfl, HB.out⟩
    · have h2' : digOk d = false := by simpa using h2
      have HR : Hid (ndE (a, k, d) = 1) := by show _ = _; simp [ndE, h2']
      clear h2
      go_enter Tryz.func129, Tryz.ntmps129
      go_wp2_with fail
      refine (IsName_any a _ ha).mono ?_
      rintro e w1 ⟨rfl, rfl⟩
      rw [h1]
      go_wp2_with fail
      refine (Is_any d _).mono ?_
      rintro e w1 ⟨rfl, rfl⟩
      rw [h2']
      go_wp2
      go_ret
      exact ⟨by rw [HR.out]; rfl, HB.out⟩
  · have h1' : nameOk a = false := by simpa using h1
    have HR : Hid (ndE (a, k, d) = 1) := by show _ = _; simp [ndE, h1']
    clear h1
    go_enter Tryz.func129, Tryz.ntmps129
    go_wp2_with fail
    refine (IsName_any a _ ha).mono ?_
    rintro e w1 ⟨rfl, rfl⟩
    rw [h1']
    go_wp2
    go_ret
    exact ⟨by rw [HR.out]; rfl, HB.out⟩

theorem nodeName_any (a d : ByteArray) (k : Int) (w : World) :
    Calls Tryz.prog 131 #[.agg #[.string a, .int .i64 k, .string d]] w fun e w' => e = .returned (.string a) ∧ Below w.heap.size w w' := by
  have HB : Hid (Below w.heap.size w (w.alloc (.cells #[.string a, .int .i64 k, .string d] 79))) := (Below.refl _ _).alloc (Nat.le_refl _) _
  go_enter Tryz.func131, Tryz.ntmps131
  go_wp2
  go_ret
  exact ⟨rfl, HB.out⟩

/-- The nodes ns lie in block g from offset o on. -/
def NdAt (g o : Nat) (ns : List Nd) (w : World) : Prop := ∀ j (hj : j < ns.length), w.cell? ⟨g, o + j * 3, none⟩ = some (.string ns[j].1) ∧ w.cell? ⟨g, o + j * 3 + 1, none⟩ = some (.int .i64 ns[j].2.1) ∧ w.cell? ⟨g, o + j * 3 + 2, none⟩ = some (.string ns[j].2.2)
theorem NdAt.below {B g o : Nat} {ns : List Nd} {w w' : World} (h : NdAt g o ns w) (hb : Below B w w') (hg : g < B) : NdAt g o ns w' := fun j hj =>
  ⟨(hb.cell (p := ⟨g, o + j * 3, none⟩) hg).trans (h j hj).1, (hb.cell (p := ⟨g, o + j * 3 + 1, none⟩) hg).trans (h j hj).2.1, (hb.cell (p := ⟨g, o + j * 3 + 2, none⟩) hg).trans (h j hj).2.2⟩

/-- From some place on: the first that is wrong. -/
def ndEs : List Nd → Int
  | [] => 0
  | n :: l => if ndE n = 0 then ndEs l else ndE n

theorem ndEs_yes (ns : List Nd) (h : ∀ j (hj : j < ns.length), ndE ns[j] = 0) : ndEs ns = 0 := by
  induction ns with
  | nil => rfl
  | cons n l ih =>
    have h0 : ndE n = 0 := h 0 (by simp)
    show (if ndE n = 0 then ndEs l else ndE n) = 0
    rw [if_pos h0]
    exact ih (fun j hj => h (j + 1) (by simp; omega))
theorem ndEs_no (ns : List Nd) (k : Nat) (hk : k < ns.length) (h : ∀ j (hj : j < ns.length), j < k → ndE ns[j] = 0) (hne : ndE ns[k] ≠ 0) : ndEs ns = ndE ns[k] := by
  induction ns generalizing k with
  | nil => simp at hk
  | cons n l ih =>
    show (if ndE n = 0 then ndEs l else ndE n) = _
    cases k with
    | zero => exact if_neg (show ¬ ndE n = 0 from hne)
    | succ k =>
      have h0 : ndE n = 0 := h 0 (by simp) (by omega)
      rw [if_pos h0]
      exact ih k (by simpa using hk) (fun j hj hjk => h (j + 1) (by simp; omega) (by omega)) hne

def less (a b : ByteArray) : Bool := Op.bytesLess a.toList b.toList
/-- Do names rise? -/
def riseB : List ByteArray → Bool
  | [] => true
  | [_] => true
  | a :: b :: l => less a b && riseB (b :: l)
theorem riseB_yes (l : List ByteArray) (h : ∀ j (hj : j + 1 < l.length), less l[j] l[j + 1] = true) : riseB l = true := by
  induction l with
  | nil => rfl
  | cons a l ih =>
    cases l with
    | nil => rfl
    | cons b l =>
      have h0 := h 0 (by simp)
      have h1 := ih (fun j hj => h (j + 1) (by simp at hj ⊢; omega))
      show (less a b && riseB (b :: l)) = true
      rw [h1, Bool.and_true]; exact h0
theorem riseB_no (l : List ByteArray) (j : Nat) (hj : j + 1 < l.length) (h : less l[j] l[j + 1] = false) : riseB l = false := by
  induction l generalizing j with
  | nil => simp at hj
  | cons a l ih =>
    cases l with
    | nil => simp at hj
    | cons b l =>
      show (less a b && riseB (b :: l)) = false
      cases j with
      | zero => rw [show less a b = false from h, Bool.false_and]
      | succ j => rw [ih j (by simp at hj ⊢; omega) h, Bool.and_false]

set_option maxHeartbeats 2000000 in
set_option maxRecDepth 100000 in
theorem rises_any (g o cap : Nat) (ns : List Nd) (w : World) (hn : ns.length ≤ 60) (hc : NdAt g o ns w) (hg : g < w.heap.size) :
    Calls Tryz.prog 130 #[.slice (some ⟨g, o, none⟩) ns.length cap, .func (.func 131) #[] #[]] w fun e w' => e = .returned (.bool (riseB (ns.map (·.1)))) ∧ Below w.heap.size w w' := by
  have HC : Hid (NdAt g o ns w) := hc
  have hn1 : (ns.length : Int) ≤ 60 := by omega
  clear hc
  go_enter Tryz.func130, Tryz.ntmps130
  go_wp2
  go_loopw [5] (fun i wr => ∃ k : Nat, 1 ≤ k ∧ k ≤ max 1 ns.length ∧ i = .int .i64 k ∧ (∀ j, (hj : j + 1 < ns.length) → j + 1 < k → less ns[j].1 ns[j + 1].1 = true) ∧ Below w.heap.size w wr) (fun i _ => ns.length - (intOf i).toNat)
  case atStart => exact ⟨1, by omega, by omega, rfl, by omega, Below.refl _ _⟩
  case round =>
    obtain ⟨k, hk1, hk, rfl, hlo, hb⟩ := hrel
    have HL : Hid _ := hlo
    have HB : Hid (Below w.heap.size w wr) := hb
    have hsz := hb.size
    clear hlo hb
    by_cases hlt : k < ns.length
    · obtain ⟨m, rfl⟩ : ∃ m, k = m + 1 := ⟨k - 1, by omega⟩
      obtain ⟨a0, a1, a2⟩ := HC.out.below HB.out hg m (by omega)
      obtain ⟨b0, b1, b2⟩ := HC.out.below HB.out hg (m + 1) hlt
      have i1 : (0 : Int) ≤ (m : Int) := by omega
      have i2 : (m : Int) < ns.length := by omega
      have i3 : (0 : Int) ≤ (m : Int) + 1 := by omega
      have i4 : (m : Int) + 1 < ns.length := by omega
      have i5 : IntKind.i64.wrap ((m : Int) + 1 - 1) = m := by rw [wraps_i64 _ (by omega) (by omega)]; omega
      have i6 : IntKind.i64.wrap (m : Int) = m := wraps_i64 _ (by omega) (by omega)
      have i7 : ((m : Int) + 1).toNat = m + 1 := by omega
      generalize hx : ns[m] = x at a0 a1 a2
      generalize hy : ns[m + 1] = y at b0 b1 b2
      obtain ⟨xa, xk, xd⟩ := x
      obtain ⟨ya, yk, yd⟩ := y
      have HX : Hid (ns[m] = (xa, xk, xd)) := hx
      have HY : Hid (ns[m + 1] = (ya, yk, yd)) := hy
      simp only at a0 a1 a2 b0 b1 b2
      have hgr : g < wr.heap.size := by omega
      clear hx hy
      by_cases hls : Op.bytesLess xa.toList ya.toList = true
      · have HLS : Hid _ := hls
        go_wp2_with fail
        go_region_held3 (fun w' => w'.cell? ⟨g, o + m * 3, none⟩ = some (.string xa) ∧ w'.cell? ⟨g, o + m * 3 + 1, none⟩ = some (.int .i64 xk) ∧ w'.cell? ⟨g, o + m * 3 + 2, none⟩ = some (.string xd) ∧ w'.cell? ⟨g, o + (m + 1) * 3, none⟩ = some (.string ya) ∧ w'.cell? ⟨g, o + (m + 1) * 3 + 1, none⟩ = some (.int .i64 yk) ∧ w'.cell? ⟨g, o + (m + 1) * 3 + 2, none⟩ = some (.string yd) ∧ g < w'.heap.size)
          (first | (simp [go_sem, *]; done) | (go_split_ands; refine ⟨?_, ?_, ?_, ?_, ?_, ?_, ?_⟩ <;> first | (exact Nat.lt_of_lt_of_le (by assumption) hb2.size) | (rw [hb2.cell (p := ⟨g, _, none⟩) (by assumption)]; assumption) | (exact Nat.lt_of_lt_of_le (by assumption) hb1.size) | (rw [hb1.cell (p := ⟨g, _, none⟩) (by assumption)]; assumption)))
          (first
            | (go_at_call_of 131 (Value.agg #[.string xa, .int .i64 xk, .string xd]); refine (nodeName_any xa xd xk _).mono ?_; rintro e w1 ⟨rfl, hb1⟩)
            | (go_at_call_of 131 (Value.agg #[.string ya, .int .i64 yk, .string yd]); refine (nodeName_any ya yd yk _).mono ?_; rintro e w2 ⟨rfl, hb2⟩))
        have hb3 : Below w.heap.size w w2 := by
          have b0 : Below w.heap.size w wr.drew := HB.out.drew
          have b1 := b0.trans (hb1.mono b0.size)
          exact b1.trans (hb2.mono b1.size)
        have HB3 : Hid _ := hb3
        clear hb1 hb2 hb3
        go_wp2
        refine ⟨⟨m + 2, by omega, by omega, by go_num, fun j hj hjk => ?_, HB3.out⟩, by simp [intOf]; omega⟩
        by_cases h : j + 1 < m + 1
        · exact HL.out j hj h
        · obtain rfl : j = m := by omega
          rw [HX.out, HY.out]
          exact HLS.out
      · have hls' : Op.bytesLess xa.toList ya.toList = false := by simpa using hls
        have HLS : Hid _ := hls'
        clear hls
        go_wp2_with fail
        go_region_held3 (fun w' => w'.cell? ⟨g, o + m * 3, none⟩ = some (.string xa) ∧ w'.cell? ⟨g, o + m * 3 + 1, none⟩ = some (.int .i64 xk) ∧ w'.cell? ⟨g, o + m * 3 + 2, none⟩ = some (.string xd) ∧ w'.cell? ⟨g, o + (m + 1) * 3, none⟩ = some (.string ya) ∧ w'.cell? ⟨g, o + (m + 1) * 3 + 1, none⟩ = some (.int .i64 yk) ∧ w'.cell? ⟨g, o + (m + 1) * 3 + 2, none⟩ = some (.string yd) ∧ g < w'.heap.size)
          (first | (simp [go_sem, *]; done) | (go_split_ands; refine ⟨?_, ?_, ?_, ?_, ?_, ?_, ?_⟩ <;> first | (exact Nat.lt_of_lt_of_le (by assumption) hb2.size) | (rw [hb2.cell (p := ⟨g, _, none⟩) (by assumption)]; assumption) | (exact Nat.lt_of_lt_of_le (by assumption) hb1.size) | (rw [hb1.cell (p := ⟨g, _, none⟩) (by assumption)]; assumption)))
          (first
            | (go_at_call_of 131 (Value.agg #[.string xa, .int .i64 xk, .string xd]); refine (nodeName_any xa xd xk _).mono ?_; rintro e w1 ⟨rfl, hb1⟩)
            | (go_at_call_of 131 (Value.agg #[.string ya, .int .i64 yk, .string yd]); refine (nodeName_any ya yd yk _).mono ?_; rintro e w2 ⟨rfl, hb2⟩))
        have hb3 : Below w.heap.size w w2 := by
          have b0 : Below w.heap.size w wr.drew := HB.out.drew
          have b1 := b0.trans (hb1.mono b0.size)
          exact b1.trans (hb2.mono b1.size)
        have HB3 : Hid _ := hb3
        clear hb1 hb2 hb3
        go_wp2
        go_ret
        refine ⟨?_, HB3.out⟩
        rw [riseB_no (ns.map (·.1)) m (by simpa using hlt) (by simp only [List.getElem_map]; rw [HX.out, HY.out]; exact HLS.out)]
        rfl
    · go_wp2
      go_ret
      refine ⟨?_, HB.out⟩
      rw [riseB_yes (ns.map (·.1)) (fun j hj => by simp only [List.getElem_map]; exact HL.out j (by simpa using hj) (by simp at hj; omega))]
      rfl

def neC (ns : List Nd) : Int := if 60 < ns.length then 2 else if ndEs ns = 0 then (if riseB (ns.map (·.1)) = true then 0 else 6) else ndEs ns

set_option maxHeartbeats 1000000 in
theorem ne_many (a : Option Addr) (n cap : Nat) (w : World) (hn : 60 < n) :
    Calls Tryz.prog 82 #[.slice a n cap] w fun e w' => e = .returned (.int .i64 2) ∧ w' = w := by
  have hn1 : 60 < (n : Int) := by omega
  go_enter Tryz.func82, Tryz.ntmps82
  go_wp2
  go_ret
  exact ⟨rfl, rfl⟩

set_option maxHeartbeats 2000000 in
set_option maxRecDepth 100000 in
theorem ne_some (g o cap : Nat) (ns : List Nd) (w : World) (hn : ns.length ≤ 60) (hc : NdAt g o ns w) (hg : g < w.heap.size) (hm : ∀ n ∈ ns, n.1.size ≤ maxLen) :
    Calls Tryz.prog 82 #[.slice (some ⟨g, o, none⟩) ns.length cap] w fun e w' => e = .returned (.int .i64 (neC ns)) ∧ Below w.heap.size w w' := by
  have HC : Hid (NdAt g o ns w) := hc
  have HM : Hid _ := hm
  have hn1 : (ns.length : Int) ≤ 60 := by omega
  clear hc hm
  go_enter Tryz.func82, Tryz.ntmps82
  go_wp2
  go_loopw [11] (fun i wr => ∃ k : Nat, k ≤ ns.length ∧ i = .int .i64 k ∧ (∀ j, (hj : j < ns.length) → j < k → ndE ns[j] = 0) ∧ Below w.heap.size w wr) (fun i _ => ns.length - (intOf i).toNat)
  case atStart => exact ⟨0, by omega, rfl, by omega, Below.refl _ _⟩
  case round =>
    obtain ⟨k, hk, rfl, hlo, hb⟩ := hrel
    have HL : Hid _ := hlo
    have HB : Hid (Below w.heap.size w wr) := hb
    have hsz := hb.size
    clear hlo hb
    by_cases hlt : k < ns.length
    · obtain ⟨a0, a1, a2⟩ := HC.out.below HB.out hg k hlt
      have hx := HM.out _ (List.getElem_mem hlt)
      generalize hx' : ns[k] = x at a0 a1 a2 hx
      obtain ⟨xa, xk, xd⟩ := x
      have HX : Hid (ns[k] = (xa, xk, xd)) := hx'
      simp only at a0 a1 a2 hx
      have i2 : (k : Int) < ns.length := by omega
      have hb1 : Below w.heap.size w (wr.alloc (.cells #[.string xa, .int .i64 xk, .string xd] 79)) := HB.out.alloc hsz _
      have HB1 : Hid _ := hb1
      have HS : Hid (xa.size ≤ maxLen) := hx
      clear hx hx' hb1
      go_wp2_with fail
      refine (nodeError_any xa xd xk _ HS.out).mono ?_
      rintro e w2 ⟨rfl, hb2⟩
      have HB2 : Hid (Below w.heap.size w w2) := HB1.out.trans (hb2.mono HB1.out.size)
      clear hb2
      by_cases h0 : ndE (xa, xk, xd) = 0
      · rw [h0]
        have H0 : Hid _ := h0
        clear h0
        go_wp2
        refine ⟨⟨k + 1, by omega, by go_num, fun j hj hjk => ?_, HB2.out⟩, by simp [intOf]; omega⟩
        by_cases h : j < k
        · exact HL.out j hj h
        · obtain rfl : j = k := by omega
          rw [HX.out]; exact H0.out
      · generalize hr : ndE (xa, xk, xd) = r at h0 ⊢
        have HR : Hid (ndE (xa, xk, xd) = r) := hr
        have hne : (r != 0) = true := by rw [bne_iff_ne]; exact h0
        have H0 : Hid (r ≠ 0) := h0
        clear hr h0
        go_wp2
        go_ret
        refine ⟨?_, HB2.out⟩
        have e1 := ndEs_no ns k hlt HL.out (by rw [HX.out, HR.out]; exact H0.out)
        rw [HX.out, HR.out] at e1
        unfold neC
        rw [if_neg (by omega), if_neg (by rw [e1]; exact H0.out), e1]
        rfl
    · have hok := ndEs_yes ns (fun j hj => HL.out j hj (by omega))
      have HOK : Hid _ := hok
      clear hok
      go_wp2_with fail
      refine (rises_any g o cap ns wr hn (HC.out.below HB.out hg) (by omega)).mono ?_
      rintro e w2 ⟨rfl, hb2⟩
      have HB2 : Hid (Below w.heap.size w w2) := HB.out.trans (hb2.mono HB.out.size)
      clear hb2
      by_cases h0 : riseB (ns.map (·.1)) = true
      · rw [h0]
        have H0 : Hid _ := h0
        clear h0
        go_wp2
        go_ret
        refine ⟨?_, HB2.out⟩
        unfold neC
        rw [if_neg (by omega), if_pos HOK.out, if_pos H0.out]
        rfl
      · have h0' : riseB (ns.map (·.1)) = false := by simpa using h0
        rw [h0']
        have H0 : Hid _ := h0
        clear h0 h0'
        go_wp2
        go_ret
        refine ⟨?_, HB2.out⟩
        unfold neC
        rw [if_neg (by omega), if_pos HOK.out, if_neg H0.out]
        rfl

set_option maxHeartbeats 2000000 in
set_option maxRecDepth 100000 in
theorem rises_zero (a : Option Addr) (cap : Nat) (w : World) : Calls Tryz.prog 130 #[.slice a 0 cap, .func (.func 131) #[] #[]] w fun e w' => e = .returned (.bool true) ∧ w' = w := by
  go_enter Tryz.func130, Tryz.ntmps130
  go_wp2
  refine wp_loop_rounds 1 ?_
  rw [rounds_succ]
  go_wp2
  go_ret
  exact ⟨rfl, rfl⟩

set_option maxHeartbeats 2000000 in
set_option maxRecDepth 100000 in
theorem ne_zero (a : Option Addr) (cap : Nat) (w : World) :
    Calls Tryz.prog 82 #[.slice a 0 cap] w fun e w' => e = .returned (.int .i64 0) ∧ w' = w := by
  go_enter Tryz.func82, Tryz.ntmps82
  go_wp2
  refine wp_loop_rounds 1 ?_
  rw [rounds_succ]
  go_wp2_with fail
  refine (rises_zero a cap w).mono ?_
  rintro e w2 ⟨rfl, rfl⟩
  go_wp2
  go_ret
  exact ⟨rfl, rfl⟩

/-- These nodes are in v. -/
def IsNodes (w : World) (v : Value) (ns : List Nd) : Prop :=
  ns.length ≤ 4611686018427387904 ∧ (∀ n ∈ ns, n.1.size ≤ maxLen ∧ n.2.2.size ≤ maxLen) ∧ ∃ a cap, v = .slice a ns.length cap ∧ (ns = [] ∨ ∃ g o, a = some ⟨g, o, none⟩ ∧ g < w.heap.size ∧ NdAt g o ns w)

theorem ne_any (v : Value) (ns : List Nd) (w : World) (h : IsNodes w v ns) :
    Calls Tryz.prog 82 #[v] w fun e w' => e = .returned (.int .i64 (neC ns)) ∧ Below w.heap.size w w' := by
  obtain ⟨_, hm, a, cap, rfl, hs⟩ := h
  by_cases hn : 60 < ns.length
  · refine (ne_many a ns.length cap w hn).mono ?_
    rintro e w' ⟨rfl, rfl⟩
    exact ⟨by unfold neC; rw [if_pos hn], Below.refl _ _⟩
  rcases hs with rfl | ⟨g, o, rfl, hg, hc⟩
  · refine (ne_zero a cap w).mono ?_
    rintro e w' ⟨rfl, rfl⟩
    exact ⟨rfl, Below.refl _ _⟩
  · exact ne_some g o cap ns w (by omega) hc hg (fun n h => (hm n h).1)
end Go.Proofs.YtefdfcjohkndgaaGreatDoor

/- What wire's packer does with nodes, and Nodes. -/
namespace Go.Proofs.YtefdfcjohkndgaaGreatDoor
open Go.RowKit Go.Shelf

def pkD (n : Nd) : List UInt8 := pkT n.1 ++ (pk n.2.1.toNat ++ pkT n.2.2)
def pkDD : List Nd → List UInt8
  | [] => []
  | n :: l => pkD n ++ pkDD l
theorem pkDD_append (l m : List Nd) : pkDD (l ++ m) = pkDD l ++ pkDD m := by
  induction l with
  | nil => rfl
  | cons s l ih => simp only [List.cons_append, pkDD, ih, List.append_assoc]

set_option maxHeartbeats 2000000 in
set_option maxRecDepth 100000 in
theorem pk_node (B b k : Nat) (a d : ByteArray) (bs : List Value) (w : World) (h : PkIs B b bs w) (hk : k ≤ 9007199254740991) (ha : a.size ≤ 100000) (hd : d.size ≤ 100000) (hlen : bs.length + (pkD (a, (k : Int), d)).length ≤ 140737488355328) (hBw : B ≤ w.heap.size) :
    Calls Tryz.prog 134 #[.pointer (some ⟨b, 0, none⟩), .agg #[.string a, .int .i64 k, .string d]] w fun e w' => e = .returned (.tuple #[]) ∧ (PkIs B b (bs ++ Lib.byteCells (pkD (a, (k : Int), d))) w' ∧ Kp B b w w') := by
  have hbl := pk_lt h
  have k0 : Kp B b w (w.alloc (.cells #[.string a, .int .i64 k, .string d] 79)) := ⟨(Below.refl _ _).alloc hBw _, (Lib.OthersKept.refl _ _ _).alloc _⟩
  have hx0 : (w.alloc (.cells #[.string a, .int .i64 k, .string d] 79)).heap[w.heap.size]? = some (.cells #[.string a, .int .i64 k, .string d] 79 (0, 0)) := heap_alloc_new w _
  have p0 := pk_alloc h (.cells #[.string a, .int .i64 k, .string d] 79)
  have hl : (pkD (a, (k : Int), d)).length = (pkT a).length + ((pk k).length + (pkT d).length) := by simp [pkD]
  have K0 : Hid (Kp B b w (w.alloc (.cells #[.string a, .int .i64 k, .string d] 79))) := k0
  have P0 : Hid (PkIs B b bs (w.alloc (.cells #[.string a, .int .i64 k, .string d] 79))) := p0
  have X0 : Hid _ := hx0
  have hbw : B ≤ (w.alloc (.cells #[.string a, .int .i64 k, .string d] 79)).heap.size := Nat.le_trans hBw k0.size
  clear k0 hx0 p0 h
  go_enter Tryz.func134, Tryz.ntmps134
  go_wp2_with fail
  refine (pk_text B b bs a _ P0.out (by omega) (by omega) hbw).mono ?_
  rintro e w1 ⟨rfl, h1, hk1⟩
  have x1 := kp_cells hk1 X0.out (by omega) (by decide)
  have q1 : w1.cell? ⟨w.heap.size, 1, none⟩ = some (.int .i64 k) := by rw [Lib.cell_of_heap x1]; rfl
  have K1 : Hid (Kp B b w w1) := K0.out.trans hk1
  have P1 : Hid (PkIs B b (bs ++ Lib.byteCells (pkT a)) w1) := h1
  have X1 : Hid _ := x1
  clear h1 hk1 x1
  go_wp2_with fail
  refine (number_any B b k _ w1 P1.out hk (by simp [Lib.byteCells]; omega) (Nat.le_trans hBw K1.out.size)).mono ?_
  rintro e w2 ⟨rfl, h2, hk2⟩
  have x2 := kp_cells hk2 X1.out (by omega) (by decide)
  have q2 : w2.cell? ⟨w.heap.size, 2, none⟩ = some (.string d) := by rw [Lib.cell_of_heap x2]; rfl
  have K2 : Hid (Kp B b w w2) := K1.out.trans hk2
  have P2 : Hid (PkIs B b (bs ++ Lib.byteCells (pkT a) ++ Lib.byteCells (pk k)) w2) := h2
  clear h2 hk2 x2
  go_wp2_with fail
  refine (pk_text B b _ d w2 P2.out (by omega) (by simp [Lib.byteCells]; omega) (Nat.le_trans hBw K2.out.size)).mono ?_
  rintro e w3 ⟨rfl, h3, hk3⟩
  go_wp2
  go_end0
  refine ⟨rfl, ?_, K2.out.trans hk3⟩
  unfold pkD
  rw [byteCells_app, byteCells_app, ← List.append_assoc, ← List.append_assoc]
  exact h3

/-- Each node can be packed. -/
def okD (n : Nd) : Prop := n.1.size ≤ 100000 ∧ 0 ≤ n.2.1 ∧ n.2.1 ≤ 3 ∧ n.2.2.size ≤ 100000

theorem NdAt.kept {B b g o : Nat} {ns : List Nd} {w w' : World} (h : NdAt g o ns w) (hb : Kp B b w w') (hg : g < B) : NdAt g o ns w' := h.below hb.bel hg

set_option maxHeartbeats 2000000 in
set_option maxRecDepth 100000 in
theorem pk_dlist (B b g o cap : Nat) (bs : List Value) (ns : List Nd) (w : World) (h : PkIs B b bs w) (hn : ns.length ≤ 60) (hs : ∀ n ∈ ns, okD n) (hg : g < B) (hc : NdAt g o ns w)
    (hlen : bs.length + (pk ns.length ++ pkDD ns).length ≤ 140737488355328) (hBw : B ≤ w.heap.size) :
    Calls Tryz.prog 133 #[.pointer (some ⟨b, 0, none⟩), .slice (some ⟨g, o, none⟩) ns.length cap, .func (.func 134) #[] #[]] w fun e w' => e = .returned (.tuple #[]) ∧ (PkIs B b (bs ++ Lib.byteCells (pk ns.length ++ pkDD ns)) w' ∧ Kp B b w w') := by
  have HC : Hid (NdAt g o ns w) := hc
  have HS : Hid _ := hs
  have HL : Hid (bs.length + ((pk ns.length).length + (pkDD ns).length) ≤ 140737488355328) := by show _ ≤ _; simpa using hlen
  have hn1 : (ns.length : Int) ≤ 60 := by omega
  clear hc hs hlen
  go_enter Tryz.func133, Tryz.ntmps133
  go_wp2_with fail
  refine (number_any B b ns.length bs w h (by omega) (by have := HL.out; omega) hBw).mono ?_
  rintro e w1 ⟨rfl, h1, hb1⟩
  clear h
  go_wp2_with fail
  go_loopw [14] (fun i wr => ∃ k : Nat, k ≤ ns.length ∧ i = .int .i64 k ∧ PkIs B b (bs ++ Lib.byteCells (pk ns.length ++ pkDD (ns.take k))) wr ∧ Kp B b w wr) (fun i _ => ns.length - (intOf i).toNat)
  case atStart => exact ⟨0, Nat.zero_le _, rfl, by simpa [pkDD] using h1, hb1⟩
  case round =>
    obtain ⟨k, hk, rfl, hp, hb⟩ := hrel
    clear h1 hb1
    have hsz := hb.size
    by_cases hlt : k < ns.length
    · obtain ⟨a0, a1, a2⟩ := HC.out.kept hb hg k hlt
      have hsp : pkDD (ns.take (k + 1)) = pkDD (ns.take k) ++ pkD ns[k] := by rw [List.take_succ_eq_append_getElem hlt, pkDD_append]; simp [pkDD]
      have hle : (pkDD (ns.take (k + 1))).length ≤ (pkDD ns).length := by
        have e1 : pkDD ns = pkDD (ns.take (k + 1)) ++ pkDD (ns.drop (k + 1)) := by rw [← pkDD_append, List.take_append_drop]
        rw [e1, List.length_append]
        omega
      have hok := HS.out _ (List.getElem_mem hlt)
      have hlen1 : (bs ++ Lib.byteCells (pk ns.length ++ pkDD (ns.take k))).length + (pkD ns[k]).length ≤ 140737488355328 := by
        have := HL.out
        rw [hsp, List.length_append] at hle
        simp [Lib.byteCells]
        omega
      generalize hx : ns[k] = x at a0 a1 a2 hok hlen1 hsp
      obtain ⟨xa, xk, xd⟩ := x
      obtain ⟨o1, o2, o3, o4⟩ := hok
      simp only at a0 a1 a2 o1 o2 o3 o4
      obtain ⟨xn, rfl⟩ : ∃ n : Nat, xk = n := ⟨xk.toNat, by omega⟩
      have H1 : Hid _ := hlen1
      have H2 : Hid _ := hsp
      have H3 : Hid (Kp B b w wr) := hb
      have H4 : Hid (PkIs B b (bs ++ Lib.byteCells (pk ns.length ++ pkDD (ns.take k))) wr) := hp
      have O1 : Hid _ := o1
      have O3 : Hid (xn ≤ 9007199254740991) := by show _ ≤ _; omega
      have O4 : Hid _ := o4
      have i2 : (k : Int) < ns.length := by omega
      clear hlen1 hsp hb hp hle hx o1 o2 o3 o4
      have kA : Kp B b wr (wr.alloc (.cells #[.string xa, .int .i64 xn, .string xd] 79)) := ⟨(Below.refl _ _).alloc (Nat.le_trans hBw hsz) _, (Lib.OthersKept.refl _ _ _).alloc _⟩
      have KA : Hid (Kp B b wr (wr.alloc (.cells #[.string xa, .int .i64 xn, .string xd] 79))) := kA
      clear kA
      go_wp2_with fail
      refine (pk_node B b xn xa xd _ _ (pk_alloc H4.out _) O3.out O1.out O4.out H1.out (Nat.le_trans (Nat.le_trans hBw hsz) KA.out.size)).mono ?_
      rintro e w2 ⟨rfl, h2, hb2⟩
      have H6 : Hid (Kp B b wr w2) := KA.out.trans hb2
      have H7 : Hid (PkIs B b (bs ++ Lib.byteCells (pk ns.length ++ pkDD (ns.take k)) ++ Lib.byteCells (pkD (xa, (xn : Int), xd))) w2) := h2
      clear hb2 h2
      go_wp2
      refine ⟨⟨k + 1, by omega, by go_num, ?_, H3.out.trans H6.out⟩, by simp [intOf]; omega⟩
      rw [H2.out, ← List.append_assoc, byteCells_app, ← List.append_assoc]
      exact H7.out
    · obtain rfl : k = ns.length := by omega
      go_wp2
      go_end0
      refine ⟨rfl, ?_, hb⟩
      rw [List.take_length] at hp
      exact hp

set_option maxHeartbeats 1000000 in
set_option maxRecDepth 100000 in
theorem pk_dlist0 (B b cap : Nat) (a : Option Addr) (bs : List Value) (w : World) (h : PkIs B b bs w) (hlen : bs.length + 1 ≤ 140737488355328) (hBw : B ≤ w.heap.size) :
    Calls Tryz.prog 133 #[.pointer (some ⟨b, 0, none⟩), .slice a 0 cap, .func (.func 134) #[] #[]] w fun e w' => e = .returned (.tuple #[]) ∧ (PkIs B b (bs ++ Lib.byteCells (pk 0 ++ pkDD [])) w' ∧ Kp B b w w') := by
  go_enter Tryz.func133, Tryz.ntmps133
  go_wp2_with fail
  refine (number_any B b 0 bs w h (by omega) (by rw [show (pk 0).length = 1 from rfl]; omega) hBw).mono ?_
  rintro e w1 ⟨rfl, h1, hb1⟩
  go_wp2_with fail
  refine wp_loop_rounds 1 ?_
  rw [rounds_succ]
  go_wp2
  go_end0
  exact ⟨rfl, by simpa [pkDD] using h1, hb1⟩

/-- A slice of these nodes that lies in old memory, below block B. -/
def OldNodes (B : Nat) (w : World) (v : Value) (ns : List Nd) : Prop :=
  ∃ a cap, v = .slice a ns.length cap ∧ (ns = [] ∨ ∃ g o, a = some ⟨g, o, none⟩ ∧ g < B ∧ NdAt g o ns w)
theorem oldN_of (w : World) (v : Value) (ns : List Nd) (h : IsNodes w v ns) : OldNodes w.heap.size w v ns := h.2.2
theorem nodes_below {B : Nat} {w w' : World} {v : Value} {ns : List Nd} (h : OldNodes B w v ns) (hb : Below B w w') : OldNodes B w' v ns := by
  obtain ⟨a, cap, rfl, hs⟩ := h
  refine ⟨a, cap, rfl, ?_⟩
  rcases hs with rfl | ⟨g, o, rfl, hg, hc⟩
  · exact Or.inl rfl
  · exact Or.inr ⟨g, o, rfl, hg, hc.below hb hg⟩
theorem nodes_of {B : Nat} {w : World} {v : Value} {ns : List Nd} (h : OldNodes B w v ns) (hB : B ≤ w.heap.size) (hn : ns.length ≤ 4611686018427387904) (hm : ∀ n ∈ ns, n.1.size ≤ maxLen ∧ n.2.2.size ≤ maxLen) : IsNodes w v ns := by
  obtain ⟨a, cap, rfl, hs⟩ := h
  refine ⟨hn, hm, a, cap, rfl, ?_⟩
  rcases hs with rfl | ⟨g, o, rfl, hg, hc⟩
  · exact Or.inl rfl
  · exact Or.inr ⟨g, o, rfl, by omega, hc⟩

def okDs (ns : List Nd) : Prop := ns.length ≤ 60 ∧ ∀ n ∈ ns, okD n

theorem pk_dlist_any (B b : Nat) (v : Value) (bs : List Value) (ns : List Nd) (w : World) (h : PkIs B b bs w) (hok : okDs ns) (ho : OldNodes B w v ns) (hlen : bs.length + (pk ns.length ++ pkDD ns).length ≤ 140737488355328) (hBw : B ≤ w.heap.size) :
    Calls Tryz.prog 133 #[.pointer (some ⟨b, 0, none⟩), v, .func (.func 134) #[] #[]] w fun e w' => e = .returned (.tuple #[]) ∧ (PkIs B b (bs ++ Lib.byteCells (pk ns.length ++ pkDD ns)) w' ∧ Kp B b w w') := by
  obtain ⟨a, cap, rfl, hs⟩ := ho
  rcases hs with rfl | ⟨g, o, rfl, hg, hc⟩
  · exact pk_dlist0 B b cap a bs w h (by have : (pk ([] : List Nd).length ++ pkDD []).length = 1 := rfl; omega) hBw
  · exact pk_dlist B b g o cap bs ns w h hok.1 hok.2 hg hc hlen hBw

set_option maxHeartbeats 1000000 in
theorem pk_nodes (B b : Nat) (v : Value) (bs : List Value) (ns : List Nd) (w : World) (h : PkIs B b bs w) (hok : okDs ns) (ho : OldNodes B w v ns) (hlen : bs.length + (pk ns.length ++ pkDD ns).length ≤ 140737488355328) (hBw : B ≤ w.heap.size) :
    Calls Tryz.prog 84 #[.pointer (some ⟨b, 0, none⟩), v] w fun e w' => e = .returned (.tuple #[]) ∧ (PkIs B b (bs ++ Lib.byteCells (pk ns.length ++ pkDD ns)) w' ∧ Kp B b w w') := by
  go_enter Tryz.func84, Tryz.ntmps84
  go_wp2_with fail
  refine (pk_dlist_any B b v bs ns w h hok ho hlen hBw).mono ?_
  rintro e w1 ⟨rfl, h1, hb1⟩
  go_wp2
  go_end0
  exact ⟨rfl, h1, hb1⟩

theorem pkT_len (s : ByteArray) (h : s.size ≤ 100000) : (pkT s).length ≤ 100008 := by
  have h3 := pk_len8 s.size (by omega)
  have h4 := size_of (s := s) rfl
  simp only [pkT, List.length_append]
  omega
theorem pkDD_len (ns : List Nd) (hs : ∀ n ∈ ns, okD n) : (pkDD ns).length ≤ ns.length * 200024 := by
  induction ns with
  | nil => simp [pkDD]
  | cons n l ih =>
    have h1 := ih (fun t ht => hs t (List.mem_cons_of_mem _ ht))
    obtain ⟨o1, o2, o3, o4⟩ := hs n (List.mem_cons_self ..)
    have h2 := pkT_len n.1 o1
    have h3 := pk_len8 n.2.1.toNat (by omega)
    have h4 := pkT_len n.2.2 o4
    simp only [pkDD, pkD, List.length_append, List.length_cons]
    omega
theorem pkDs_len (ns : List Nd) (h : okDs ns) : (pk ns.length ++ pkDD ns).length ≤ 200016008 := by
  have h1 := pkDD_len ns h.2
  have h2 := pk_len8 ns.length (by have := h.1; omega)
  have h3 := h.1
  rw [List.length_append]
  omega

set_option maxHeartbeats 1000000 in
set_option maxRecDepth 100000 in
theorem packed_nodes (v : Value) (ns : List Nd) (w : World) (hok : okDs ns) (ht : OldNodes w.heap.size w v ns) :
    Calls Tryz.prog 83 #[v, .func (.func 84) #[] #[]] w fun e w' => e = .returned (.string ⟨(pk ns.length ++ pkDD ns).toArray⟩) ∧ Below w.heap.size w w' := by
  have hl := pkDs_len ns hok
  have hpos := pk_pos ns.length
  have b0 : Below w.heap.size w (w.alloc (.cells #[.pointer none, .slice none 0 0] 158)) := (Below.refl _ _).alloc (Nat.le_refl _) _
  have HO : Hid (OldNodes w.heap.size (w.alloc (.cells #[.pointer none, .slice none 0 0] 158)) v ns) := nodes_below ht b0
  have H0 : Hid _ := b0
  have HK : Hid _ := hok
  obtain ⟨a, cap, rfl, _⟩ := ht
  clear b0 hok
  go_enter Tryz.func83, Tryz.ntmps83
  go_wp2_with fail
  refine (pk_nodes w.heap.size w.heap.size _ [] ns _ (Lib.fresh_isBuilder _ _ w) HK.out HO.out (by simp only [List.length_nil]; omega) (by simp)).mono ?_
  rintro e w1 ⟨rfl, h1, hb1⟩
  go_wp2_with fail
  refine (st_any w.heap.size w.heap.size (pk ns.length ++ pkDD ns) w1 (by simpa using h1) (by intro h; rw [List.append_eq_nil_iff] at h; rw [h.1] at hpos; simp at hpos)).mono ?_
  rintro e w2 ⟨rfl, hb2⟩
  go_wp2
  go_ret
  exact ⟨rfl, (H0.out.trans hb1.bel).trans hb2⟩

theorem nameOk_size {s : ByteArray} (h : nameOk s = true) : s.size ≤ 100000 := by
  unfold nameOk at h
  simp at h
  omega
theorem kindNo_le {k : Int} (h : kindNo k = false) : 0 ≤ k ∧ k ≤ 3 := by
  simp [kindNo] at h
  omega
theorem ndE_ok {n : Nd} (h : ndE n = 0) : nameOk n.1 = true ∧ digOk n.2.2 = true ∧ kindNo n.2.1 = false := by
  unfold ndE at h
  by_cases h1 : nameOk n.1 = false
  · rw [if_pos h1] at h; cases h
  rw [if_neg h1] at h
  by_cases h2 : digOk n.2.2 = false
  · rw [if_pos h2] at h; cases h
  rw [if_neg h2] at h
  by_cases h3 : kindNo n.2.1 = true
  · rw [if_pos h3] at h; cases h
  exact ⟨by simpa using h1, by simpa using h2, by simpa using h3⟩
theorem ndEs_all (ns : List Nd) (h : ndEs ns = 0) : ∀ n ∈ ns, ndE n = 0 := by
  induction ns with
  | nil => intro n hn; cases hn
  | cons m l ih =>
    have h' : (if ndE m = 0 then ndEs l else ndE m) = 0 := h
    by_cases h0 : ndE m = 0
    · rw [if_pos h0] at h'
      intro n hn
      rcases List.mem_cons.1 hn with rfl | hn
      · exact h0
      · exact ih h' n hn
    · rw [if_neg h0] at h'; exact absurd h' h0
theorem neC_ok {ns : List Nd} (h : neC ns = 0) : okDs ns ∧ ndEs ns = 0 ∧ riseB (ns.map (·.1)) = true := by
  unfold neC at h
  by_cases h1 : 60 < ns.length
  · rw [if_pos h1] at h; cases h
  rw [if_neg h1] at h
  by_cases h2 : ndEs ns = 0
  · rw [if_pos h2] at h
    by_cases h3 : riseB (ns.map (·.1)) = true
    · refine ⟨⟨by omega, fun n hn => ?_⟩, h2, h3⟩
      obtain ⟨e1, e2, e3⟩ := ndE_ok (ndEs_all ns h2 n hn)
      have e4 := kindNo_le e3
      have e5 := digOk_size e2
      exact ⟨nameOk_size e1, e4.1, e4.2, by omega⟩
    · rw [if_neg h3] at h; cases h
  · rw [if_neg h2] at h; exact absurd h h2

set_option maxHeartbeats 1000000 in
set_option maxRecDepth 100000 in
theorem Nodes_yes (v : Value) (ns : List Nd) (w : World) (hok : neC ns = 0) (ht : IsNodes w v ns) :
    Calls Tryz.prog 51 #[v] w fun e w' => e = .returned (.tuple #[.string ⟨(pk ns.length ++ pkDD ns).toArray⟩, .int .i64 0]) ∧ Below w.heap.size w w' := by
  have HI : Hid _ := ht
  have H2 : Hid _ := oldN_of w v ns ht
  have HK : Hid _ := hok
  obtain ⟨_, _, a, cap, rfl, _⟩ := ht
  clear hok
  go_enter Tryz.func51, Tryz.ntmps51
  go_wp2_with fail
  refine (ne_any _ ns w HI.out).mono ?_
  rintro e w1 ⟨rfl, hb1⟩
  rw [HK.out]
  have B1 : Hid _ := hb1
  clear hb1
  go_wp2_with fail
  refine (packed_nodes _ ns w1 (neC_ok HK.out).1 (by
    obtain ⟨a', cap', e, hs⟩ := nodes_below H2.out B1.out
    refine ⟨a', cap', e, ?_⟩
    rcases hs with h | ⟨g, o, h1, h2, h3⟩
    · exact Or.inl h
    · exact Or.inr ⟨g, o, h1, Nat.lt_of_lt_of_le h2 B1.out.size, h3⟩)).mono ?_
  rintro e w2 ⟨rfl, hb2⟩
  go_wp2
  go_ret2
  exact ⟨rfl, B1.out.trans (hb2.mono B1.out.size)⟩

set_option maxHeartbeats 1000000 in
theorem Nodes_no (v : Value) (ns : List Nd) (w : World) (hno : neC ns ≠ 0) (ht : IsNodes w v ns) :
    Calls Tryz.prog 51 #[v] w fun e w' => e = .returned (.tuple #[.string ⟨#[]⟩, .int .i64 (neC ns)]) ∧ Below w.heap.size w w' := by
  have HI : Hid _ := ht
  obtain ⟨_, _, a, cap, rfl, _⟩ := ht
  go_enter Tryz.func51, Tryz.ntmps51
  go_wp2_with fail
  refine (ne_any _ ns w HI.out).mono ?_
  rintro e w1 ⟨rfl, hb1⟩
  have B1 : Hid _ := hb1
  clear hb1
  have hne : (neC ns != 0) = true := by rw [bne_iff_ne]; exact hno
  generalize hr : neC ns = r at hne hno ⊢
  have HR : Hid (neC ns = r) := hr
  clear hr hno
  go_wp2
  go_ret2
  exact ⟨by rw [HR.out]; rfl, B1.out⟩
end Go.Proofs.YtefdfcjohkndgaaGreatDoor
