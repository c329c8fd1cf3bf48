/- A tree, plain: what Check answers. -/
import Derived.Test.YtcpomkgfcpfedaaGreatDoorTrP
import Derived.Maps.OwnSet
import Derived.Maps.Views
namespace Go.Proofs.YtcpomkgfcpfedaaGreatDoor
open Go.RowKit Go.Shelf Go.Maps

theorem tlt : ∀ a b : List UInt8, Op.bytesLess a b = decide (a < b)
  | [], [] => by simp [Op.bytesLess]
  | [], b :: s => by simp [Op.bytesLess]
  | a :: r, [] => by simp [Op.bytesLess]
  | a :: r, b :: s => by
    rw [Op.bytesLess, tlt r s]
    rw [Bool.eq_iff_iff]
    simp [List.cons_lt_cons_iff]

/-- A path's bytes. -/
def pth (f : Fl) : List UInt8 := f.pa.data.toList
/-- The first that is wrong. -/
def flEs : List Fl → Int
  | [] => 0
  | f :: l => if flE f = 0 then flEs l else flE f
theorem flEs_yes (ns : List Fl) (h : ∀ j (hj : j < ns.length), flE ns[j] = 0) : flEs ns = 0 := by
  induction ns with
  | nil => rfl
  | cons n l ih =>
    have h0 : flE n = 0 := h 0 (by simp)
    show (if flE n = 0 then flEs l else flE n) = 0
    rw [if_pos h0]
    exact ih (fun j hj => h (j + 1) (by simp; omega))
theorem flEs_no (ns : List Fl) (k : Nat) (hk : k < ns.length) (h : ∀ j (hj : j < ns.length), j < k → flE ns[j] = 0) (hne : flE ns[k] ≠ 0) : flEs ns = flE ns[k] := by
  induction ns generalizing k with
  | nil => simp at hk
  | cons n l ih =>
    show (if flE n = 0 then flEs l else flE n) = _
    cases k with
    | zero => exact if_neg (show ¬ flE n = 0 from hne)
    | succ k =>
      have h0 : flE n = 0 := h 0 (by simp) (by omega)
      rw [if_pos h0]
      exact ih k (by simpa using hk) (fun j hj hjk => h (j + 1) (by simp; omega) (by omega)) hne
theorem flEs_all {ns : List Fl} (h : flEs ns = 0) : ∀ f ∈ ns, flE f = 0 := by
  induction ns with
  | nil => intro f hf; cases hf
  | cons n l ih =>
    rw [show flEs (n :: l) = (if flE n = 0 then flEs l else flE n) from rfl] at h
    by_cases h0 : flE n = 0
    · rw [if_pos h0] at h
      intro f hf
      rcases List.mem_cons.1 hf with rfl | hf
      · exact h0
      · exact ih h f hf
    · rw [if_neg h0] at h
      exact absurd h h0
theorem flE_pa {f : Fl} (h : flE f = 0) : pathOk f.pa = true ∧ f.tx.size ≤ 100000 := by
  unfold flE at h
  by_cases h1 : pathOk f.pa = false
  · rw [if_pos h1] at h; exact absurd h (by decide)
  · rw [if_neg h1] at h
    by_cases h2 : 100000 < f.tx.size
    · rw [if_pos h2] at h; exact absurd h (by decide)
    · exact ⟨by simpa using h1, by omega⟩

/-- Do the paths rise? -/
def upF (L : List Fl) : Bool := decide (L.Pairwise fun f g => pth f < pth g)
/-- Does a path of the one go through a file of the other? -/
def thruF (L M : List Fl) : Bool := L.any fun f => M.any fun g => inB f.pa g.pa
/-- What Check answers. -/
def chF (L : List Fl) : Int := if 60 < L.length then 2 else if flEs L = 0 then (if (upF L && !thruF L L) = true then 0 else 6) else flEs L

/-- No path is less than the one ahead of it. -/
def adjF (L : List Fl) : Prop := ∀ j (hj : j + 1 < L.length), ¬ pth L[j + 1] < pth L[j]
theorem adjF_pw : ∀ L : List Fl, adjF L → L.Pairwise fun f g => pth f ≤ pth g
  | [], _ => .nil
  | [a], _ => List.pairwise_singleton _ _
  | a :: b :: l, h => by
    have h0 : pth a ≤ pth b := List.not_lt.1 (h 0 (by simp))
    have ih := adjF_pw (b :: l) (fun j hj => h (j + 1) (by simp at hj ⊢; omega))
    rw [List.pairwise_cons]
    refine ⟨fun x hx => ?_, ih⟩
    rcases List.mem_cons.1 hx with rfl | hx
    · exact h0
    · exact List.le_trans h0 ((List.pairwise_cons.1 ih).1 x hx)
theorem up_of {L : List Fl} (h : adjF L) (hn : (L.map pth).Nodup) : upF L = true := by
  unfold upF
  rw [decide_eq_true_eq]
  have h1 := adjF_pw L h
  have h2 : L.Pairwise fun f g => pth f ≠ pth g := List.pairwise_map.1 hn
  refine (h1.and h2).imp fun {f g} hh => ?_
  obtain ⟨ha, hb⟩ := hh
  rcases Decidable.em (pth f < pth g) with h | h
  · exact h
  · exact absurd (List.le_antisymm ha (List.not_lt.1 h)) hb
theorem up_pw {L : List Fl} (h : upF L = true) : L.Pairwise fun f g => pth f < pth g := of_decide_eq_true h
theorem up_nodup {L : List Fl} (h : upF L = true) : (L.map pth).Nodup :=
  List.pairwise_map.2 ((up_pw h).imp fun hh e => by rw [e] at hh; exact List.lt_irrefl _ hh)
theorem up_adj {L : List Fl} (h : upF L = true) : adjF L := fun j hj hlt => by
  have := List.pairwise_iff_getElem.1 (up_pw h) j (j + 1) (by omega) hj (by omega)
  exact List.lt_irrefl _ (List.lt_trans this hlt)

theorem snocInd {α : Type} {P : List α → Prop} (h0 : P []) (h1 : ∀ l a, P l → P (l ++ [a])) (l : List α) : P l := by
  rw [← List.reverse_reverse l]
  induction l.reverse with
  | nil => exact h0
  | cons a r ih => rw [List.reverse_cons]; exact h1 _ _ ih

/-- A file, as a map's datum. -/
def fD (f : Fl) : DataW Unit := .agg [.lit (.string (pth f)), .lit (.string f.tx.data.toList), .lit (.bool f.rn)]
/-- Files by their paths. -/
def byD (L : List Fl) : DataW Unit := L.foldl (fun D f => D.put (.string (pth f)) (fD f)) (.map [])
theorem byD_snoc (L : List Fl) (f : Fl) : byD (L ++ [f]) = (byD L).put (.string (pth f)) (fD f) := by simp [byD, List.foldl_append]
theorem byD_tidy (L : List Fl) : Tidy (byD L) := by
  refine snocInd (P := fun L => Tidy (byD L)) tidy_empty (fun l a ih => ?_) L
  rw [byD_snoc]
  exact ih.put (by exact trivial) _
theorem has_byD (L : List Fl) (k : List UInt8) : Maps.has (byD L) (.string k) = L.any (fun f => decide (pth f = k)) := by
  refine snocInd (P := fun L => Maps.has (byD L) (.string k) = L.any (fun f => decide (pth f = k))) rfl (fun l a ih => ?_) L
  rw [byD_snoc, List.any_append, ← ih]
  by_cases h : pth a = k
  · subst h
    rw [has_put_same (byD_tidy l).isMap (by exact trivial)]
    simp
  · rw [has_put_other (fun e => h (by injection e with e; exact e.symm))]
    simp [h]
theorem size_byD (L : List Fl) : Maps.size (byD L) ≤ L.length ∧ (Maps.size (byD L) = L.length ↔ (L.map pth).Nodup) := by
  refine snocInd (P := fun L => Maps.size (byD L) ≤ L.length ∧ (Maps.size (byD L) = L.length ↔ (L.map pth).Nodup)) ⟨Nat.le_refl _, by simp [byD, Maps.size]⟩ (fun l a ih => ?_) L
  rw [byD_snoc, size_put (byD_tidy l), has_byD, List.length_append, List.map_append]
  obtain ⟨h1, h2⟩ := ih
  have e1 : [a].length = 1 := rfl
  rw [e1]
  by_cases h : l.any (fun f => decide (pth f = pth a)) = true
  · rw [if_pos h]
    refine ⟨by omega, ⟨fun e => by omega, fun e => ?_⟩⟩
    exfalso
    obtain ⟨f, hf, he⟩ := List.any_eq_true.1 h
    rw [List.nodup_append] at e
    exact e.2.2 (pth f) (List.mem_map.2 ⟨f, hf, rfl⟩) (pth a) (by simp) (by simpa using he)
  · rw [if_neg h]
    refine ⟨by omega, ⟨fun e => ?_, fun e => ?_⟩⟩
    · rw [List.nodup_append]
      refine ⟨h2.1 (by omega), by simp, fun x hx y hy e => ?_⟩
      obtain ⟨f, hf, rfl⟩ := List.mem_map.1 hx
      have hy' : y = pth a := by simpa using hy
      exact h (List.any_eq_true.2 ⟨f, hf, by rw [e, hy']; simp⟩)
    · have := h2.2 (List.nodup_append.1 e).1
      omega
theorem at_byD {L : List Fl} (hn : (L.map pth).Nodup) {f : Fl} (hf : f ∈ L) (z : DataW Unit) : (byD L).atKey (.string (pth f)) z = fD f := by
  refine snocInd (P := fun L => (L.map pth).Nodup → f ∈ L → (byD L).atKey (.string (pth f)) z = fD f) (fun _ h => by cases h) (fun l a ih => ?_) L hn hf
  intro hn hf
  rw [byD_snoc]
  rw [List.map_append, List.nodup_append] at hn
  rcases List.mem_append.1 hf with h | h
  · have hne : pth f ≠ pth a := hn.2.2 _ (List.mem_map.2 ⟨f, h, rfl⟩) _ (by simp)
    rw [atKey_put_other (fun e => hne (by injection e))]
    exact ih hn.1 h
  · have e : f = a := by simpa using h
    subst e
    exact atKey_put_same (byD_tidy l).isMap (by exact trivial) _ _
theorem atNo_byD {L : List Fl} {k : List UInt8} (h : ∀ f ∈ L, pth f ≠ k) (z : DataW Unit) : (byD L).atKey (.string k) z = z := by
  refine atKey_of_not_has ?_ z
  rw [has_byD, List.any_eq_false]
  intro f hf
  simpa using h f hf

/-- Where a path's slash is, a file stands. -/
theorem inB_iff (p d : ByteArray) : inB p d = true ↔ ∃ i, i < p.size ∧ p.data.toList.getD i 0 = 47 ∧ d.data.toList = (p.extract 0 i).data.toList := by
  unfold inB
  rw [Bool.and_eq_true, Bool.and_eq_true, decide_eq_true_eq, decide_eq_true_eq, decide_eq_true_eq, Lib.toList_data, Lib.toList_data]
  constructor
  · rintro ⟨⟨h1, h2⟩, h3⟩
    exact ⟨d.size, h1, h2, h3.symm⟩
  · rintro ⟨i, h1, h2, h3⟩
    have h4 : d.size = i := by
      have := congrArg List.length h3
      rw [Array.length_toList, Array.length_toList] at this
      have e2 : (p.extract 0 i).data.size = i := by
        show (p.extract 0 i).size = i
        rw [ByteArray.size_extract]
        omega
      rw [e2] at this
      exact this
    rw [h4]
    exact ⟨⟨h1, h2⟩, h3.symm⟩
end Go.Proofs.YtcpomkgfcpfedaaGreatDoor
