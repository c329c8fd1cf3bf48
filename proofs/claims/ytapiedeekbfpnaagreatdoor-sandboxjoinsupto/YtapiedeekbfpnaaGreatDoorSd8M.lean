/- A file taken out of files that rise, plain. -/
import Derived.Test.YtapiedeekbfpnaaGreatDoorSd7M
namespace Go.Proofs.YtapiedeekbfpnaaGreatDoor
open Go.RowKit Go.Shelf Go.Maps Go.WideMaps Go.Sort

theorem rise_nodup {A : List Fl} (h : A.Pairwise fun f g => pth f < pth g) : A.Nodup := h.imp fun hh e => by rw [e] at hh; exact List.lt_irrefl _ hh
theorem rise_ext {A B : List Fl} (hA : A.Pairwise fun f g => pth f < pth g) (hB : B.Pairwise fun f g => pth f < pth g) (h : ∀ x, x ∈ A ↔ x ∈ B) : A = B :=
  sort_files_uniq hB ((List.perm_ext_iff_of_nodup (rise_nodup hA) (rise_nodup hB)).2 h) (hA.imp fun hh => List.le_of_lt hh)
/-- All but the file of a path. -/
def butF (p : List UInt8) (L : List Fl) : List Fl := L.filter fun f => !decide (pth f = p)
theorem era_but {L : List Fl} (hu : L.Pairwise fun f g => pth f < pth g) {p : List UInt8} {j : Nat} (hj : j < L.length) (hp : pth L[j] = p) : L.eraseIdx j = butF p L := by
  refine rise_ext (hu.sublist (List.eraseIdx_sublist L j)) (hu.sublist List.filter_sublist) fun x => ?_
  unfold butF
  rw [List.mem_eraseIdx_iff_getElem, List.mem_filter]
  constructor
  · rintro ⟨i, hi, hne, rfl⟩
    refine ⟨List.getElem_mem hi, ?_⟩
    simp only [Bool.not_eq_true', decide_eq_false_iff_not]
    intro e
    rw [← hp] at e
    rcases Nat.lt_or_gt_of_ne hne with h | h
    · have := List.pairwise_iff_getElem.1 hu i j hi hj h
      rw [e] at this
      exact List.lt_irrefl _ this
    · have := List.pairwise_iff_getElem.1 hu j i hj hi h
      rw [e] at this
      exact List.lt_irrefl _ this
  · rintro ⟨hx, hb⟩
    obtain ⟨i, hi, rfl⟩ := List.getElem_of_mem hx
    refine ⟨i, hi, fun e => ?_, rfl⟩
    subst e
    rw [hp] at hb
    simp at hb
theorem but_put {X : List Fl} (hu : X.Pairwise fun f g => pth f < pth g) (f : Fl) : butF (pth f) (putF X f) = butF (pth f) X := by
  refine rise_ext ((putF_up X f hu).sublist List.filter_sublist) (hu.sublist List.filter_sublist) fun x => ?_
  unfold butF
  rw [List.mem_filter, List.mem_filter, putF_mem]
  constructor
  · rintro ⟨rfl | ⟨h, _⟩, hb⟩
    · simp at hb
    · exact ⟨h, hb⟩
  · rintro ⟨h, hb⟩
    refine ⟨.inr ⟨h, ?_⟩, hb⟩
    simpa using hb
theorem but_none {X : List Fl} {p : List UInt8} (h : ∀ f ∈ X, pth f ≠ p) : butF p X = X := by
  unfold butF
  rw [List.filter_eq_self]
  intro f hf
  simpa using h f hf
end Go.Proofs.YtapiedeekbfpnaaGreatDoor
