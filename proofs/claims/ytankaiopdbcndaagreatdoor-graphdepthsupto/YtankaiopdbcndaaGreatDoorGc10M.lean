/- Who is in a cone, by names. -/
import Derived.Test.YtankaiopdbcndaaGreatDoorGc9M
namespace Go.Proofs.YtankaiopdbcndaaGreatDoor
open Go.RowKit Go.Shelf
theorem ksH_cone {L : List Tg} {x : ByteArray} {h : Nat → Bool} {a : Nat} (hN : NmOk L) (hx : tl x ∈ L.map tnm) (ha : a < L.length) (hax : tnm L[a] = tl x) (hh : ∀ j, j < L.length → (h j = true ↔ j = a ∨ Pk (edg L) L.length a j)) (k : List UInt8) : k ∈ ksH L h ↔ CnS L x k := by
  rw [ksH_mem]
  constructor
  · rintro ⟨i, hi, h1, e⟩
    subst e
    rcases (hh i hi).1 h1 with e | p
    · subst e
      rw [hax]
      exact Rs.base rfl
    · have := pk_rp hN _ (Nat.le_refl _) a i ha hi p
      rw [hax] at this
      exact Rs.join (.inr this)
  · intro hk
    obtain ⟨t, ht, e⟩ := List.mem_map.1 (cn_in (ckW_ok.2 ⟨hN, hx⟩) k hk)
    obtain ⟨i, hi, rfl⟩ := List.mem_iff_getElem.1 ht
    refine ⟨i, hi, (hh i hi).2 ?_, e⟩
    rcases Rs.split hk with e2 | e2
    · exact .inl (nm_inj hN hi ha (by rw [e, e2, hax]))
    · rw [← hax, ← e] at e2
      exact .inr (rp_pk hN ha hi e2)
theorem cn_cl {L : List Tg} {x : ByteArray} : ∀ k, CnS L x k → ∀ y ∈ ndT (nfL L) k, CnS L x y := fun _ hk _ hy => Rs.step hk hy
end Go.Proofs.YtankaiopdbcndaaGreatDoor
