/- The store's list and the document's: both tell the same. -/
import Derived.Test.YtoceglbdnbnjpaaDoorCpYM
import Derived.Test.YtoceglbdnbnjpaaDoorTq6
namespace Go.Proofs.YtoceglbdnbnjpaaDoor

theorem kus_prsF : ∀ (E : List Ent), kus false (prs E) = byE E
  | [] => rfl
  | e :: r => by
    have ih := kus_prsF r
    show kus false ((e.tx, e.pins) :: prs r) = _
    rw [kus_cons, ih, if_neg (by simp)]
    simp [byE]
theorem kus_prsT : ∀ (E : List Ent), kus true (prs E) = piE E
  | [] => rfl
  | e :: r => by
    have ih := kus_prsT r
    show kus true ((e.tx, e.pins) :: prs r) = _
    rw [kus_cons, ih]
    by_cases h : e.pins = 0
    · simp [piE, h]
    · simp [piE, h]
theorem prs_del : ∀ (E : List Ent), prs (delF E) = kdel (prs E)
  | [] => rfl
  | e :: r => by
    have ih := prs_del r
    show prs (if e.pins = 0 then r else e :: delF r) = (if e.pins = 0 then prs r else (e.tx, e.pins) :: kdel (prs r))
    split
    · rfl
    · rw [← ih]
      rfl
theorem prs_gon (rm n : Nat) : ∀ (f : Nat) (E : List Ent), prs (gonF rm n f E) = kgon rm n f (prs E)
  | 0, _ => rfl
  | f + 1, E => by
    show prs (if byE E + n ≤ rm then E else gonF rm n f (delF E)) = (if kus false (prs E) + n ≤ rm then prs E else kgon rm n f (kdel (prs E)))
    rw [kus_prsF]
    split
    · rfl
    · rw [prs_gon rm n f (delF E), prs_del]
theorem prs_len (E : List Ent) : (prs E).length = E.length := List.length_map ..
theorem prs_app (E F : List Ent) : prs (E ++ F) = prs E ++ prs F := List.map_append
/-- One that was used is the last one. -/
theorem prs_use (E1 E2 : List Ent) (e : Ent) (tn : Nat) : prs (usE E1 E2 e tn) = kcut (prs (E1 ++ e :: E2)) E1.length ++ [(e.tx, e.pins)] := by
  unfold usE kcut
  rw [prs_app, prs_app, prs_app]
  have h1 : (prs E1).length = E1.length := prs_len E1
  congr 1
  rw [List.take_append_of_le_length (by omega), List.take_of_length_le (by omega), List.drop_append, List.drop_of_length_le (by omega), List.nil_append, h1]
  have h2 : E1.length + 1 - E1.length = 1 := by omega
  rw [h2]
  rfl
end Go.Proofs.YtoceglbdnbnjpaaDoor
