/- What adding a text to others leans on. -/
import Derived.Test.YtankaiopdbcndaaGreatDoorTc7
import Derived.ArgAppend
namespace Go.Proofs.YtankaiopdbcndaaGreatDoor
open Go.RowKit Go.Shelf Go.Maps
/-- A name among others that rise. -/
def insN (n : List UInt8) : List (List UInt8) → List (List UInt8)
  | [] => [n]
  | m :: r => if n = m then m :: r else if n < m then n :: m :: r else m :: insN n r
theorem insN_mem (n x : List UInt8) : ∀ l : List (List UInt8), x ∈ insN n l ↔ x = n ∨ x ∈ l
  | [] => by simp [insN]
  | m :: r => by
    unfold insN
    by_cases h : n = m
    · rw [if_pos h]
      subst h
      simp
    · rw [if_neg h]
      by_cases h2 : n < m
      · rw [if_pos h2]
        simp
      · rw [if_neg h2, List.mem_cons, insN_mem n x r, List.mem_cons]
        constructor
        · rintro (h | h | h)
          · exact .inr (.inl h)
          · exact .inl h
          · exact .inr (.inr h)
        · rintro (h | h | h)
          · exact .inr (.inl h)
          · exact .inl h
          · exact .inr (.inr h)
theorem insN_up (n : List UInt8) : ∀ l : List (List UInt8), l.Pairwise (· < ·) → (insN n l).Pairwise (· < ·)
  | [], _ => by simp [insN]
  | m :: r, h => by
    rw [List.pairwise_cons] at h
    unfold insN
    by_cases h1 : n = m
    · rw [if_pos h1]
      exact List.pairwise_cons.2 h
    · rw [if_neg h1]
      by_cases h2 : n < m
      · rw [if_pos h2, List.pairwise_cons, List.pairwise_cons]
        refine ⟨fun x hx => ?_, h⟩
        rcases List.mem_cons.1 hx with rfl | hx
        · exact h2
        · exact List.lt_trans h2 (h.1 x hx)
      · rw [if_neg h2, List.pairwise_cons]
        refine ⟨fun x hx => ?_, insN_up n r h.2⟩
        rcases (insN_mem n x r).1 hx with rfl | hx
        · rcases Decidable.em (m < x) with h3 | h3
          · exact h3
          · exact absurd (List.le_antisymm (List.not_lt.1 h3) (List.not_lt.1 h2)) h1
        · exact h.1 x hx
theorem info_parts {i : Option TypeInfo} {z : Value} {s b : Nat} (h : i.map (fun i => (i.zero, i.size, i.bytes)) = some (some z, s, b)) : ∃ i0, i = some i0 ∧ i0.zero = some z ∧ i0.size = s ∧ i0.bytes = b := infoG h
theorem infTx : (Tryz.prog.info? 9).map (fun i => (i.zero, i.size, i.bytes)) = some (some (.string ⟨#[]⟩), 1, 16) := by kernel_rfl
theorem add0 (g j : Nat) : (⟨g, 0, none⟩ : Addr).add j = ⟨g, j, none⟩ := by
  unfold Addr.add
  split <;> simp_all
def appS (ats : Array TypeId) (ty : TypeId) (args : Array Value) : Sem Value := Builtin.append_ ats ty args
theorem appS_eq (ats : Array TypeId) (ty : TypeId) (args : Array Value) : Builtin.append_ ats ty args = appS ats ty args := rfl
end Go.Proofs.YtankaiopdbcndaaGreatDoor
