/- Circles, plain: a way on which one comes back; what was left leads to none. -/
import Derived.Test.YtankaiopdbcndaaGreatDoorGq2M
import Derived.Test.YtankaiopdbcndaaGreatDoorTc7
namespace Go.Proofs.YtankaiopdbcndaaGreatDoor
open Go.RowKit Go.Shelf Go.Maps
/-- Names, each with a link to the next one, the last one to the first one. -/
structure Cyc (nd : List UInt8 → List (List UInt8)) (c : List (List UInt8)) : Prop where
  ne : 0 < c.length
  nod : c.Nodup
  nx : ∀ i (hi : i < c.length), c[(i + 1) % c.length]'(Nat.mod_lt _ ne) ∈ nd c[i]
theorem Cyc.loop {nd : List UInt8 → List (List UInt8)} {c : List (List UInt8)} (h : Cyc nd c) : Rp nd (c[0]'h.ne) (c[0]'h.ne) := by
  have key : ∀ k (hk : k < c.length), c[k] = c[0]'h.ne ∨ Rp nd (c[0]'h.ne) c[k] := fun k hk => by
    induction k with
    | zero => exact .inl rfl
    | succ k ih =>
      have h1 := h.nx k (by omega)
      have e : (k + 1) % c.length = k + 1 := Nat.mod_eq_of_lt hk
      simp only [e] at h1
      rcases ih (by omega) with e2 | e2
      · rw [e2] at h1; exact .inr (Rs.base h1)
      · exact .inr (Rs.step e2 h1)
  have hp := h.ne
  have h1 := h.nx (c.length - 1) (by omega)
  have e : (c.length - 1 + 1) % c.length = 0 := by rw [Nat.sub_add_cancel hp, Nat.mod_self]
  simp only [e] at h1
  rcases key (c.length - 1) (by omega) with e2 | e2
  · rw [e2] at h1; exact Rs.base h1
  · exact Rs.step e2 h1
/-- While one walks: P is the way, F are left. -/
structure CI (nd : List UInt8 → List (List UInt8)) (U P F : List (List UInt8)) : Prop where
  pth : ∀ i (hi : i + 1 < P.length), P[i + 1] ∈ nd P[i]
  nodP : P.Nodup
  nodF : F.Nodup
  fin : ∀ k ∈ F, ∀ y ∈ nd k, y ∈ F
  acy : ∀ k ∈ F, ¬ Rp nd k k
  dis : ∀ k ∈ P, k ∉ F
  subP : ∀ k ∈ P, k ∈ U
  subF : ∀ k ∈ F, k ∈ U
section
variable {nd : List UInt8 → List (List UInt8)} {U P F : List (List UInt8)}
theorem CI.nil : CI nd U [] [] := ⟨fun i hi => by simp at hi, List.nodup_nil, List.nodup_nil, (fun k hk => by cases hk), (fun k hk => by cases hk), (fun k hk => by cases hk), (fun k hk => by cases hk), (fun k hk => by cases hk)⟩
theorem CI.len (h : CI nd U P F) : P.length + F.length ≤ U.length := by
  have := (List.nodup_append.2 ⟨h.nodP, h.nodF, fun a ha b hb e => h.dis a ha (e ▸ hb)⟩).length_le_of_subset (l₂ := U) fun k hk => (List.mem_append.1 hk).elim (h.subP k) (h.subF k)
  simpa using this
/-- One more on the way. -/
theorem CI.push (h : CI nd U P F) {x : List UInt8} (hl : P ≠ [] → ∃ (hp : 0 < P.length), x ∈ nd P[P.length - 1]) (hx : x ∉ P) (hxF : x ∉ F) (hU : x ∈ U) : CI nd U (P ++ [x]) F := by
  refine ⟨fun i hi => ?_, ?_, h.nodF, h.fin, h.acy, fun k hk => ?_, fun k hk => ?_, h.subF⟩
  · have hi2 : i + 1 < P.length + 1 := by simpa using hi
    by_cases hlt : i + 1 < P.length
    · rw [List.getElem_append_left hlt, List.getElem_append_left (by omega)]
      exact h.pth i hlt
    · have e : i + 1 = P.length := by omega
      obtain ⟨hp, hl2⟩ := hl (fun e2 => by rw [e2] at e; simp at e)
      have e2 : (P ++ [x])[i + 1] = x := by
        rw [List.getElem_append_right (by omega)]
        simp [e]
      rw [e2, List.getElem_append_left (by omega)]
      have e3 : P[i] = P[P.length - 1] := by congr 1; omega
      rw [e3]
      exact hl2
  · rw [List.nodup_append]
    exact ⟨h.nodP, by simp, fun a ha b hb e => hx (by rw [← List.mem_singleton.1 hb, ← e]; exact ha)⟩
  · rcases List.mem_append.1 hk with e | e
    · exact h.dis k e
    · rw [List.mem_singleton.1 e]; exact hxF
  · rcases List.mem_append.1 hk with e | e
    · exact h.subP k e
    · rw [List.mem_singleton.1 e]; exact hU
/-- The last one on the way is left. -/
theorem CI.pop {x : List UInt8} (h : CI nd U (P ++ [x]) F) (hn : ∀ y ∈ nd x, y ∈ F) : CI nd U P (x :: F) := by
  have hxF : x ∉ F := h.dis x (by simp)
  have hxU : x ∈ U := h.subP x (by simp)
  have hnP := List.nodup_append.1 h.nodP
  refine ⟨fun i hi => ?_, hnP.1, List.nodup_cons.2 ⟨hxF, h.nodF⟩, fun k hk y hy => ?_, fun k hk hr => ?_, fun k hk hm => ?_, fun k hk => h.subP k (List.mem_append_left _ hk), fun k hk => ?_⟩
  · have := h.pth i (by simp; omega)
    rw [List.getElem_append_left hi, List.getElem_append_left (by omega)] at this
    exact this
  · rcases List.mem_cons.1 hk with rfl | hk
    · exact List.mem_cons_of_mem _ (hn y hy)
    · exact List.mem_cons_of_mem _ (h.fin k hk y hy)
  · have hin : ∀ a, (∀ y ∈ nd a, y ∈ F) → ∀ b, Rp nd a b → b ∈ F := fun a ha b hb => hb (fun b => b ∈ F) ha h.fin
    rcases List.mem_cons.1 hk with rfl | hk
    · exact hxF (hin _ hn _ hr)
    · exact h.acy k hk hr
  · rcases List.mem_cons.1 hm with rfl | hm
    · exact hnP.2.2 k hk k (by simp) rfl
    · exact h.dis k (List.mem_append_left _ hk) hm
  · rcases List.mem_cons.1 hk with rfl | hk
    · exact hxU
    · exact h.subF k hk
/-- One comes back: from there on the way is a circle. -/
theorem CI.cyc (h : CI nd U P F) {j : Nat} (hj : j < P.length) (hl : P[j] ∈ nd (P[P.length - 1]'(by omega))) : Cyc nd (P.drop j) := by
  have hp : 0 < (P.drop j).length := by rw [List.length_drop]; omega
  refine ⟨hp, h.nodP.sublist (List.drop_sublist _ _), fun i hi => ?_⟩
  have hlen : (P.drop j).length = P.length - j := List.length_drop
  have hi2 : i < P.length - j := by omega
  by_cases hlt : i + 1 < P.length - j
  · have e : (i + 1) % (P.drop j).length = i + 1 := Nat.mod_eq_of_lt (by omega)
    simp only [e, List.getElem_drop]
    exact h.pth (j + i) (by omega)
  · have e : (i + 1) % (P.drop j).length = 0 := by rw [show i + 1 = (P.drop j).length by omega, Nat.mod_self]
    simp only [e, List.getElem_drop, Nat.add_zero]
    have e3 : P[j + i] = P[P.length - 1]'(by omega) := by congr 1; omega
    rw [e3]
    exact hl
end
end Go.Proofs.YtankaiopdbcndaaGreatDoor
