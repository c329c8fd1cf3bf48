/- A cone and its users, plain: what the law on both asks. -/
import Derived.Test.YtankaiopdbcndaaGreatDoorTc7
namespace Go.Proofs.YtankaiopdbcndaaGreatDoor
open Go.RowKit Go.Shelf Go.Maps
/-- A cone that was told. -/
structure CoP (L : List Tg) (a : ByteArray) (o : List ByteArray) : Prop where
  ok : NmOk L
  mem : tl a ∈ L.map tnm
  q : ∃ ks, OrQ (nfL L) (CnS L a) ks o ∧ o.length = ks.length
theorem co_of {L : List Tg} {a : ByteArray} {o : List ByteArray} (h : LsA (ckW L a) (nfL L) (CnS L a) o 0) : CoP L a o := by
  rcases h with ⟨h0, _, h1⟩ | ⟨h0, ks, q, hq, ⟨_, _, h2⟩ | ⟨h2, h3, _⟩⟩
  · exact absurd h1.symm h0
  · cases h2
  · obtain ⟨h4, h5⟩ := ckW_ok.1 h0
    subst h3
    exact ⟨h4, h5, ks, hq, h2⟩
theorem mem_tl {x : ByteArray} {l : List ByteArray} : tl x ∈ l.map tl ↔ x ∈ l := by
  rw [List.mem_map]
  exact ⟨fun ⟨y, h1, h2⟩ => by rw [← tl_ext h2]; exact h1, fun h => ⟨x, h, rfl⟩⟩
section
variable {L : List Tg} {a : ByteArray} {o : List ByteArray}
theorem CoP.iff (h : CoP L a o) (b : ByteArray) : b ∈ o ↔ CnS L a (tl b) := by
  obtain ⟨ks, hq, hl⟩ := h.q
  rw [← mem_tl, ← hq.mem]
  exact ⟨fun hb => hq.kn.sub _ hb, fun hb => all_out hq.kn.nodup hq.kn.sub (by simpa using hl) _ hb⟩
theorem CoP.self (h : CoP L a o) : a ∈ o := (h.iff a).2 (Rs.base rfl)
theorem CoP.pos (h : CoP L a o) : 0 < o.length := List.length_pos_of_mem h.self
theorem CoP.last (h : CoP L a o) : o[o.length - 1]'(by have := h.pos; omega) = a := by
  obtain ⟨ks, hq, hl⟩ := h.q
  have hp := h.pos
  have := hq.kn.last (a := tl a) (mem_tl.2 h.self) (fun k hk => by
    obtain ⟨x, hx, rfl⟩ := List.mem_map.1 hk
    exact (h.iff x).1 hx) (by simpa using hp)
  refine tl_ext ?_
  rw [← this]
  simp
theorem CoP.need (h : CoP L a o) (i : Nat) (hi : i < o.length) : ∃ j, ∃ (hj : j < L.length), tgI L (tl o[i]) = (j : Int) ∧ ∀ y ∈ L[j].ns, y ∈ o.take i := by
  obtain ⟨ks, hq, hl⟩ := h.q
  have hm : tl o[i] ∈ L.map tnm := cn_in (ckW_ok.2 ⟨h.ok, h.mem⟩) _ ((h.iff _).1 (List.getElem_mem hi))
  rcases tgI_cases L (tl o[i]) with ⟨_, h2⟩ | ⟨j, hj, h1, h2, _⟩
  · exact absurd hm h2
  · refine ⟨j, hj, h1, fun y hy => ?_⟩
    have s := hq.kn i (by simpa using hi)
    have e1 : (o.map tl)[i]'(by simpa using hi) = tl o[i] := by simp
    have e2 : (o.map tl).take i = (o.take i).map tl := by rw [List.map_take]
    rw [e1, e2] at s
    have := s.rdy (tl y) (by
      unfold ndT
      rw [← h2, nfL_of h.ok.nod (List.getElem_mem hj)]
      exact List.mem_map.2 ⟨y, hy, rfl⟩)
    exact mem_tl.1 this
theorem CoP.noLoop (h : CoP L a o) : ¬ Rp (ndT (nfL L)) (tl a) (tl a) := by
  obtain ⟨ks, hq, hl⟩ := h.q
  exact hq.kn.noLoop (mem_tl.2 h.self)
theorem CoP.both (h : CoP L a o) {b : ByteArray} (hne : a ≠ b) {u : List ByteArray} (hu : ∀ k, k ∈ u.map tl ↔ UsT L b k) : b ∈ o ↔ a ∈ u := by
  rw [h.iff, ← mem_tl, hu]
  constructor
  · intro hb
    rcases Rs.split hb with e | e
    · exact absurd (tl_ext e).symm hne
    · exact ⟨h.mem, e⟩
  · rintro ⟨_, hb⟩
    exact Rs.join (.inr hb)
theorem CoP.depth (h : CoP L a o) {n c : Int} (hd : DpA (ckW L a) (nfL L) (CnS L a) (tl a) n c) : c = 0 ∧ n < (o.length : Int) := by
  obtain ⟨ks, hq, hl⟩ := h.q
  obtain ⟨e1, e2⟩ := hd.uniq (.inr ⟨ckW_ok.2 ⟨h.ok, h.mem⟩, ks, o, hq, .inr ⟨hl, rfl, rfl⟩⟩) (fun _ _ => Iff.rfl) (fun _ _ _ => rfl)
  exact ⟨e2, by rw [e1]; exact dpF_lt hq.kn h.pos _⟩
theorem CoP.users (h : CoP L a o) {b : ByteArray} {u : List ByteArray} {c : Int} (hu : UsA (ckW L b) (UsT L b) u c) : (c = 5 ∧ u = []) ∨ (c = 0 ∧ ∀ k, k ∈ u.map tl ↔ UsT L b k) := by
  rcases hu with ⟨h0, h1, h2⟩ | ⟨_, h1, _, h2⟩
  · left
    refine ⟨?_, h1⟩
    rw [h2]
    unfold ckW at h0 ⊢
    rw [ckN_ok.2 h.ok] at h0 ⊢
    rw [if_neg (by simp)] at h0 ⊢
    split
    · rename_i h3; rw [if_pos h3] at h0; exact absurd rfl h0
    · rfl
  · exact .inr ⟨h1, h2⟩
end
theorem TxIn.cut {w : World} {ao : Option Addr} {n c : Nat} {l : List ByteArray} (h : TxIn w (.slice ao n c) l) (i : Nat) (hi : i ≤ l.length) : TxIn w (.slice ao i c) (l.take i) := by
  obtain ⟨_, h2, ao2, c2, e, h4⟩ := h
  injection e with e1 _ e3
  subst e1 e3
  have hl : (l.take i).length = i := by rw [List.length_take]; omega
  refine ⟨⟨_, _, _, rfl⟩, by omega, ao, c, by rw [hl], ?_⟩
  rcases h4 with h4 | ⟨g, o, e, hg, hc⟩
  · left; rw [h4]; simp
  · refine .inr ⟨g, o, e, hg, fun j hj => ?_⟩
    rw [hl] at hj
    rw [List.getElem_take]
    exact hc j (by omega)
end Go.Proofs.YtankaiopdbcndaaGreatDoor
