/- A book of leases: a job is lent; beats, and what is done. -/
import Derived.Test.YtocahjnibdgmoaaLeL
namespace Go.Proofs.Ytocahjnibdgmoaa
open Go.RowKit Go.Shelf Go.Maps Go.WideMaps Go.Sort

/-- A job, plain. -/
structure Pj where
  nm : List UInt8
  dn : Bool
  tr : Nat
  ts : List (Int × Int)
def pl (e : Ent) : Pj := ⟨e.nm, e.dn, e.tr, e.ts⟩
def cutP (nw : Int) (p : Pj) : Pj := { p with ts := p.ts.filter fun q => decide (nw ≤ q.2) }
def freesP (nw : Int) (p : Pj) : Bool := decide (0 < p.ts.length) && decide ((p.ts.filter fun q => decide (nw ≤ q.2)).length = 0)
def tellP (nw now : Int) (nb : Bool) (P : List Pj) : List Pj := if tellE nw now nb = 0 then P.map (cutP now) else P
def fndP (P : List Pj) (s : List UInt8) : Option Pj := P.find? fun p => p.nm == s
def setP (P : List Pj) (s : List UInt8) (f : Pj → Pj) : List Pj := P.map fun p => if p.nm = s then f p else p
theorem pl_tell (nw now : Int) (nb : Bool) (E : List Ent) : (tellB nw now nb E).map pl = tellP nw now nb (E.map pl) := by
  unfold tellB tellP
  split
  · rw [List.map_map, List.map_map]
    rfl
  · rfl
theorem pl_set {E1 E2 : List Ent} {x x' : Ent} (hpw : (E1 ++ x :: E2).Pairwise (fun x y => x.nm ≠ y.nm)) (f : Pj → Pj) (hx : pl x' = f (pl x)) : (E1 ++ x' :: E2).map pl = setP ((E1 ++ x :: E2).map pl) x.nm f := by
  rw [List.pairwise_append, List.pairwise_cons] at hpw
  obtain ⟨h1, ⟨h2, h3⟩, h4⟩ := hpw
  have ho : ∀ L : List Ent, (∀ y ∈ L, y.nm ≠ x.nm) → setP (L.map pl) x.nm f = L.map pl := fun L hL => by
    unfold setP
    rw [List.map_map]
    refine List.map_congr_left fun y hy => ?_
    show (if (pl y).nm = x.nm then f (pl y) else pl y) = pl y
    rw [if_neg (show ¬ (pl y).nm = x.nm from hL y hy)]
  have hm : ∀ a b : List Pj, setP (a ++ b) x.nm f = setP a x.nm f ++ setP b x.nm f := fun a b => by unfold setP; rw [List.map_append]
  rw [List.map_append, List.map_append, hm, ho E1 (fun y hy => h4 y hy x (by simp)), List.map_cons, List.map_cons]
  congr 1
  show _ = (if (pl x).nm = x.nm then f (pl x) else pl x) :: setP (E2.map pl) x.nm f
  rw [if_pos (show (pl x).nm = x.nm from rfl), ho E2 (fun y hy => (h2 y hy).symm), hx]
theorem fnd_some {E : List Ent} {x : Ent} (hpw : E.Pairwise (fun x y => x.nm ≠ y.nm)) (hx : x ∈ E) : fndP (E.map pl) x.nm = some (pl x) := by
  induction E with
  | nil => cases hx
  | cons y r ih =>
    rw [List.pairwise_cons] at hpw
    unfold fndP
    rw [List.map_cons, List.find?_cons]
    by_cases e : y.nm = x.nm
    · rw [show ((pl y).nm == x.nm) = true from beq_iff_eq.2 e]
      rcases List.mem_cons.1 hx with rfl | hx
      · rfl
      · exact absurd e (hpw.1 x hx)
    · rw [show ((pl y).nm == x.nm) = false from beq_eq_false_iff_ne.2 e]
      rcases List.mem_cons.1 hx with rfl | hx
      · exact absurd rfl e
      · exact ih hpw.2 hx
theorem fnd_none {E : List Ent} {s : List UInt8} (hn : ∀ x ∈ E, x.nm ≠ s) : fndP (E.map pl) s = none := by
  unfold fndP
  rw [List.find?_eq_none]
  intro p hp
  obtain ⟨x, hx, rfl⟩ := List.mem_map.1 hp
  simp only [beq_iff_eq]
  exact hn x hx
theorem fnd_or (E : List Ent) (s : List UInt8) : (∃ E1 x E2, E = E1 ++ x :: E2 ∧ x.nm = s) ∨ ∀ x ∈ E, x.nm ≠ s := by
  by_cases h : ∃ x ∈ E, x.nm = s
  · obtain ⟨x, hx, hn⟩ := h
    obtain ⟨E1, E2, rfl⟩ := List.append_of_mem hx
    exact .inl ⟨E1, x, E2, rfl, hn⟩
  · exact .inr fun x hx e => h ⟨x, hx, e⟩

theorem Upd.ids {I I' : List Nat} {w w' : World} {row : Option Nat} (h : w.grownBy w' row) (hr : ∀ j, row = some j → j ∈ I) (hn : ∀ g ∈ I', g ∈ I ∨ w.heap.size ≤ g) : Upd I I' w w' :=
  ⟨h.os, h.tape, h.output, h.size, fun g hg hn => h.block g hg fun e => hn (hr g e.symm), hn⟩

section
variable {B Bk M : Nat} {a b c nw : Int} {E E1 E2 : List Ent} {x : Ent} {w : World}

theorem BS.eids_nd (h : BS B Bk M a b c nw (E1 ++ x :: E2) w) : (eids x).Nodup := by
  have hap := h.apart
  rw [bids_mid, List.nodup_append, List.nodup_append] at hap
  exact hap.2.1.1

theorem lend_any (h : BS B Bk M a b c nw (E1 ++ x :: E2) w) (hs : x.ts.length ≤ 1000000) (k t : Int) (hk : (Lit.int .i64 k).wf = true) (ht : (Lit.int .i64 t).wf = true) :
    Calls Try.prog 33 #[.pointer (some ⟨x.blk, 0, none⟩), .int .i64 k, .int .i64 t] w fun e w' => e = .returned (.tuple #[]) ∧ ∃ x' : Ent, pl x' = { pl x with ts := insT (k, t) (offT k x.ts) } ∧ x'.nm = x.nm ∧ BS B Bk M a b c nw (E1 ++ x' :: E2) w' ∧ Upd (bids Bk M (E1 ++ x :: E2)) (bids Bk M (E1 ++ x' :: E2)) w w' := by
  have hj := h.jobs x (by simp)
  have hin : ∀ g ∈ eids x, g ∈ bids Bk M (E1 ++ x :: E2) := fun g hg => mem_bids (by simp) hg
  rcases hj.till with ⟨h1, h2⟩ | ⟨tb, h1, h2, h3⟩
  · have hb := hj.blk
    rw [h1] at hb
    refine (llend_new hb k t hk ht).mono ?_
    rintro e w' ⟨rfl, r1, r2, r3⟩
    have hlt := (hj.lt x.blk (by simp [eids])).2
    have h5 : ((DataW.map []).put (.int .i64 k) (.lit (.int .i64 t)) : DataW Unit) = .map ((insT (k, t) (offT k x.ts)).map tD) := by rw [h2]; exact put_D k t []
    rw [h5] at r2
    have hbs : BS B Bk M a b c nw (E1 ++ (⟨x.nm, x.blk, some w.heap.size, x.dn, x.tr, insT (k, t) (offT k x.ts)⟩ : Ent) :: E2) w' := by
      refine h.setEnt rfl rfl ?_ ?_ ⟨hj.lo, r1, .inr ⟨w.heap.size, rfl, by have := (h.lt Bk (by simp [bids])); omega, ?_⟩⟩ ?_
      · show List.Nodup [x.blk, w.heap.size]
        simp
        omega
      · intro g hg
        have : g = x.blk ∨ g = w.heap.size := by simpa [eids] using hg
        rcases this with rfl | rfl
        · exact .inl (by simp [eids])
        · exact .inr (Nat.le_refl _)
      · have := norm_own r2
        rw [size_D] at this
        exact this
      · intro g hgl hgn
        exact r3.block g hgl fun e1 => hgn (by injection e1 with e1; simp [eids, e1])
    refine ⟨rfl, (⟨x.nm, x.blk, some w.heap.size, x.dn, x.tr, insT (k, t) (offT k x.ts)⟩ : Ent), rfl, rfl, hbs, Upd.ids r3 (fun j hj => by injection hj with hj; subst hj; exact hin _ (by simp [eids])) ?_⟩
    intro g hg
    rw [bids_mid] at hg ⊢
    rcases List.mem_append.1 hg with hg | hg
    · exact .inl (List.mem_append_left _ hg)
    · rcases List.mem_append.1 hg with hg | hg
      · have : g = x.blk ∨ g = w.heap.size := by simpa [eids] using hg
        rcases this with rfl | rfl
        · exact .inl (List.mem_append_right _ (List.mem_append_left _ (by simp [eids])))
        · exact .inr (Nat.le_refl _)
      · exact .inl (List.mem_append_right _ (List.mem_append_right _ hg))
  · have hb := hj.blk
    rw [h1] at hb
    have hnd := h.eids_nd
    have hne : x.blk ≠ tb := fun e => by
      rw [eids, h1] at hnd
      simp [e] at hnd
    refine (llend_old hb h3 (by unfold maxLen; omega) k t hk ht).mono ?_
    rintro e w' ⟨rfl, r2, r3⟩
    rw [put_D] at r2
    have hbs : BS B Bk M a b c nw (E1 ++ (⟨x.nm, x.blk, some tb, x.dn, x.tr, insT (k, t) (offT k x.ts)⟩ : Ent) :: E2) w' := by
      refine h.setEnt rfl rfl ?_ ?_ ⟨hj.lo, (r3.block x.blk (hj.lt _ (by simp [eids])).2 (by simp; exact hne)).trans hb, .inr ⟨tb, rfl, h2, ?_⟩⟩ ?_
      · rw [eids, h1] at hnd; exact hnd
      · intro g hg
        left
        rw [eids, h1]
        exact hg
      · have := norm_own r2
        rw [size_D] at this
        exact this
      · intro g hgl hgn
        exact r3.block g hgl fun e1 => hgn (by injection e1 with e1; simp [eids, h1, e1])
    refine ⟨rfl, (⟨x.nm, x.blk, some tb, x.dn, x.tr, insT (k, t) (offT k x.ts)⟩ : Ent), rfl, rfl, hbs, Upd.ids r3 (fun j hj => by injection hj with hj; subst hj; exact hin _ (by simp [eids, h1])) ?_⟩
    intro g hg
    left
    rw [bids_mid] at hg ⊢
    rw [show eids x = x.blk :: [tb] from by rw [eids, h1]; rfl]
    exact hg
end
end Go.Proofs.Ytocahjnibdgmoaa
