/- Orders, plain: each behind those that it needs; no circle; how deep. -/
import Derived.Laws.MakeOwn
import Derived.Test.YtankaiopdbcndaaGreatDoorTc5
namespace Go.Proofs.YtankaiopdbcndaaGreatDoor
section
variable {α : Type}
theorem Kn.nodup {ks : List α} {nd : α → List α} {lt : α → α → Bool} {out : List α} (h : Kn ks nd lt out) : out.Nodup := by
  rw [List.nodup_iff_pairwise_ne, List.pairwise_iff_getElem]
  intro i j hi hj hij e
  refine (h j hj).new ?_
  rw [← e]
  exact List.mem_take_iff_getElem.2 ⟨i, by omega, rfl⟩
theorem all_out {ks out : List α} (ho : out.Nodup) (hs : ∀ k ∈ out, k ∈ ks) (hl : out.length = ks.length) : ∀ k ∈ ks, k ∈ out := fun k hk2 => by
  apply Classical.byContradiction
  intro hn
  have := (List.nodup_cons.2 ⟨hn, ho⟩).length_le_of_subset (l₂ := ks) fun j hj => by
    rcases List.mem_cons.1 hj with rfl | hj
    · exact hk2
    · exact hs j hj
  simp at this
  omega
/-- Whom one comes to from one of an order: all stand ahead of it. -/
theorem Kn.ahead {ks : List α} {nd : α → List α} {lt : α → α → Bool} {out : List α} (h : Kn ks nd lt out) (i : Nat) (hi : i < out.length) (b : α) (hb : Rs nd (fun j => j ∈ nd out[i]) b) : b ∈ out.take i := by
  refine hb (fun b => b ∈ out.take i) (fun y hy => (h i hi).rdy y hy) fun a ha y hy => ?_
  obtain ⟨j, hj, rfl⟩ := List.mem_take_iff_getElem.1 ha
  have hj2 : j < i := by omega
  have := (h j (by omega)).rdy y hy
  obtain ⟨m, hm, rfl⟩ := List.mem_take_iff_getElem.1 this
  exact List.mem_take_iff_getElem.2 ⟨m, by omega, rfl⟩
theorem Kn.noLoop {ks : List α} {nd : α → List α} {lt : α → α → Bool} {out : List α} (h : Kn ks nd lt out) {a : α} (ha : a ∈ out) : ¬ Rs nd (fun j => j ∈ nd a) a := fun hb => by
  obtain ⟨i, hi, rfl⟩ := List.mem_iff_getElem.1 ha
  exact (h i hi).new (h.ahead i hi _ hb)
theorem Rs.split {nd : α → List α} {x k : α} (h : Rs nd (fun j => j = x) k) : k = x ∨ Rs nd (fun j => j ∈ nd x) k := by
  refine h (fun k => k = x ∨ Rs nd (fun j => j ∈ nd x) k) (fun _ hj => .inl hj) fun a ha y hy => ?_
  rcases ha with rfl | ha
  · exact .inr (Rs.base hy)
  · exact .inr (Rs.step ha hy)
theorem Rs.join {nd : α → List α} {x k : α} (h : k = x ∨ Rs nd (fun j => j ∈ nd x) k) : Rs nd (fun j => j = x) k := by
  rcases h with rfl | h
  · exact Rs.base rfl
  · exact h.mono fun z hz => Rs.step (Rs.base rfl) hz
/-- The one that all the others are needed for comes last. -/
theorem Kn.last {ks : List α} {nd : α → List α} {lt : α → α → Bool} {out : List α} (h : Kn ks nd lt out) {a : α} (ha : a ∈ out) (hs : ∀ k ∈ out, Rs nd (fun j => j = a) k) (hl : 0 < out.length) : out[out.length - 1] = a := by
  obtain ⟨i, hi, e⟩ := List.mem_iff_getElem.1 ha
  have hlast : i + 1 = out.length := by
    apply Classical.byContradiction
    intro hne
    have hi1 : i + 1 < out.length := by omega
    have hnew := (h (i + 1) hi1).new
    rcases (hs _ (List.getElem_mem hi1)).split with e2 | e2
    · exact hnew (by rw [e2, ← e]; exact List.mem_take_iff_getElem.2 ⟨i, by omega, rfl⟩)
    · rw [← e] at e2
      obtain ⟨m, hm, e3⟩ := List.mem_take_iff_getElem.1 (h.ahead i hi _ e2)
      exact hnew (by rw [← e3]; exact List.mem_take_iff_getElem.2 ⟨m, by omega, rfl⟩)
  rw [← e]
  congr 1
  omega
end
open Go.RowKit Go.Shelf Go.Maps
theorem dpI_other (x : List UInt8) (k : List UInt8) (hk : k ≠ x) : ∀ (nl : List ByteArray) (f : List UInt8 → Int), dpI x nl f k = f k := fun nl f => by
  refine snocInd (P := fun nl => dpI x nl f k = f k) rfl (fun l a ih => ?_) nl
  rw [dpI_snoc]
  unfold updI
  rw [if_neg hk]
  exact ih
theorem dpI_le (x : List UInt8) (m : Int) (f : List UInt8 → Int) (hx : f x ≤ m) : ∀ (nl : List ByteArray), (∀ y ∈ nl, tl y ≠ x ∧ f (tl y) + 1 ≤ m) → dpI x nl f x ≤ m := fun nl => by
  refine snocInd (P := fun nl => (∀ y ∈ nl, tl y ≠ x ∧ f (tl y) + 1 ≤ m) → dpI x nl f x ≤ m) (fun _ => hx) (fun l a ih => ?_) nl
  intro h
  obtain ⟨h1, h2⟩ := h a (by simp)
  rw [dpI_snoc]
  unfold updI
  rw [if_pos rfl, show dpI x l f a.data.toList = f (tl a) from dpI_other x (tl a) h1 l f]
  have := ih fun y hy => h y (List.mem_append_left _ hy)
  omega
/-- No name is deeper than there are names ahead of it. -/
theorem dpF_le {nf : List UInt8 → List ByteArray} {ks : List (List UInt8)} {o : List ByteArray} (h : Kn ks (ndT nf) ltK (o.map tl)) : ∀ n, n ≤ o.length → (∀ k, dpF nf (o.take n) k ≤ 0 ∨ dpF nf (o.take n) k + 1 ≤ (n : Int)) ∧ ∀ k, k ∉ (o.take n).map tl → dpF nf (o.take n) k = 0
  | 0, _ => ⟨fun k => .inl (by simp [dpF]), fun k _ => by simp [dpF]⟩
  | n + 1, hn => by
    obtain ⟨i1, i2⟩ := dpF_le h n (by omega)
    have hlt : n < o.length := by omega
    have s := h n (by simpa using hlt)
    have eo : (o.map tl)[n]'(by simpa using hlt) = tl o[n] := by simp
    have et : (o.map tl).take n = (o.take n).map tl := by rw [List.map_take]
    rw [eo, et] at s
    rw [List.take_succ_eq_append_getElem hlt, dpF_snoc]
    have hx0 := i2 _ s.new
    refine ⟨fun k => ?_, fun k hk => ?_⟩
    · by_cases hk : k = tl o[n]
      · subst hk
        by_cases hne : nf (tl o[n]) = []
        · left
          rw [show nf o[n].data.toList = [] from hne]
          exact Int.le_of_eq hx0
        · right
          have hn1 : 1 ≤ n := by
            obtain ⟨y, ys, e⟩ := List.exists_cons_of_ne_nil hne
            have := s.rdy (tl y) (by unfold ndT; rw [e]; simp)
            rw [List.mem_map] at this
            obtain ⟨z, hz, _⟩ := this
            have := List.length_pos_of_mem hz
            rw [List.length_take] at this
            omega
          have := dpI_le (tl o[n]) (n : Int) (dpF nf (o.take n)) (by rw [hx0]; omega) (nf (tl o[n])) fun y hy => by
            have hy2 := s.rdy (tl y) (List.mem_map.2 ⟨y, hy, rfl⟩)
            refine ⟨fun e => s.new (e ▸ hy2), ?_⟩
            rcases i1 (tl y) with h0 | h0 <;> omega
          have e3 : dpI o[n].data.toList (nf o[n].data.toList) (dpF nf (o.take n)) (tl o[n]) = dpI (tl o[n]) (nf (tl o[n])) (dpF nf (o.take n)) (tl o[n]) := rfl
          rw [e3]
          omega
      · rw [show dpI o[n].data.toList (nf o[n].data.toList) (dpF nf (o.take n)) k = dpF nf (o.take n) k from dpI_other _ k hk _ _]
        rcases i1 k with h0 | h0
        · exact .inl h0
        · exact .inr (by omega)
    · rw [List.map_append, List.mem_append, not_or] at hk
      rw [show dpI o[n].data.toList (nf o[n].data.toList) (dpF nf (o.take n)) k = dpF nf (o.take n) k from dpI_other _ k (fun e => hk.2 (by rw [e]; exact List.mem_singleton.2 (show o[n].data.toList = tl o[n] from rfl))) _ _]
      exact i2 k hk.1
theorem dpF_lt {nf : List UInt8 → List ByteArray} {ks : List (List UInt8)} {o : List ByteArray} (h : Kn ks (ndT nf) ltK (o.map tl)) (hl : 0 < o.length) (k : List UInt8) : dpF nf o k < (o.length : Int) := by
  have := (dpF_le h o.length (Nat.le_refl _)).1 k
  rw [List.take_length] at this
  rcases this with h | h <;> omega
end Go.Proofs.YtankaiopdbcndaaGreatDoor

/- Where one comes, by numbers: step by step, as the document's own table grows. -/
namespace Go.Proofs.YtankaiopdbcndaaGreatDoor
open Go.RowKit Go.Shelf Go.Maps
/-- From i to j, through those below k alone. -/
def Pk (e : Nat → Nat → Prop) : Nat → Nat → Nat → Prop
  | 0 => e
  | k + 1 => fun i j => Pk e k i j ∨ (Pk e k i k ∧ Pk e k k j)
theorem Pk.up {e : Nat → Nat → Prop} {k i j : Nat} (h : Pk e k i j) : ∀ m, k ≤ m → Pk e m i j := fun m hm => by
  induction m with
  | zero =>
    have : k = 0 := by omega
    subst this
    exact h
  | succ m ih =>
    by_cases hk : k = m + 1
    · subst hk; exact h
    · exact .inl (ih (by omega))
theorem Pk.trans {e : Nat → Nat → Prop} : ∀ {k i a j : Nat}, a < k → Pk e k i a → Pk e k a j → Pk e k i j
  | k + 1, i, a, j, ha, h1, h2 => by
    by_cases hk : a = k
    · subst hk
      exact .inr ⟨h1.elim id fun h => h.1, h2.elim id fun h => h.2⟩
    · have hak : a < k := by omega
      rcases h1 with h1 | ⟨h1, h1'⟩
      · rcases h2 with h2 | ⟨h2, h2'⟩
        · exact .inl (Pk.trans hak h1 h2)
        · exact .inr ⟨Pk.trans hak h1 h2, h2'⟩
      · rcases h2 with h2 | ⟨h2, h2'⟩
        · exact .inr ⟨h1, Pk.trans hak h1' h2⟩
        · exact .inr ⟨h1, h2'⟩
/-- While the table grows: phases below k are done, rows below i, places below j of row i. -/
structure Wr (e : Nat → Nat → Prop) (n k i j : Nat) (f : Nat → Nat → Bool) : Prop where
  snd : ∀ a b, a < n → b < n → f a b = true → Pk e n a b
  old : ∀ a b, a < n → b < n → Pk e k a b → f a b = true
  rows : ∀ a b, a < i → a < n → b < n → Pk e (k + 1) a b → f a b = true
  here : ∀ b, b < j → b < n → Pk e (k + 1) i b → f i b = true
def updM (f : Nat → Nat → Bool) (i j : Nat) : Nat → Nat → Bool := fun a b => if a = i ∧ b = j then true else f a b
theorem Wr.yes {e : Nat → Nat → Prop} {n k i j : Nat} {f : Nat → Nat → Bool} (h : Wr e n k i j f) (hk : k < n) (hi : i < n) (hj : j < n) (h1 : f i k = true) (h2 : f k j = true) : Wr e n k i (j + 1) (updM f i j) := by
  have mono : ∀ a b, f a b = true → updM f i j a b = true := fun a b hab => by
    unfold updM
    split
    · rfl
    · exact hab
  refine ⟨fun a b ha hb hab => ?_, fun a b ha hb p => mono _ _ (h.old a b ha hb p), fun a b ha ha2 hb p => mono _ _ (h.rows a b ha ha2 hb p), fun b hb hb2 p => ?_⟩
  · unfold updM at hab
    split at hab
    · rename_i e2
      rw [e2.1, e2.2]
      exact Pk.trans hk (h.snd i k hi hk h1) (h.snd k j hk hj h2)
    · exact h.snd a b ha hb hab
  · by_cases e2 : b = j
    · subst e2
      unfold updM
      rw [if_pos ⟨rfl, rfl⟩]
    · exact mono _ _ (h.here b (by omega) hb2 p)
theorem Wr.no {e : Nat → Nat → Prop} {n k i j : Nat} {f : Nat → Nat → Bool} (h : Wr e n k i j f) (hk : k < n) (hi : i < n) (hj : j < n) (h1 : (f i k && f k j) = false) : Wr e n k i (j + 1) f := by
  refine ⟨h.snd, h.old, h.rows, fun b hb hb2 p => ?_⟩
  by_cases e2 : b = j
  · subst e2
    rcases p with p | ⟨p, q⟩
    · exact h.old i b hi hj p
    · rw [h.old i k hi hk p, h.old k b hk hj q] at h1
      cases h1
  · exact h.here b (by omega) hb2 p
theorem Wr.row {e : Nat → Nat → Prop} {n k i : Nat} {f : Nat → Nat → Bool} (h : Wr e n k i n f) : Wr e n k (i + 1) 0 f :=
  ⟨h.snd, h.old, fun a b ha ha2 hb p => by
    by_cases e2 : a = i
    · subst e2; exact h.here b hb hb p
    · exact h.rows a b (by omega) ha2 hb p, fun b hb => absurd hb (Nat.not_lt_zero _)⟩
theorem Wr.phase {e : Nat → Nat → Prop} {n k : Nat} {f : Nat → Nat → Bool} (h : Wr e n k n 0 f) : Wr e n (k + 1) 0 0 f :=
  ⟨h.snd, fun a b ha hb p => h.rows a b ha ha hb p, fun _ _ ha => absurd ha (Nat.not_lt_zero _), fun _ hb => absurd hb (Nat.not_lt_zero _)⟩
theorem Wr.first {e : Nat → Nat → Prop} {n : Nat} {f : Nat → Nat → Bool} (h : ∀ a b, a < n → b < n → (f a b = true ↔ e a b)) : Wr e n 0 0 0 f :=
  ⟨fun a b ha hb hab => Pk.up (k := 0) ((h a b ha hb).1 hab) n (Nat.zero_le _), fun a b ha hb p => (h a b ha hb).2 p, fun _ _ ha => absurd ha (Nat.not_lt_zero _), fun _ hb => absurd hb (Nat.not_lt_zero _)⟩
theorem Wr.last {e : Nat → Nat → Prop} {n : Nat} {f : Nat → Nat → Bool} (h : Wr e n n 0 0 f) (a b : Nat) (ha : a < n) (hb : b < n) : f a b = true ↔ Pk e n a b := ⟨h.snd a b ha hb, h.old a b ha hb⟩
/-- Does i need j at once? -/
def edg (L : List Tg) (i j : Nat) : Prop := ∃ (hi : i < L.length), ∃ y ∈ L[i].ns, tgI L (tl y) = (j : Int)
def rwB (L : List Tg) (ns : List ByteArray) (j : Nat) : Bool := ns.any fun y => decide (tgI L (tl y) = (j : Int))
theorem Rp.trans {nd : List UInt8 → List (List UInt8)} {a b c : List UInt8} (h1 : Rp nd a b) (h2 : Rp nd b c) : Rp nd a c := Rs.mono h2 fun _ hz => Rs.step h1 hz
theorem edg_iff {L : List Tg} (h : NmOk L) {i j : Nat} (hi : i < L.length) (hj : j < L.length) : edg L i j ↔ tnm L[j] ∈ ndT (nfL L) (tnm L[i]) := by
  unfold ndT
  rw [nfL_of h.nod (List.getElem_mem hi)]
  constructor
  · rintro ⟨_, y, hy, e⟩
    rcases tgI_cases L (tl y) with ⟨h1, _⟩ | ⟨m, hm, h1, h2, _⟩
    · omega
    · have : m = j := by omega
      subst this
      rw [h2]
      exact List.mem_map.2 ⟨y, hy, rfl⟩
  · intro hm
    obtain ⟨y, hy, e⟩ := List.mem_map.1 hm
    refine ⟨hi, y, hy, ?_⟩
    rw [e]
    refine tgI_at j hj rfl fun m hm2 e2 => ?_
    have := List.pairwise_iff_getElem.1 (List.nodup_iff_pairwise_ne.1 h.nod) m j (by simp; omega) (by simpa using hj) hm2
    simp at this
    exact this e2
theorem nm_inj {L : List Tg} (h : NmOk L) {i j : Nat} (hi : i < L.length) (hj : j < L.length) (e : tnm L[i] = tnm L[j]) : i = j := by
  have hp := List.pairwise_iff_getElem.1 (List.nodup_iff_pairwise_ne.1 h.nod)
  rcases Nat.lt_trichotomy i j with h1 | h1 | h1
  · have := hp i j (by simpa using hi) (by simpa using hj) h1
    simp at this
    exact absurd e this
  · exact h1
  · have := hp j i (by simpa using hj) (by simpa using hi) h1
    simp at this
    exact absurd e.symm this
theorem pk_rp {L : List Tg} (h : NmOk L) : ∀ k, k ≤ L.length → ∀ i j (hi : i < L.length) (hj : j < L.length), Pk (edg L) k i j → Rp (ndT (nfL L)) (tnm L[i]) (tnm L[j])
  | 0, _, i, j, hi, hj, p => Rs.base ((edg_iff h hi hj).1 p)
  | k + 1, hk, i, j, hi, hj, p => by
    rcases p with p | ⟨p, q⟩
    · exact pk_rp h k (by omega) i j hi hj p
    · exact Rp.trans (pk_rp h k (by omega) i k hi (by omega) p) (pk_rp h k (by omega) k j (by omega) hj q)
theorem rp_pk {L : List Tg} (h : NmOk L) {i j : Nat} (hi : i < L.length) (hj : j < L.length) (hr : Rp (ndT (nfL L)) (tnm L[i]) (tnm L[j])) : Pk (edg L) L.length i j := by
  have key : ∀ a (ha : a < L.length), ∀ y ∈ ndT (nfL L) (tnm L[a]), ∃ b, ∃ (hb : b < L.length), y = tnm L[b] ∧ edg L a b := fun a ha y hy => by
    obtain ⟨z, hz, rfl⟩ := List.mem_map.1 hy
    obtain ⟨t, ht, e⟩ := List.mem_map.1 (h.cl _ (List.mem_map.2 ⟨_, List.getElem_mem ha, rfl⟩) z hz)
    obtain ⟨b, hb, rfl⟩ := List.mem_iff_getElem.1 ht
    exact ⟨b, hb, e.symm, (edg_iff h ha hb).2 (by rw [e]; exact hy)⟩
  obtain ⟨b, hb, e, p⟩ := hr (fun x => ∃ b, ∃ (hb : b < L.length), x = tnm L[b] ∧ Pk (edg L) L.length i b) (fun y hy => by
    obtain ⟨b, hb, e, p⟩ := key i hi y hy
    exact ⟨b, hb, e, Pk.up (e := edg L) (k := 0) p _ (Nat.zero_le _)⟩) (fun a ⟨m, hm, e, p⟩ y hy => by
    rw [e] at hy
    obtain ⟨b, hb, e2, q⟩ := key m hm y hy
    exact ⟨b, hb, e2, Pk.trans hm p (Pk.up (e := edg L) (k := 0) q _ (Nat.zero_le _))⟩)
  have := nm_inj h hj hb e
  subst this
  exact p
end Go.Proofs.YtankaiopdbcndaaGreatDoor

/- Rows of yes and no in memory; a table of them. -/
namespace Go.Proofs.YtankaiopdbcndaaGreatDoor
open Go.RowKit Go.Shelf Go.Maps
/-- A row of yes and no lies in block g. -/
def BlAt (w : World) (g n : Nat) (h : Nat → Bool) : Prop := ∀ j, j < n → w.cell? ⟨g, j, none⟩ = some (.bool (h j)) ∧ w.frozen? ⟨g, j, none⟩ = false
theorem frz_block {w w' : World} {a : Addr} (h : w'.heap[a.block]? = w.heap[a.block]?) : w'.frozen? a = w.frozen? a := by
  unfold World.frozen?
  rw [h]
theorem BlAt.keep {w w' : World} {g n : Nat} {h : Nat → Bool} (hb : BlAt w g n h) (hh : w'.heap[g]? = w.heap[g]?) : BlAt w' g n h := fun j hj =>
  ⟨(World.cell?_of_block (w := w) (a := ⟨g, j, none⟩) hh).trans (hb j hj).1, (frz_block (a := ⟨g, j, none⟩) hh).trans (hb j hj).2⟩
theorem BlAt.congr {w : World} {g n : Nat} {h k : Nat → Bool} (hb : BlAt w g n h) (e : ∀ j, j < n → h j = k j) : BlAt w g n k := fun j hj => by rw [← e j hj]; exact hb j hj
def updB (h : Nat → Bool) (j : Nat) : Nat → Bool := fun b => if b = j then true else h b
theorem BlAt.set {w : World} {g n j : Nat} {h : Nat → Bool} (hb : BlAt w g n h) (hj : j < n) : BlAt (w.setCell ⟨g, j, none⟩ (.bool true)) g n (updB h j) := fun b hbn => by
  refine ⟨?_, (World.frozen?_setCell _ _ _ _).trans (hb b hbn).2⟩
  unfold updB
  by_cases e : b = j
  · subst e
    rw [if_pos rfl]
    exact World.cell?_setCell_same _ _ _ (hb b hbn).1
  · rw [if_neg e, World.cell?_setCell_other _ _ _ _ (fun e2 => e (by injection e2 with _ e3; exact e3.symm))]
    exact (hb b hbn).1
theorem infBl : (Tryz.prog.info? 4).map (fun i => (i.zero, i.size, i.bytes)) = some (some (.bool false), 1, 1) := by kernel_rfl
/-- A row is made. -/
theorem make_bl (w : World) (n : Nat) (hn : n ≤ 1048576) : (Instr.makeSlice 29 (.int .i64 (n : Int)) (.int .i64 (n : Int))).run Tryz.prog w = .ok (.slice (some ⟨w.heap.size, 0, none⟩) n n) (w.alloc (.cells (madeCells #[.bool false] n) 4)) ∧ BlAt (w.alloc (.cells (madeCells #[.bool false] n) 4)) w.heap.size n (fun _ => false) := by
  obtain ⟨i0, hi, hz0, hz1, hz2⟩ := infoG infBl
  have := run_make (P := Tryz.prog) w 29 4 i0 (.bool false) Tryz.underlying29 hi hz0 .i64 .i64 (n : Int) (n : Int) (by omega) (Int.le_refl _) (by rw [hz2]; omega) (by omega)
  rw [hz1] at this
  simp only [Int.toNat_natCast, Nat.mul_one] at this
  refine ⟨this, fun j hj => ⟨?_, ?_⟩⟩
  · rw [Lib.cell_of_heap (heap_alloc_new w _)]
    have e : (madeCells #[Value.bool false] n)[j]? = some (.bool false) := by
      simp [madeCells, hj, Nat.mod_one]
    exact e
  · exact Lib.frozen_of_heap (heap_alloc_new w _) j
/-- A table of yes and no: its rows in a row of one's own. -/
structure Mx (B n : Nat) (v : Value) (gs : List Nat) (f : Nat → Nat → Bool) (w : World) : Prop where
  row : w.ownsRow B 29 1 v gs.length (gs.map fun g => Value.slice (some ⟨g, 0, none⟩) n n)
  nod : gs.Nodup
  bl : ∀ i (hi : i < gs.length), BlAt w gs[i] n (f i)
  lo : ∀ g ∈ gs, B ≤ g ∧ g < w.heap.size
  ap : ∀ g ∈ gs, v.ownBlock ≠ some g
theorem Mx.nil (B n : Nat) (f : Nat → Nat → Bool) (w : World) : Mx B n (.slice none 0 0) [] f w := ⟨World.ownsRow_nil _ _ _ _, List.nodup_nil, fun i hi => absurd hi (Nat.not_lt_zero _), (fun g hg => by cases hg), (fun g hg => by cases hg)⟩
theorem Mx.form {B n : Nat} {v : Value} {gs : List Nat} {f : Nat → Nat → Bool} {w : World} (h : Mx B n v gs f w) (hp : 0 < gs.length) : ∃ R c, v = .slice (some ⟨R, 0, none⟩) gs.length c ∧ ∀ i (hi : i < gs.length), w.cell? ⟨R, i, none⟩ = some (.slice (some ⟨gs[i], 0, none⟩) n n) := by
  rcases h.row.2 with ⟨_, h1⟩ | ⟨R, c, cur, e, _⟩
  · omega
  · refine ⟨R, c, e, fun i hi => ?_⟩
    have hr := h.row
    subst e
    have := hr.cells rfl i (.slice (some ⟨gs[i], 0, none⟩) n n) (by rw [List.getElem?_map, List.getElem?_eq_getElem hi]; rfl)
    rwa [addr_add, Nat.zero_add] at this
theorem rowK {w w' : World} {B n sz : Nat} {e : TypeId} {v : Value} {xs : List Value} (h : w.ownsRow B e sz v n xs) (hk : ∀ g, v.ownBlock = some g → w'.heap[g]? = w.heap[g]?) : w'.ownsRow B e sz v n xs := by
  refine ⟨h.1, ?_⟩
  rcases h.2 with h2 | ⟨g, cap, cur, a, b, hg, r⟩
  · exact .inl h2
  · exact .inr ⟨g, cap, cur, a, b, (hk g (by rw [a]; rfl)).trans hg, r⟩
theorem Mx.keep {B n : Nat} {v : Value} {gs : List Nat} {f : Nat → Nat → Bool} {w w' : World} (h : Mx B n v gs f w) (hk : ∀ g, (v.ownBlock = some g ∨ g ∈ gs) → w'.heap[g]? = w.heap[g]?) (hs : w.heap.size ≤ w'.heap.size) : Mx B n v gs f w' :=
  ⟨rowK h.row fun g hg => hk g (.inl hg), h.nod, fun i hi => (h.bl i hi).keep (hk _ (.inr (List.getElem_mem hi))), fun g hg => ⟨(h.lo g hg).1, Nat.lt_of_lt_of_le (h.lo g hg).2 hs⟩, h.ap⟩
theorem Mx.set {B n : Nat} {v : Value} {gs : List Nat} {f : Nat → Nat → Bool} {w : World} (h : Mx B n v gs f w) (i j : Nat) (hi : i < gs.length) (hj : j < n) : Mx B n v gs (updM f i j) (w.setCell ⟨gs[i], j, none⟩ (.bool true)) := by
  have hne : ∀ g, g ≠ gs[i] → (w.setCell ⟨gs[i], j, none⟩ (.bool true)).heap[g]? = w.heap[g]? := fun g hg => Below.heap_setCell w ⟨gs[i], j, none⟩ _ g (fun e => hg (by first | exact e | exact e.symm))
  refine ⟨rowK h.row fun g hg => hne g fun e => h.ap _ (List.getElem_mem hi) (e ▸ hg), h.nod, fun a ha => ?_, fun g hg => ⟨(h.lo g hg).1, by simpa [World.setCell] using (h.lo g hg).2⟩, h.ap⟩
  by_cases e : a = i
  · subst e
    refine ((h.bl a ha).set hj).congr fun b hb => ?_
    unfold updB updM
    by_cases e2 : b = j
    · rw [if_pos e2, if_pos ⟨rfl, e2⟩]
    · rw [if_neg e2, if_neg fun e3 => e2 e3.2]
  · have hgne : gs[a] ≠ gs[i] := fun e2 => e ((List.getElem_inj h.nod).1 e2)
    refine ((h.bl a ha).keep (hne _ hgne)).congr fun b hb => ?_
    unfold updM
    rw [if_neg fun e3 => e e3.1]
theorem Mx.below {B n : Nat} {v : Value} {gs : List Nat} {f : Nat → Nat → Bool} {w w' : World} (h : Mx B n v gs f w) (hb : Below w.heap.size w w') : Mx B n v gs f w' :=
  h.keep (fun g hg => hb.block g (hg.elim (fun e => (h.row.lt g e).2) fun e => (h.lo g e).2)) hb.size
theorem infBs : (Tryz.prog.info? 29).map (fun i => (i.zero, i.size, i.bytes)) = some (some (.slice none 0 0), 1, 24) := by kernel_rfl
/-- One row more. -/
theorem Mx.app {B n : Nat} {v : Value} {gs : List Nat} {f : Nat → Nat → Bool} {w : World} (h : Mx B n v gs f w) (G : Nat) (r : Nat → Bool) (hG : BlAt w G n r) (hGl : G < w.heap.size) (hGB : B ≤ G) (hGn : G ∉ gs) (hGv : v.ownBlock ≠ some G) (hl : gs.length ≤ 100000) (hB : B ≤ w.heap.size) (k : Nat → Nat → Bool) (hk : ∀ i, i < gs.length → ∀ j, j < n → f i j = k i j) (hkr : ∀ j, j < n → r j = k gs.length j) :
    ∃ (v2 : Value) (w1 : World), (appG #[44, 44] 44 #[v, .slice (some ⟨w.heap.size, 0, none⟩) 1 1]).run Tryz.prog (w.alloc (.cells #[.slice (some ⟨G, 0, none⟩) n n] 29)) = .ok v2 w1 ∧ Mx B n v2 (gs ++ [G]) k w1 ∧ w.grownBy w1 v.ownBlock := by
  obtain ⟨i0, hi, hz0, hz1, hz2⟩ := infoG infBs
  obtain ⟨W, hW⟩ : ∃ W, W = w.alloc (.cells #[.slice (some ⟨G, 0, none⟩) n n] 29) := ⟨_, rfl⟩
  have hsz : W.heap.size = w.heap.size + 1 := by rw [hW]; exact World.size_alloc _ _
  have hbW : Below w.heap.size w W := by rw [hW]; exact (Below.refl _ w).alloc (Nat.le_refl _) _
  have hnew : W.heap[w.heap.size]? = some (.cells #[.slice (some ⟨G, 0, none⟩) n n] 29 (0, 0)) := by rw [hW]; exact heap_alloc_new w _
  have hrW : W.ownsRow B 29 1 v gs.length (gs.map fun g => Value.slice (some ⟨g, 0, none⟩) n n) := by rw [hW]; exact h.row.alloc _
  obtain ⟨R, C, w1, a1, a2, a3, a4, _⟩ := run_append_lies (P := Tryz.prog) W 44 44 B 29 i0 (.slice none 0 0) 1 24 Tryz.underlying44 hi hz0 hz1 hz2 rfl (by decide) v gs.length (gs.map fun g => Value.slice (some ⟨g, 0, none⟩) n n) hrW ⟨w.heap.size, 0, none⟩ 1 1 [.slice (some ⟨G, 0, none⟩) n n] rfl (fun j u hu => by rw [addr_add, Nat.zero_add, Lib.cell_of_heap hnew]; simpa using hu) (fun u hu => by simp at hu; subst hu; rfl) (by decide) (by unfold maxLen; omega) (by omega) (by omega) W.heap.size rfl
  have el : gs.length + 1 = (gs ++ [G]).length := by simp
  have em : gs.map (fun g => Value.slice (some ⟨g, 0, none⟩) n n) ++ [.slice (some ⟨G, 0, none⟩) n n] = (gs ++ [G]).map fun g => Value.slice (some ⟨g, 0, none⟩) n n := by simp
  rw [el, em] at a2
  have hgw : w.grownBy w1 v.ownBlock := ⟨a3.os.trans hbW.os, a3.tape.trans hbW.tape, a3.output.trans hbW.output, by have := a3.size; omega, fun g hg hn => (a3.block g (by omega) hn).trans (hbW.block g hg)⟩
  have hst : ∀ g, g < w.heap.size → v.ownBlock ≠ some g → w1.heap[g]? = w.heap[g]? := fun g hg hn => hgw.block g hg fun e => hn e.symm
  refine ⟨_, w1, by rw [← hW]; exact a1, ⟨by rw [el]; exact a2, ?_, fun i hi2 => ?_, fun g hg => ?_, fun g hg e => ?_⟩, hgw⟩
  · rw [List.nodup_append]
    exact ⟨h.nod, by simp, fun a ha b hb e => hGn (by rw [← List.mem_singleton.1 hb, ← e]; exact ha)⟩
  · by_cases hlt : i < gs.length
    · rw [List.getElem_append_left hlt]
      exact ((h.bl i hlt).keep (hst _ (h.lo _ (List.getElem_mem hlt)).2 (h.ap _ (List.getElem_mem hlt)))).congr (hk i hlt)
    · have e : i = gs.length := by simp at hi2; omega
      subst e
      rw [List.getElem_append_right (Nat.le_refl _)]
      simp only [Nat.sub_self, List.getElem_cons_zero]
      exact (hG.keep (hst G hGl hGv)).congr hkr
  · rcases List.mem_append.1 hg with e | e
    · exact ⟨(h.lo g e).1, Nat.lt_of_lt_of_le (h.lo g e).2 hgw.size⟩
    · rw [List.mem_singleton.1 e]; exact ⟨hGB, Nat.lt_of_lt_of_le hGl hgw.size⟩
  · have e2 : R = g := by simpa [Value.ownBlock] using e
    subst e2
    rcases a4 with a4 | a4
    · rcases List.mem_append.1 hg with e | e
      · exact h.ap _ e a4
      · rw [List.mem_singleton.1 e] at a4; exact hGv a4
    · rcases List.mem_append.1 hg with e | e
      · have := (h.lo _ e).2; omega
      · rw [List.mem_singleton.1 e] at a4; omega
end Go.Proofs.YtankaiopdbcndaaGreatDoor

/- The document's own table of who comes to whom: walked. -/
namespace Go.Proofs.YtankaiopdbcndaaGreatDoor
open Go.RowKit Go.Shelf Go.Maps
attribute [local go_sem ↓] appG_eq2
/-- The table as it begins: who needs whom at once. -/
def f0 (L : List Tg) (a b : Nat) : Bool := if h : a < L.length then rwB L L[a].ns b else false
theorem f0_iff {L : List Tg} {a b : Nat} (ha : a < L.length) : f0 L a b = true ↔ edg L a b := by
  unfold f0 rwB
  rw [dif_pos ha, List.any_eq_true]
  exact ⟨fun ⟨y, h1, h2⟩ => ⟨ha, y, h1, of_decide_eq_true h2⟩, fun ⟨_, y, h1, h2⟩ => ⟨y, h1, decide_eq_true h2⟩⟩
theorem rwB_snoc (L : List Tg) (ns : List ByteArray) (y : ByteArray) (j : Nat) (hj : tgI L (tl y) = (j : Int)) : ∀ b, updB (rwB L ns) j b = rwB L (ns ++ [y]) b := fun b => by
  unfold updB rwB
  rw [List.any_append]
  by_cases e : b = j
  · subst e
    rw [if_pos rfl]
    simp [hj]
  · rw [if_neg e]
    have : ¬ (tgI L (tl y) = (b : Int)) := by omega
    simp [this]
theorem NmOk.at {L : List Tg} (h : NmOk L) {t : Tg} (ht : t ∈ L) {y : ByteArray} (hy : y ∈ t.ns) : ∃ j, j < L.length ∧ tgI L (tl y) = (j : Int) := by
  rcases tgI_cases L (tl y) with ⟨_, h2⟩ | ⟨j, hj, h1, _⟩
  · exact absurd (h.met t ht y hy) h2
  · exact ⟨j, hj, h1⟩

set_option maxHeartbeats 8000000 in
set_option maxRecDepth 100000 in
theorem Reach_any (ao : Option Addr) (cap : Nat) (L : List Tg) (w : World) (h : Fine w ao L) (hN : NmOk L) :
    Calls Tryz.prog 23 #[.slice ao L.length cap] w fun e w' => ∃ v gs f, e = .returned v ∧ Mx w.heap.size L.length v gs f w' ∧ gs.length = L.length ∧ (∀ a b, a < L.length → b < L.length → (f a b = true ↔ Pk (edg L) L.length a b)) ∧ Below w.heap.size w w' := by
  have HF : Hid (Fine w ao L) := h
  have HN : Hid (NmOk L) := hN
  have hn60 := hN.len
  have HT : Hid (∀ x W, Below w.heap.size w W → Calls Tryz.prog 17 #[.slice ao L.length cap, .string x] W fun e w' => e = .returned (.int .i64 (tgI L (tl x))) ∧ w' = W) := fun x W hb => TargetAt_any ao cap L x W (h.below hb).is h.len
  obtain ⟨n, hn⟩ : ∃ n, n = L.length := ⟨_, rfl⟩
  have HLn : Hid (n = L.length) := hn
  have hni : (n : Int) ≤ 60 := by omega
  have hn60' : n ≤ 60 := by omega
  rw [← hn] at HT ⊢
  obtain ⟨B, hB⟩ : ∃ B, B = w.heap.size := ⟨_, rfl⟩
  have HB : Hid (B = w.heap.size) := hB
  have HZ : Hid (∀ v gs f W, Mx B n v gs f W → gs.length = n → Wr (edg L) n n 0 0 f → Below B w W → ∃ v2 gs f, Ending.returned v = .returned v2 ∧ Mx w.heap.size n v2 gs f W ∧ gs.length = n ∧ (∀ a b, a < n → b < n → (f a b = true ↔ Pk (edg L) n a b)) ∧ Below w.heap.size w W) := fun v gs f W h1 h2 h3 h4 => by
    rw [hB] at h1 h4
    exact ⟨v, gs, f, rfl, h1, h2, fun a b ha hb => h3.last a b ha hb, h4⟩
  rw [← hB] at HT
  clear h hN hn hn60 hB
  go_enter Tryz.func23, Tryz.ntmps23
  go_wp2
  go_loopw [3, 4] (fun v u wr => ∃ (i : Nat) (gs : List Nat), i ≤ n ∧ u = .int .i64 (i : Int) ∧ Hid (Mx B n v gs (f0 L) wr ∧ gs.length = i ∧ Below B w wr)) (fun _ u _ => n - (intOf u).toNat)
  case atStart => exact ⟨0, [], Nat.zero_le _, rfl, Mx.nil _ _ _ _, rfl, Below.refl _ _⟩
  case round =>
    obtain ⟨i, gs, hi, rfl, HJ⟩ := hrel
    by_cases hlt : i < n
    · have hii : (i : Int) < (n : Int) := by omega
      have hiL : i < L.length := by rw [← HLn.out]; exact hlt
      obtain ⟨g, o, rfl, hg, hat⟩ := HF.out.is.at_.resolve_left (fun e => by rw [e] at hiL; exact absurd hiL (by simp))
      have hmk := make_bl wr n (by omega)
      obtain ⟨hmk1, hmk2⟩ := hmk
      have hbA : Below wr.heap.size wr (wr.alloc (.cells (madeCells #[.bool false] n) 4)) := (Below.refl _ wr).alloc (Nat.le_refl _) _
      obtain ⟨G, hG⟩ : ∃ G, G = wr.heap.size := ⟨_, rfl⟩
      have hGB : B ≤ G := by rw [hG, HB.out]; exact HJ.out.2.2.size
      have c2 : ∀ W, Below B w W → W.cell? ⟨g, o + i * 5 + 2, none⟩ = some L[i].vn := fun W hW => (hat.below hW (by rw [HB.out]; exact hg) i hiL).2.2.1
      have hNt := fun W (hW : Below B w W) => ((HF.out.below (by rw [← HB.out]; exact hW)).is.tx L[i] (List.getElem_mem hiL)).2.1
      have HAt : Hid (∀ y ∈ L[i].ns, ∃ j, j < n ∧ tgI L (tl y) = (j : Int)) := fun y hy => by
        rw [HLn.out]
        exact HN.out.at (List.getElem_mem hiL) hy
      have HR0 : Hid (∀ j, f0 L i j = rwB L L[i].ns j) := fun j => by unfold f0; rw [dif_pos hiL]
      obtain ⟨_, hnl, na, nc, hnv, _⟩ := (HF.out.is.tx L[i] (List.getElem_mem hiL)).2.1
      rw [hnv] at c2 hNt
      have HC2 : Hid (∀ W, Below B w W → W.cell? ⟨g, o + i * 5 + 2, none⟩ = some (.slice na L[i].ns.length nc)) := c2
      have HNt : Hid (∀ W, Below B w W → TxIn W (.slice na L[i].ns.length nc) L[i].ns) := hNt
      generalize L[i].ns = nl at *
      have hnli : (nl.length : Int) ≤ 1048576 := by omega
      have hbW : Below B w (wr.alloc (.cells (madeCells #[.bool false] n) 4)) := HJ.out.2.2.trans (hbA.mono (by rw [← hG]; exact hGB))
      have H0 : Hid (Mx B n u3 gs (f0 L) (wr.alloc (.cells (madeCells #[.bool false] n) 4)) ∧ BlAt (wr.alloc (.cells (madeCells #[.bool false] n) 4)) G n (rwB L (nl.take 0)) ∧ G < (wr.alloc (.cells (madeCells #[.bool false] n) 4)).heap.size ∧ Below B w (wr.alloc (.cells (madeCells #[.bool false] n) 4))) := ⟨HJ.out.1.below hbA, by rw [hG]; exact hmk2.congr fun j _ => (by simp [rwB]), by rw [World.size_alloc]; omega, hbW⟩
      have HGs : Hid (G ∉ gs ∧ u3.ownBlock ≠ some G ∧ gs.length = i) := ⟨fun hm => by have := (HJ.out.1.lo G hm).2; omega, fun e => by have := (HJ.out.1.row.lt G e).2; omega, HJ.out.2.1⟩
      have HM0 : Hid (∀ W, Below B w W → B ≤ W.heap.size) := fun W hW => by rw [HB.out]; exact hW.size
      rw [← hG] at hmk1
      clear hmk2 hbA hat c2 hNt hnv hnl hG HJ hbW
      go_wp2
      generalize wr.alloc (.cells (madeCells #[.bool false] n) 4) = wa at *
      go_loopw [6] (fun u wr => ∃ k : Nat, k ≤ nl.length ∧ u = .int .i64 (k : Int) ∧ Hid (Mx B n u3 gs (f0 L) wr ∧ BlAt wr G n (rwB L (nl.take k)) ∧ G < wr.heap.size ∧ Below B w wr)) (fun u _ => nl.length - (intOf u).toNat)
      case atStart => exact ⟨0, Nat.zero_le _, rfl, H0⟩
      case round =>
        obtain ⟨k, hk, rfl, HK⟩ := hrel
        have cv := HC2.out wr HK.out.2.2.2
        by_cases hkl : k < nl.length
        · have hki : (k : Int) < (nl.length : Int) := by omega
          obtain ⟨_, _, na2, nc2, e, hmem⟩ := HNt.out wr HK.out.2.2.2
          injection e with e1 _ e3
          subst e1 e3
          rcases hmem with hz | ⟨ng, no, rfl, _, hcn⟩
          · exfalso; rw [hz] at hkl; exact absurd hkl (by simp)
          have cn := hcn k hkl
          obtain ⟨t, ht, hti⟩ := HAt.out nl[k] (List.getElem_mem hkl)
          have HC := HT.out nl[k] wr HK.out.2.2.2
          rw [hti] at HC
          obtain ⟨b1, b2⟩ := HK.out.2.1 t ht
          have hti2 : (t : Int) < (n : Int) := by omega
          have hne : ∀ x, x ≠ G → (wr.setCell ⟨G, t, none⟩ (.bool true)).heap[x]? = wr.heap[x]? := fun x hx => Below.heap_setCell wr ⟨G, t, none⟩ _ x (fun e => hx (by first | exact e | exact e.symm))
          have HE : Hid (Mx B n u3 gs (f0 L) (wr.setCell ⟨G, t, none⟩ (.bool true)) ∧ BlAt (wr.setCell ⟨G, t, none⟩ (.bool true)) G n (rwB L (nl.take (k + 1))) ∧ G < (wr.setCell ⟨G, t, none⟩ (.bool true)).heap.size ∧ Below B w (wr.setCell ⟨G, t, none⟩ (.bool true))) := by
            obtain ⟨q1, q2, q3, q4⟩ := HK.out
            have hsz : (wr.setCell ⟨G, t, none⟩ (.bool true)).heap.size = wr.heap.size := by simp [World.setCell]
            refine ⟨q1.keep (fun x hx => hne x fun e => ?_) (by rw [hsz]; exact Nat.le_refl _), (q2.set ht).congr fun b _ => ?_, by rw [hsz]; exact q3, q4.setCell (by show B ≤ G; exact hGB) _⟩
            · subst e
              exact hx.elim HGs.out.2.1 HGs.out.1
            · rw [List.take_succ_eq_append_getElem hkl]
              exact rwB_snoc L _ _ t hti b
          generalize nl[k] = y at *
          generalize rwB L (List.take k nl) t = bb at *
          clear hcn hti hne HK H0
          go_wp2_with (first | (go_at_call 17; refine HC.mono ?_; rintro e wx ⟨rfl, rfl⟩) | go_in)
          exact ⟨⟨k + 1, by omega, by go_num, HE⟩, by simp [intOf]; omega⟩
        · obtain rfl : k = nl.length := by omega
          obtain ⟨q1, q2, q3, q4⟩ := HK.out
          rw [List.take_length] at q2
          have hlen := HGs.out.2.2
          obtain ⟨v2, w9, ha, hM, hg9⟩ := q1.app G (rwB L nl) q2 q3 hGB HGs.out.1 HGs.out.2.1 (by omega) (HM0.out _ q4) (f0 L) (fun _ _ _ _ => rfl) (fun j _ => by rw [hlen, HR0.out])
          have HE : Hid (Mx B n v2 (gs ++ [G]) (f0 L) w9 ∧ (gs ++ [G]).length = i + 1 ∧ Below B w w9) := ⟨hM, by simp [hlen], q4.grown hg9 (HM0.out _ q4) (fun x hx => (q1.row.lt x hx).1)⟩
          clear HK H0 q1 q2 q3 q4 hM hg9 hlen
          go_wp2
          exact ⟨⟨i + 1, gs ++ [G], by omega, by go_num, HE⟩, by simp [intOf]; omega⟩
    · obtain rfl : i = n := by omega
      have H0 : Hid (∃ f, Mx B i u3 gs f wr ∧ Wr (edg L) i 0 0 0 f ∧ Below B w wr) := ⟨f0 L, HJ.out.1, Wr.first (fun a b ha hb => f0_iff (by rw [← HLn.out]; exact ha)), HJ.out.2.2⟩
      have HGl : Hid (gs.length = i) := HJ.out.2.1
      clear HJ HT HF
      go_wp2
      go_loopw [7] (fun u wr => ∃ k : Nat, k ≤ i ∧ u = .int .i64 (k : Int) ∧ Hid (∃ f, Mx B i u3 gs f wr ∧ Wr (edg L) i k 0 0 f ∧ Below B w wr)) (fun u _ => i - (intOf u).toNat)
      case atStart => exact ⟨0, Nat.zero_le _, rfl, H0⟩
      case round =>
        obtain ⟨k, hk, rfl, HK⟩ := hrel
        by_cases hkl : k < i
        · have hki : (k : Int) < (i : Int) := by omega
          have H1 : Hid (∃ f, Mx B i u3 gs f wr ∧ Wr (edg L) i k 0 0 f ∧ Below B w wr) := HK
          clear HK H0
          go_wp2
          go_loopw [8] (fun u wr => ∃ a : Nat, a ≤ i ∧ u = .int .i64 (a : Int) ∧ Hid (∃ f, Mx B i u3 gs f wr ∧ Wr (edg L) i k a 0 f ∧ Below B w wr)) (fun u _ => i - (intOf u).toNat)
          case atStart => exact ⟨0, Nat.zero_le _, rfl, H1⟩
          case round =>
            obtain ⟨a, ha, rfl, HA⟩ := hrel
            by_cases hal : a < i
            · have hai : (a : Int) < (i : Int) := by omega
              have H2 : Hid (∃ f, Mx B i u3 gs f wr ∧ Wr (edg L) i k a 0 f ∧ Below B w wr) := HA
              clear HA H1
              go_wp2
              go_loopw [9] (fun u wr => ∃ b : Nat, b ≤ i ∧ u = .int .i64 (b : Int) ∧ Hid (∃ f, Mx B i u3 gs f wr ∧ Wr (edg L) i k a b f ∧ Below B w wr)) (fun u _ => i - (intOf u).toNat)
              case atStart => exact ⟨0, Nat.zero_le _, rfl, H2⟩
              case round =>
                obtain ⟨b, hb, rfl, HX⟩ := hrel
                by_cases hbl : b < i
                · have hbi : (b : Int) < (i : Int) := by omega
                  obtain ⟨f, m1, m2, m3⟩ := HX.out
                  have hgl := HGl.out
                  obtain ⟨R, c, hv, hrow⟩ := m1.form (by omega)
                  rw [hgl] at hv
                  subst hv
                  have r1 := hrow a (by omega)
                  have r2 := hrow k (by omega)
                  have s1 := (m1.bl a (by omega) k hkl).1
                  have s2 := (m1.bl k (by omega) b hbl).1
                  obtain ⟨s3, s4⟩ := m1.bl a (by omega) b hbl
                  cases hf1 : f a k with
                  | false =>
                    have HE : Hid (∃ f, Mx B i (.slice (some ⟨R, 0, none⟩) i c) gs f wr ∧ Wr (edg L) i k a (b + 1) f ∧ Below B w wr) := ⟨f, m1, m2.no hkl hal hbl (by rw [hf1]; rfl), m3⟩
                    rw [hf1] at s1
                    generalize gs[a] = ga at *
                    generalize gs[k] = gk at *
                    clear m1 m2 m3 hrow HX H2 hf1 s3 s4 s2 r2 hgl
                    go_wp2
                    exact ⟨⟨b + 1, by omega, by go_num, HE⟩, by simp [intOf]; omega⟩
                  | true =>
                    cases hf2 : f k b with
                    | false =>
                      have HE : Hid (∃ f, Mx B i (.slice (some ⟨R, 0, none⟩) i c) gs f wr ∧ Wr (edg L) i k a (b + 1) f ∧ Below B w wr) := ⟨f, m1, m2.no hkl hal hbl (by rw [hf2, Bool.and_false]), m3⟩
                      rw [hf1] at s1
                      rw [hf2] at s2
                      generalize gs[a] = ga at *
                      generalize gs[k] = gk at *
                      clear m1 m2 m3 hrow HX H2 hf1 hf2 s3 s4
                      go_wp2
                      exact ⟨⟨b + 1, by omega, by go_num, HE⟩, by simp [intOf]; omega⟩
                    | true =>
                      have HE : Hid (∃ f, Mx B i (.slice (some ⟨R, 0, none⟩) i c) gs f (wr.setCell ⟨gs[a], b, none⟩ (.bool true)) ∧ Wr (edg L) i k a (b + 1) f ∧ Below B w (wr.setCell ⟨gs[a], b, none⟩ (.bool true))) := ⟨updM f a b, m1.set a b (by omega) hbl, m2.yes hkl hal hbl hf1 hf2, m3.setCell (by show B ≤ gs[a]; exact (m1.lo _ (List.getElem_mem (by omega))).1) _⟩
                      rw [hf1] at s1
                      rw [hf2] at s2
                      generalize gs[a] = ga at *
                      generalize gs[k] = gk at *
                      generalize f a b = fab at *
                      clear m1 m2 m3 hrow HX H2 hf1 hf2
                      go_wp2
                      exact ⟨⟨b + 1, by omega, by go_num, HE⟩, by simp [intOf]; omega⟩
                · obtain rfl : b = i := by omega
                  have HE : Hid (∃ f, Mx B b u3 gs f wr ∧ Wr (edg L) b k (a + 1) 0 f ∧ Below B w wr) := by
                    obtain ⟨f, m1, m2, m3⟩ := HX.out
                    exact ⟨f, m1, m2.row, m3⟩
                  clear HX H2
                  go_wp2
                  exact ⟨⟨a + 1, by omega, by go_num, HE⟩, by simp [intOf]; omega⟩
            · obtain rfl : a = i := by omega
              have HE : Hid (∃ f, Mx B a u3 gs f wr ∧ Wr (edg L) a (k + 1) 0 0 f ∧ Below B w wr) := by
                obtain ⟨f, m1, m2, m3⟩ := HA.out
                exact ⟨f, m1, m2.phase, m3⟩
              clear HA H1
              go_wp2
              exact ⟨⟨k + 1, by omega, by go_num, HE⟩, by simp [intOf]; omega⟩
        · obtain rfl : k = i := by omega
          have HE : Hid (∃ v2 gs f, Ending.returned u3 = .returned v2 ∧ Mx w.heap.size k v2 gs f wr ∧ gs.length = k ∧ (∀ a b, a < k → b < k → (f a b = true ↔ Pk (edg L) k a b)) ∧ Below w.heap.size w wr) := by
            obtain ⟨f, m1, m2, m3⟩ := HK.out
            exact HZ.out u3 gs f wr m1 HGl.out m2 m3
          clear HK H0 HZ
          go_wp2
          go_ret
          exact HE.out
end Go.Proofs.YtankaiopdbcndaaGreatDoor

/- Some of the targets; whether there is a circle among them: the document's own. -/
namespace Go.Proofs.YtankaiopdbcndaaGreatDoor
open Go.RowKit Go.Shelf Go.Maps
attribute [local go_sem ↓] appG_eq2
/-- A slice of yes and no. -/
def BlIn (w : World) (v : Value) (n : Nat) (h : Nat → Bool) : Prop := ∃ ao c, v = .slice ao n c ∧ (n = 0 ∨ ∃ g, ao = some ⟨g, 0, none⟩ ∧ g < w.heap.size ∧ BlAt w g n h)
theorem BlIn.below {w w' : World} {v : Value} {n : Nat} {h : Nat → Bool} (hb : BlIn w v n h) (hB : Below w.heap.size w w') : BlIn w' v n h := by
  obtain ⟨ao, c, e, h1⟩ := hb
  refine ⟨ao, c, e, ?_⟩
  rcases h1 with h1 | ⟨g, e2, hg, h2⟩
  · exact .inl h1
  · exact .inr ⟨g, e2, Nat.lt_of_lt_of_le hg hB.size, h2.keep (hB.block g hg)⟩

set_option maxHeartbeats 4000000 in
set_option maxRecDepth 100000 in
theorem HasCircle_any (ao : Option Addr) (cap : Nat) (L : List Tg) (v : Value) (h : Nat → Bool) (w : World) (hf : Fine w ao L) (hN : NmOk L) (hv : BlIn w v L.length h) (b : Bool) (hb : b = true ↔ ∃ i, i < L.length ∧ h i = true ∧ Pk (edg L) L.length i i) :
    Calls Tryz.prog 11 #[.slice ao L.length cap, v] w fun e w' => e = .returned (.bool b) ∧ Hid (Below w.heap.size w w') := by
  have HR := Reach_any ao cap L w hf hN
  have hn60 := hN.len
  obtain ⟨va, vc, rfl, hm⟩ := hv
  obtain ⟨n, hn⟩ : ∃ n, n = L.length := ⟨_, rfl⟩
  rw [← hn] at HR hm hb hn60 ⊢
  have hni : (n : Int) ≤ 60 := by omega
  have HV : Hid (n = 0 ∨ ∃ g, va = some ⟨g, 0, none⟩ ∧ g < w.heap.size ∧ BlAt w g n h) := hm
  have HBb : Hid (b = true ↔ ∃ i, i < n ∧ h i = true ∧ Pk (edg L) n i i) := hb
  clear hf hN hm hb hn
  go_enter Tryz.func11, Tryz.ntmps11
  go_wp2_with fail
  refine HR.mono ?_
  rintro e w1 ⟨u, gs, f, rfl, m1, m2, m3, m4⟩
  have HM : Hid (Mx w.heap.size n u gs f w1) := m1
  have HG : Hid (gs.length = n) := m2
  have HP : Hid (∀ a b, a < n → b < n → (f a b = true ↔ Pk (edg L) n a b)) := m3
  have HB1 : Hid (Below w.heap.size w w1) := m4
  clear m1 m2 m3 m4 HR
  go_wp2
  go_loop [6] (fun i => ∃ k : Nat, k ≤ n ∧ i = .int .i64 (k : Int) ∧ Hid (∀ j, j < k → ¬ (h j = true ∧ Pk (edg L) n j j))) (fun i => n - (intOf i).toNat)
  case atStart =>
    refine ⟨0, Nat.zero_le _, rfl, ?_⟩
    exact (fun j hj => absurd hj (Nat.not_lt_zero _) : ∀ j, j < 0 → ¬ (h j = true ∧ Pk (edg L) n j j))
  case round =>
    obtain ⟨k, hk, rfl, HK⟩ := hrel
    by_cases hlt : k < n
    · have hki : (k : Int) < (n : Int) := by omega
      rcases HV.out with hz | ⟨g, rfl, hg, hbl⟩
      · omega
      have c0 : w1.cell? ⟨g, k, none⟩ = some (.bool (h k)) := (HB1.out.cell (p := ⟨g, k, none⟩) hg).trans (hbl k hlt).1
      have hgl := HG.out
      obtain ⟨R, c, hv, hrow⟩ := HM.out.form (by omega)
      rw [hgl] at hv
      subst hv
      have r1 := hrow k (by omega)
      have s1 := (HM.out.bl k (by omega) k hlt).1
      have HS : Hid (∀ hx : ¬ (h k = true ∧ f k k = true), ∀ j, j < k + 1 → ¬ (h j = true ∧ Pk (edg L) n j j)) := fun hx j hj => by
        rcases (show j < k ∨ j = k by omega) with e | e
        · exact HK.out j e
        · subst e; exact fun h2 => hx ⟨h2.1, (HP.out j j hlt hlt).2 h2.2⟩
      generalize gs[k] = gk at *
      clear hrow hbl
      cases h1 : h k with
      | false =>
        have HE : Hid (∀ j, j < k + 1 → ¬ (h j = true ∧ Pk (edg L) n j j)) := HS.out (fun h2 => by rw [h1] at h2; exact absurd h2.1 (by simp))
        rw [h1] at c0
        clear HS HK h1
        go_wp2
        exact ⟨⟨k + 1, by omega, by go_num, HE⟩, by simp [intOf]; omega⟩
      | true =>
        cases h2 : f k k with
        | false =>
          have HE : Hid (∀ j, j < k + 1 → ¬ (h j = true ∧ Pk (edg L) n j j)) := HS.out (fun h3 => by rw [h2] at h3; exact absurd h3.2 (by simp))
          rw [h1] at c0
          rw [h2] at s1
          clear HS HK h1 h2
          go_wp2
          exact ⟨⟨k + 1, by omega, by go_num, HE⟩, by simp [intOf]; omega⟩
        | true =>
          have hbt : b = true := HBb.out.2 ⟨k, hlt, h1, (HP.out k k hlt hlt).1 h2⟩
          rw [h1] at c0
          rw [h2] at s1
          subst hbt
          clear HS HK h1 h2 HBb
          go_wp2
          go_ret
          exact ⟨rfl, HB1⟩
    · obtain rfl : k = n := by omega
      have hbf : b = false := by
        cases hb : b with
        | false => rfl
        | true =>
          obtain ⟨i, h1, h2⟩ := HBb.out.1 hb
          exact absurd h2 (HK.out i h1)
      subst hbf
      clear HBb HK
      go_wp2
      go_ret
      exact ⟨rfl, HB1⟩

set_option maxHeartbeats 4000000 in
set_option maxRecDepth 100000 in
theorem Everyone_any (ao : Option Addr) (cap : Nat) (L : List Tg) (w : World) (hn : L.length ≤ 60) :
    Calls Tryz.prog 12 #[.slice ao L.length cap] w fun e w' => ∃ v, e = .returned v ∧ BlIn w' v L.length (fun _ => true) ∧ Below w.heap.size w w' := by
  obtain ⟨n, hn2⟩ : ∃ n, n = L.length := ⟨_, rfl⟩
  rw [← hn2] at hn ⊢
  have hni : (n : Int) ≤ 60 := by omega
  obtain ⟨i0, hi, hz0, hz1, hz2⟩ := infoG infBl
  have HAp : Hid (∀ (k : Nat) (u : Value) (wr : World), k ≤ 60 → wr.ownsRow w.heap.size 4 1 u k (List.replicate k (.bool true)) → w.heap.size ≤ wr.heap.size → ∃ u2 w2, (appG #[29, 29] 29 #[u, .slice (some ⟨wr.heap.size, 0, none⟩) 1 1]).run Tryz.prog (wr.alloc (.cells #[.bool true] 4)) = .ok u2 w2 ∧ w2.ownsRow w.heap.size 4 1 u2 (k + 1) (List.replicate (k + 1) (.bool true)) ∧ wr.grownBy w2 u.ownBlock) := fun k u wr hk hr hB => by
    obtain ⟨W, hW⟩ : ∃ W, W = wr.alloc (.cells #[.bool true] 4) := ⟨_, rfl⟩
    have hsz : W.heap.size = wr.heap.size + 1 := by rw [hW]; exact World.size_alloc _ _
    have hbW : Below wr.heap.size wr W := by rw [hW]; exact (Below.refl _ wr).alloc (Nat.le_refl _) _
    have hnew : W.heap[wr.heap.size]? = some (.cells #[.bool true] 4 (0, 0)) := by rw [hW]; exact heap_alloc_new wr _
    obtain ⟨G, C, w1, a1, a2, a3, _, _⟩ := run_append_lies (P := Tryz.prog) W 29 29 w.heap.size 4 i0 (.bool false) 1 1 Tryz.underlying29 hi hz0 hz1 hz2 rfl (by decide) u k (List.replicate k (.bool true)) (by rw [hW]; exact hr.alloc _) ⟨wr.heap.size, 0, none⟩ 1 1 [.bool true] rfl (fun j x hx => by rw [addr_add, Nat.zero_add, Lib.cell_of_heap hnew]; simpa using hx) (fun x hx => by simp at hx; subst hx; rfl) (by decide) (by unfold maxLen; omega) (by omega) (by omega) W.heap.size rfl
    refine ⟨_, w1, by rw [← hW]; exact a1, by rw [List.replicate_succ']; exact a2, a3.os.trans hbW.os, a3.tape.trans hbW.tape, a3.output.trans hbW.output, by have := a3.size; omega, fun g hg hn => (a3.block g (by omega) hn).trans (hbW.block g hg)⟩
  have HE : Hid (∀ u wr, wr.ownsRow w.heap.size 4 1 u n (List.replicate n (.bool true)) → BlIn wr u n (fun _ => true)) := fun u wr hr => by
    rcases hr.2 with ⟨e, h0⟩ | ⟨g, c, cur, e, hb, hg, hc⟩
    · exact ⟨none, 0, by rw [e, h0], .inl h0⟩
    · refine ⟨_, c, e, .inr ⟨g, rfl, (hr.lt g (by rw [e]; rfl)).2, fun j hj => ⟨?_, Lib.frozen_of_heap hg j⟩⟩⟩
      subst e
      have := hr.cells rfl j (.bool true) (by rw [List.getElem?_replicate, if_pos hj])
      rwa [addr_add, Nat.zero_add] at this
  clear hn2 hi hz0 hz1 hz2
  go_enter Tryz.func12, Tryz.ntmps12
  go_wp2
  go_loopw [3, 4] (fun u i wr => ∃ k : Nat, k ≤ n ∧ i = .int .i64 (k : Int) ∧ Hid (wr.ownsRow w.heap.size 4 1 u k (List.replicate k (.bool true)) ∧ Below w.heap.size w wr)) (fun _ i _ => n - (intOf i).toNat)
  case atStart => exact ⟨0, Nat.zero_le _, rfl, World.ownsRow_nil _ _ _ _, Below.refl _ _⟩
  case round =>
    obtain ⟨k, hk, rfl, HK⟩ := hrel
    by_cases hlt : k < n
    · have hki : (k : Int) < (n : Int) := by omega
      obtain ⟨u2, w2, r1, r2, r3⟩ := HAp.out k u3 wr (by omega) HK.out.1 HK.out.2.size
      have HE2 : Hid (w2.ownsRow w.heap.size 4 1 u2 (k + 1) (List.replicate (k + 1) (.bool true)) ∧ Below w.heap.size w w2) := ⟨r2, HK.out.2.grown r3 HK.out.2.size (fun x hx => (HK.out.1.lt x hx).1)⟩
      clear r2 r3 HK
      go_wp2
      exact ⟨⟨k + 1, by omega, by go_num, HE2⟩, by simp [intOf]; omega⟩
    · obtain rfl : k = n := by omega
      have HF : Hid (BlIn wr u3 k (fun _ => true) ∧ Below w.heap.size w wr) := ⟨HE.out u3 wr HK.out.1, HK.out.2⟩
      clear HK
      go_wp2
      go_ret
      exact ⟨u3, rfl, HF.out⟩
end Go.Proofs.YtankaiopdbcndaaGreatDoor

/- The document's own order, plain: the least name that is ready, again and again. -/
namespace Go.Proofs.YtankaiopdbcndaaGreatDoor
open Go.RowKit Go.Shelf Go.Maps
/-- The names of those that are among some. -/
def ksH (L : List Tg) (h : Nat → Bool) : List (List UInt8) := ((List.range L.length).filter h).map fun i => (L.map tnm).getD i []
theorem ksH_mem {L : List Tg} {h : Nat → Bool} {k : List UInt8} : k ∈ ksH L h ↔ ∃ i, ∃ (hi : i < L.length), h i = true ∧ tnm L[i] = k := by
  unfold ksH
  rw [List.mem_map]
  constructor
  · rintro ⟨i, hi, e⟩
    obtain ⟨h1, h2⟩ := List.mem_filter.1 hi
    have h3 := List.mem_range.1 h1
    refine ⟨i, h3, h2, ?_⟩
    rw [← e, List.getD_eq_getElem?_getD, List.getElem?_map, List.getElem?_eq_getElem h3]
    rfl
  · rintro ⟨i, hi, h1, e⟩
    refine ⟨i, List.mem_filter.2 ⟨List.mem_range.2 hi, h1⟩, ?_⟩
    rw [← e, List.getD_eq_getElem?_getD, List.getElem?_map, List.getElem?_eq_getElem hi]
    rfl
theorem ksH_nod {L : List Tg} (hN : NmOk L) (h : Nat → Bool) : (ksH L h).Nodup := by
  unfold ksH
  have hp : ((List.range L.length).filter h).Nodup := List.Nodup.sublist List.filter_sublist List.nodup_range
  rw [List.nodup_iff_pairwise_ne, List.pairwise_map]
  refine (List.nodup_iff_pairwise_ne.1 hp).imp_of_mem fun {a b} ha hb hab e => hab ?_
  have h1 := List.mem_range.1 (List.mem_filter.1 ha).1
  have h2 := List.mem_range.1 (List.mem_filter.1 hb).1
  rw [List.getD_eq_getElem?_getD, List.getD_eq_getElem?_getD, List.getElem?_map, List.getElem?_map, List.getElem?_eq_getElem h1, List.getElem?_eq_getElem h2] at e
  exact nm_inj hN h1 h2 e
theorem ksH_len {L : List Tg} {h : Nat → Bool} : (ksH L h).length ≤ L.length := by
  unfold ksH
  rw [List.length_map]
  exact Nat.le_trans (List.length_filter_le _ _) (by rw [List.length_range]; exact Nat.le_refl _)
/-- One is ready. -/
def RdI (L : List Tg) (h : Nat → Bool) (out : List ByteArray) (j : Nat) : Prop := ∃ (hj : j < L.length), h j = true ∧ L[j].nm ∉ out ∧ ∀ y ∈ L[j].ns, y ∈ out
/-- The least one that is ready among the first. -/
def BsI (L : List Tg) (h : Nat → Bool) (out : List ByteArray) (i : Nat) (best : ByteArray) : Prop := (best = ⟨#[]⟩ ∧ ∀ j, j < i → ¬ RdI L h out j) ∨ (∃ j, ∃ (hj : j < L.length), j < i ∧ RdI L h out j ∧ best = L[j].nm ∧ ∀ m (hm : m < L.length), m < i → RdI L h out m → ltK (tnm L[m]) (tnm L[j]) = false)
theorem nm_ne {L : List Tg} (hN : NmOk L) {j : Nat} (hj : j < L.length) : L[j].nm ≠ ⟨#[]⟩ := fun e => by
  have := hN.nm _ (List.getElem_mem hj)
  rw [e] at this
  unfold nameOk at this
  rw [Lib.toList_data] at this
  exact absurd this (by decide)
section
variable {L : List Tg} {h : Nat → Bool} {out : List ByteArray} {i : Nat} {best : ByteArray}
theorem BsI.zero : BsI L h out 0 ⟨#[]⟩ := .inl ⟨rfl, fun _ hj => absurd hj (Nat.not_lt_zero _)⟩
theorem BsI.no (hb : BsI L h out i best) (hr : ¬ RdI L h out i) : BsI L h out (i + 1) best := by
  rcases hb with ⟨e, h1⟩ | ⟨j, hj, h0, h1, h2, h3⟩
  · refine .inl ⟨e, fun j hj => ?_⟩
    by_cases e2 : j = i
    · rw [e2]; exact hr
    · exact h1 j (by omega)
  · refine .inr ⟨j, hj, by omega, h1, h2, fun m hm hmi hrm => ?_⟩
    by_cases e2 : m = i
    · exact absurd (e2 ▸ hrm) hr
    · exact h3 m hm (by omega) hrm
theorem BsI.stay (hb : BsI L h out i best) (hi : i < L.length) (hne : best ≠ ⟨#[]⟩) (hl : ltK (tnm L[i]) (tl best) = false) : BsI L h out (i + 1) best := by
  rcases hb with ⟨e, h1⟩ | ⟨j, hj, h0, h1, h2, h3⟩
  · exact absurd e hne
  · refine .inr ⟨j, hj, by omega, h1, h2, fun m hm hmi hrm => ?_⟩
    by_cases e2 : m = i
    · subst e2
      rw [h2] at hl
      exact hl
    · exact h3 m hm (by omega) hrm
theorem BsI.take (hb : BsI L h out i best) (hi : i < L.length) (hr : RdI L h out i) (hx : best = ⟨#[]⟩ ∨ ltK (tnm L[i]) (tl best) = true) (hN : NmOk L) : BsI L h out (i + 1) L[i].nm := by
  refine .inr ⟨i, hi, by omega, hr, rfl, fun m hm hmi hrm => ?_⟩
  by_cases e2 : m = i
  · subst e2
    exact decide_eq_false (List.lt_irrefl _)
  · rcases hb with ⟨_, h1⟩ | ⟨j, hj, h0, h1, h2, h3⟩
    · exact absurd hrm (h1 m (by omega))
    · have h4 := of_decide_eq_false (h3 m hm (by omega) hrm)
      rcases hx with hx | hx
      · exact absurd (h2.symm.trans hx) (nm_ne hN hj)
      · rw [h2] at hx
        have h5 : tnm L[i] < tnm L[j] := of_decide_eq_true hx
        exact decide_eq_false fun h6 => h4 (List.lt_trans h6 h5)
theorem nd_at (hN : NmOk L) (hi : i < L.length) : ndT (nfL L) (tnm L[i]) = L[i].ns.map tl := by unfold ndT; rw [nfL_of hN.nod (List.getElem_mem hi)]
theorem rd_of (hN : NmOk L) {k : List UInt8} (hk : k ∈ ksH L h) (hn : k ∉ out.map tl) (hr : ∀ y ∈ ndT (nfL L) k, y ∈ out.map tl) : ∃ j, ∃ (hj : j < L.length), tnm L[j] = k ∧ RdI L h out j := by
  obtain ⟨j, hj, h1, e⟩ := ksH_mem.1 hk
  subst e
  refine ⟨j, hj, rfl, hj, h1, fun hm => hn (List.mem_map.2 ⟨_, hm, rfl⟩), fun y hy => ?_⟩
  rw [nd_at hN hj] at hr
  obtain ⟨z, hz, e⟩ := List.mem_map.1 (hr (tl y) (List.mem_map.2 ⟨y, hy, rfl⟩))
  rw [← tl_ext e]
  exact hz
/-- What was found comes next. -/
theorem BsI.stp (hb : BsI L h out L.length best) (hN : NmOk L) (hne : best ≠ ⟨#[]⟩) : Stp (ksH L h) (ndT (nfL L)) ltK (out.map tl) (tl best) := by
  rcases hb with ⟨e, _⟩ | ⟨j, hj, _, h1, h2, h3⟩
  · exact absurd e hne
  · subst h2
    obtain ⟨_, r1, r2, r3⟩ := h1
    refine ⟨ksH_mem.2 ⟨j, hj, r1, rfl⟩, fun hm => ?_, fun y hy => ?_, fun k hk hn hr => ?_⟩
    · obtain ⟨z, hz, e⟩ := List.mem_map.1 hm
      exact r2 (tl_ext e ▸ hz)
    · rw [show tl L[j].nm = tnm L[j] from rfl, nd_at hN hj] at hy
      obtain ⟨z, hz, e⟩ := List.mem_map.1 hy
      exact List.mem_map.2 ⟨z, r3 z hz, e⟩
    · obtain ⟨m, hm, e, hrm⟩ := rd_of hN hk hn hr
      rw [← e]
      exact h3 m hm hm hrm
theorem BsI.stop (hb : BsI L h out L.length ⟨#[]⟩) (hN : NmOk L) : ∀ k ∈ ksH L h, k ∉ out.map tl → ¬ ∀ y ∈ ndT (nfL L) k, y ∈ out.map tl := fun k hk hn hr => by
  obtain ⟨m, hm, _, hrm⟩ := rd_of hN hk hn hr
  rcases hb with ⟨_, h1⟩ | ⟨j, hj, _, _, h2, _⟩
  · exact h1 m hm hrm
  · exact nm_ne hN hj h2.symm
end
end Go.Proofs.YtankaiopdbcndaaGreatDoor

/- The document's own order, walked. -/
namespace Go.Proofs.YtankaiopdbcndaaGreatDoor
open Go.RowKit Go.Shelf Go.Maps
attribute [local go_sem ↓] appG_eq2
/-- While names come out. -/
structure OI (B : Nat) (L : List Tg) (h : Nat → Bool) (w wr : World) (u : Value) (out : List ByteArray) : Prop where
  row : wr.ownsRow B 9 1 u out.length (out.map Value.string)
  kn : Kn (ksH L h) (ndT (nfL L)) ltK (out.map tl)
  bel : Below B w wr
  lo : B ≤ wr.heap.size
theorem OI.len {B : Nat} {L : List Tg} {h : Nat → Bool} {w wr : World} {u : Value} {out : List ByteArray} (hi : OI B L h w wr u out) : out.length ≤ L.length := by
  have h1 := hi.kn.nodup.length_le_of_subset (l₂ := ksH L h) hi.kn.sub
  have h2 := ksH_len (L := L) (h := h)
  rw [List.length_map] at h1
  omega

set_option maxHeartbeats 8000000 in
set_option maxRecDepth 100000 in
theorem OrderOf_any (ao : Option Addr) (cap : Nat) (L : List Tg) (v : Value) (h : Nat → Bool) (w : World) (hf : Fine w ao L) (hN : NmOk L) (hv : BlIn w v L.length h) :
    Calls Tryz.prog 13 #[.slice ao L.length cap, v] w fun e w' => ∃ u out, e = .returned u ∧ w'.ownsRow w.heap.size 9 1 u out.length (out.map Value.string) ∧ OrQ (nfL L) (fun k => k ∈ ksH L h) (ksH L h) out ∧ Below w.heap.size w w' := by
  have HF : Hid (Fine w ao L) := hf
  have HN : Hid (NmOk L) := hN
  have hn60 := hN.len
  obtain ⟨va, vc, rfl, hm⟩ := hv
  have HV : Hid (L.length = 0 ∨ ∃ g, va = some ⟨g, 0, none⟩ ∧ g < w.heap.size ∧ BlAt w g L.length h) := hm
  have HZ : Hid (∀ u out W, OI w.heap.size L h w W u out → BsI L h out L.length ⟨#[]⟩ → ∃ u2 out2, Ending.returned u = .returned u2 ∧ W.ownsRow w.heap.size 9 1 u2 out2.length (out2.map Value.string) ∧ OrQ (nfL L) (fun k => k ∈ ksH L h) (ksH L h) out2 ∧ Below w.heap.size w W) := fun u out W h1 h2 => ⟨u, out, rfl, h1.row, ⟨ksH_nod hN h, fun _ => Iff.rfl, h1.kn, h2.stop hN⟩, h1.bel⟩
  have hni : (L.length : Int) ≤ 60 := by omega
  have HLn : Hid (L.length ≤ 60) := hn60
  clear hf hN hm
  go_enter Tryz.func13, Tryz.ntmps13
  go_wp2
  go_loopw [5] (fun u wr => ∃ out : List ByteArray, Hid (OI w.heap.size L h w wr u out) ∧ slN u = out.length) (fun u _ => L.length - slN u)
  case atStart => exact ⟨[], ⟨World.ownsRow_nil _ _ _ _, Kn.nil, Below.refl _ _, Nat.le_refl _⟩, rfl⟩
  case round =>
    obtain ⟨out, HO, hsl⟩ := hrel
    have HT : Hid (TxIn wr u5 out) := row_tx HO.out.row (by have := HO.out.len; omega)
    have HH : Hid (∀ x b, (b = true ↔ x ∈ out) → Calls Tryz.prog 18 #[u5, .string x] wr fun e w' => e = .returned (.bool b) ∧ w' = wr) := fun x b hb => HasText_any u5 out x wr HT.out b hb
    have HS : Hid (slN u5 = out.length) := hsl
    clear hsl
    go_wp2
    go_loop [6, 7] (fun bs i => ∃ (k : Nat) (best : ByteArray), k ≤ L.length ∧ bs = .string best ∧ i = .int .i64 (k : Int) ∧ Hid (BsI L h out k best)) (fun _ i => L.length - (intOf i).toNat)
    case atStart => exact ⟨0, ⟨#[]⟩, Nat.zero_le _, rfl, rfl, BsI.zero⟩
    case round =>
      obtain ⟨i, best, hi, rfl, rfl, HBs⟩ := hrel
      by_cases hlt : i < L.length
      · have hii : (i : Int) < (L.length : Int) := by omega
        rcases HV.out with hz | ⟨vg, rfl, hvg, hbl⟩
        · omega
        have cb : wr.cell? ⟨vg, i, none⟩ = some (.bool (h i)) := (HO.out.bel.cell (p := ⟨vg, i, none⟩) hvg).trans (hbl i hlt).1
        obtain ⟨g, o, rfl, hg, hat⟩ := HF.out.is.at_.resolve_left (fun e => by rw [e] at hlt; exact absurd hlt (by simp))
        obtain ⟨c0, _, c2, _⟩ := (hat.below HO.out.bel hg) i hlt
        have hNt := ((HF.out.below HO.out.bel).is.tx L[i] (List.getElem_mem hlt)).2.1
        obtain ⟨_, hnl, na, nc, hnv, hmem⟩ := hNt
        rw [hnv] at c2
        have HNm : Hid (L[i].ns = [] ∨ ∃ g o, na = some ⟨g, o, none⟩ ∧ g < wr.heap.size ∧ ∀ q (hq : q < L[i].ns.length), wr.cell? ⟨g, o + q, none⟩ = some (.string L[i].ns[q])) := hmem
        have hnli : (L[i].ns.length : Int) ≤ 1048576 := by omega
        have HRd : Hid (RdI L h out i ↔ h i = true ∧ L[i].nm ∉ out ∧ ∀ y ∈ L[i].ns, y ∈ out) := ⟨fun ⟨_, r⟩ => r, fun r => ⟨hlt, r⟩⟩
        have HNo : Hid (¬ RdI L h out i → BsI L h out (i + 1) best) := fun hr => HBs.out.no hr
        have HSt : Hid (best ≠ ⟨#[]⟩ → ltK (tl L[i].nm) (tl best) = false → BsI L h out (i + 1) best) := fun h1 h2 => HBs.out.stay hlt h1 h2
        have HTk : Hid (RdI L h out i → (best = ⟨#[]⟩ ∨ ltK (tl L[i].nm) (tl best) = true) → BsI L h out (i + 1) L[i].nm) := fun h1 h2 => HBs.out.take hlt h1 h2 HN.out
        generalize L[i].ns = nl at *
        generalize L[i].nm = nm at *
        clear hat hmem hnv hnl hbl HBs
        cases hhi : h i with
        | false =>
          have HK0 : Hid (false = true ↔ h i = true ∧ nm ∉ out) := by
            show false = true ↔ _
            rw [hhi]
            simp
          rw [hhi] at cb
          clear hhi
          go_wp2
          go_loop [8, 9] (fun ok u => ∃ (q : Nat) (bq : Bool), q ≤ nl.length ∧ ok = .bool bq ∧ u = .int .i64 (q : Int) ∧ Hid (bq = true ↔ false = true ∧ ∀ j (hj : j < nl.length), j < q → nl[j] ∈ out)) (fun _ u => nl.length - (intOf u).toNat)
          case atStart =>
            refine ⟨0, false, Nat.zero_le _, rfl, rfl, ?_⟩
            exact (⟨fun h => ⟨h, fun j hj h0 => absurd h0 (Nat.not_lt_zero _)⟩, fun h => h.1⟩ : false = true ↔ false = true ∧ ∀ j (hj : j < nl.length), j < 0 → nl[j] ∈ out)
          case round =>
            obtain ⟨q, bq, hq, rfl, rfl, HQ⟩ := hrel
            by_cases hql : q < nl.length
            · have hqi : (q : Int) < (nl.length : Int) := by omega
              rcases HNm.out with hz | ⟨ng, no, rfl, _, hcn⟩
              · exfalso; rw [hz] at hql; exact absurd hql (by simp)
              have cn := hcn q hql
              have HQn : Hid (∀ b2 : Bool, (b2 = true ↔ nl[q] ∈ out) → ((bq && b2) = true ↔ false = true ∧ ∀ j (hj : j < nl.length), j < q + 1 → nl[j] ∈ out)) := fun b2 hb2 => by
                rw [Bool.and_eq_true, HQ.out, hb2]
                constructor
                · rintro ⟨⟨h1, h2⟩, h3⟩
                  refine ⟨h1, fun j hj hjq => ?_⟩
                  rcases (show j < q ∨ j = q by omega) with e | e
                  · exact h2 j hj e
                  · subst e; exact h3
                · rintro ⟨h1, h2⟩
                  exact ⟨⟨h1, fun j hj hjq => h2 j hj (by omega)⟩, h2 q hql (by omega)⟩
              obtain ⟨b2, hb2⟩ : ∃ b2 : Bool, b2 = true ↔ nl[q] ∈ out := ⟨@decide (nl[q] ∈ out) (Classical.propDecidable _), by simp⟩
              have HC := HH.out nl[q] b2 hb2
              have HE : Hid ((bq && b2) = true ↔ false = true ∧ ∀ j (hj : j < nl.length), j < q + 1 → nl[j] ∈ out) := HQn.out b2 hb2
              generalize nl[q] = y at *
              clear hcn HQn HQ hb2
              cases bq with
              | false =>
                have HE2 : Hid (false = true ↔ false = true ∧ ∀ j (hj : j < nl.length), j < q + 1 → nl[j] ∈ out) := HE
                clear HE
                go_wp2
                exact ⟨⟨q + 1, false, by omega, rfl, by go_num, HE2⟩, by simp [intOf]; omega⟩
              | true =>
                have HE2 : Hid (b2 = true ↔ false = true ∧ ∀ j (hj : j < nl.length), j < q + 1 → nl[j] ∈ out) := HE
                clear HE
                go_wp2_with (first | (go_at_call 18; refine HC.mono ?_; rintro e wx ⟨rfl, rfl⟩) | go_in)
                exact ⟨⟨q + 1, b2, by omega, rfl, by go_num, HE2⟩, by simp [intOf]; omega⟩
            · obtain rfl : q = nl.length := by omega
              have HRb : Hid (bq = true ↔ RdI L h out i) := by
                show bq = true ↔ _
                rw [HRd.out, HQ.out, HK0.out, and_assoc]
                refine and_congr_right fun _ => and_congr_right fun _ => ⟨fun hh y hy => ?_, fun hh j hj _ => hh _ (List.getElem_mem hj)⟩
                obtain ⟨j, hj, rfl⟩ := List.mem_iff_getElem.1 hy
                exact hh j hj hj
              clear HQ HRd HNm HK0
              cases bq with
              | false =>
                have HE : Hid (BsI L h out (i + 1) best) := HNo.out (fun hr => absurd (HRb.out.2 hr) (by simp))
                clear HNo HSt HTk HRb
                go_wp2
                exact ⟨⟨i + 1, best, by omega, rfl, by go_num, HE⟩, by simp [intOf]; omega⟩
              | true =>
                by_cases hbe : best = ⟨#[]⟩
                · have HE : Hid (BsI L h out (i + 1) nm) := HTk.out (HRb.out.1 rfl) (.inl hbe)
                  subst hbe
                  clear HNo HSt HTk HRb
                  go_wp2
                  exact ⟨⟨i + 1, nm, by omega, rfl, by go_num, HE⟩, by simp [intOf]; omega⟩
                · have hq1 : (best.toList == (⟨#[]⟩ : ByteArray).toList) = false := by
                    rw [beq_eq_false_iff_ne]
                    exact fun e => hbe (bq_ext e)
                  have hq2 : (best.toList == []) = false := by
                    rw [beq_eq_false_iff_ne]
                    exact fun e => hbe (bq_ext (by rw [e, Lib.toList_data]))
                  have hls : Op.bytesLess nm.toList best.toList = ltK (tl nm) (tl best) := by rw [tltG, Lib.toList_data, Lib.toList_data]; rfl
                  cases hlt2 : ltK (tl nm) (tl best) with
                  | true =>
                    have HE : Hid (BsI L h out (i + 1) nm) := HTk.out (HRb.out.1 rfl) (.inr hlt2)
                    rw [hlt2] at hls
                    clear HNo HSt HTk HRb hbe hlt2
                    go_wp2
                    exact ⟨⟨i + 1, nm, by omega, rfl, by go_num, HE⟩, by simp [intOf]; omega⟩
                  | false =>
                    have HE : Hid (BsI L h out (i + 1) best) := HSt.out hbe hlt2
                    rw [hlt2] at hls
                    clear HNo HSt HTk HRb hbe hlt2
                    go_wp2
                    exact ⟨⟨i + 1, best, by omega, rfl, by go_num, HE⟩, by simp [intOf]; omega⟩
        | true =>
          obtain ⟨b0, hb0⟩ : ∃ b0 : Bool, b0 = true ↔ nm ∈ out := ⟨@decide (nm ∈ out) (Classical.propDecidable _), by simp⟩
          have HK0 : Hid ((!b0) = true ↔ h i = true ∧ nm ∉ out) := by
            show (!b0) = true ↔ _
            rw [hhi, ← hb0]
            simp
          have HC0 := HH.out nm b0 hb0
          rw [hhi] at cb
          clear hhi hb0
          go_wp2_with (first | (go_at_call 18; refine HC0.mono ?_; rintro e wx ⟨rfl, rfl⟩) | go_in)
          go_loop [8, 9] (fun ok u => ∃ (q : Nat) (bq : Bool), q ≤ nl.length ∧ ok = .bool bq ∧ u = .int .i64 (q : Int) ∧ Hid (bq = true ↔ (!b0) = true ∧ ∀ j (hj : j < nl.length), j < q → nl[j] ∈ out)) (fun _ u => nl.length - (intOf u).toNat)
          case atStart =>
            refine ⟨0, (!b0), Nat.zero_le _, rfl, rfl, ?_⟩
            exact (⟨fun h => ⟨h, fun j hj h0 => absurd h0 (Nat.not_lt_zero _)⟩, fun h => h.1⟩ : (!b0) = true ↔ (!b0) = true ∧ ∀ j (hj : j < nl.length), j < 0 → nl[j] ∈ out)
          case round =>
            obtain ⟨q, bq, hq, rfl, rfl, HQ⟩ := hrel
            by_cases hql : q < nl.length
            · have hqi : (q : Int) < (nl.length : Int) := by omega
              rcases HNm.out with hz | ⟨ng, no, rfl, _, hcn⟩
              · exfalso; rw [hz] at hql; exact absurd hql (by simp)
              have cn := hcn q hql
              have HQn : Hid (∀ b2 : Bool, (b2 = true ↔ nl[q] ∈ out) → ((bq && b2) = true ↔ (!b0) = true ∧ ∀ j (hj : j < nl.length), j < q + 1 → nl[j] ∈ out)) := fun b2 hb2 => by
                rw [Bool.and_eq_true, HQ.out, hb2]
                constructor
                · rintro ⟨⟨h1, h2⟩, h3⟩
                  refine ⟨h1, fun j hj hjq => ?_⟩
                  rcases (show j < q ∨ j = q by omega) with e | e
                  · exact h2 j hj e
                  · subst e; exact h3
                · rintro ⟨h1, h2⟩
                  exact ⟨⟨h1, fun j hj hjq => h2 j hj (by omega)⟩, h2 q hql (by omega)⟩
              obtain ⟨b2, hb2⟩ : ∃ b2 : Bool, b2 = true ↔ nl[q] ∈ out := ⟨@decide (nl[q] ∈ out) (Classical.propDecidable _), by simp⟩
              have HC := HH.out nl[q] b2 hb2
              have HE : Hid ((bq && b2) = true ↔ (!b0) = true ∧ ∀ j (hj : j < nl.length), j < q + 1 → nl[j] ∈ out) := HQn.out b2 hb2
              generalize nl[q] = y at *
              clear hcn HQn HQ hb2
              cases bq with
              | false =>
                have HE2 : Hid (false = true ↔ (!b0) = true ∧ ∀ j (hj : j < nl.length), j < q + 1 → nl[j] ∈ out) := HE
                clear HE
                go_wp2
                exact ⟨⟨q + 1, false, by omega, rfl, by go_num, HE2⟩, by simp [intOf]; omega⟩
              | true =>
                have HE2 : Hid (b2 = true ↔ (!b0) = true ∧ ∀ j (hj : j < nl.length), j < q + 1 → nl[j] ∈ out) := HE
                clear HE
                go_wp2_with (first | (go_at_call 18; refine HC.mono ?_; rintro e wx ⟨rfl, rfl⟩) | go_in)
                exact ⟨⟨q + 1, b2, by omega, rfl, by go_num, HE2⟩, by simp [intOf]; omega⟩
            · obtain rfl : q = nl.length := by omega
              have HRb : Hid (bq = true ↔ RdI L h out i) := by
                show bq = true ↔ _
                rw [HRd.out, HQ.out, HK0.out, and_assoc]
                refine and_congr_right fun _ => and_congr_right fun _ => ⟨fun hh y hy => ?_, fun hh j hj _ => hh _ (List.getElem_mem hj)⟩
                obtain ⟨j, hj, rfl⟩ := List.mem_iff_getElem.1 hy
                exact hh j hj hj
              clear HQ HRd HNm HK0
              cases bq with
              | false =>
                have HE : Hid (BsI L h out (i + 1) best) := HNo.out (fun hr => absurd (HRb.out.2 hr) (by simp))
                clear HNo HSt HTk HRb
                go_wp2
                exact ⟨⟨i + 1, best, by omega, rfl, by go_num, HE⟩, by simp [intOf]; omega⟩
              | true =>
                by_cases hbe : best = ⟨#[]⟩
                · have HE : Hid (BsI L h out (i + 1) nm) := HTk.out (HRb.out.1 rfl) (.inl hbe)
                  subst hbe
                  clear HNo HSt HTk HRb
                  go_wp2
                  exact ⟨⟨i + 1, nm, by omega, rfl, by go_num, HE⟩, by simp [intOf]; omega⟩
                · have hq1 : (best.toList == (⟨#[]⟩ : ByteArray).toList) = false := by
                    rw [beq_eq_false_iff_ne]
                    exact fun e => hbe (bq_ext e)
                  have hq2 : (best.toList == []) = false := by
                    rw [beq_eq_false_iff_ne]
                    exact fun e => hbe (bq_ext (by rw [e, Lib.toList_data]))
                  have hls : Op.bytesLess nm.toList best.toList = ltK (tl nm) (tl best) := by rw [tltG, Lib.toList_data, Lib.toList_data]; rfl
                  cases hlt2 : ltK (tl nm) (tl best) with
                  | true =>
                    have HE : Hid (BsI L h out (i + 1) nm) := HTk.out (HRb.out.1 rfl) (.inr hlt2)
                    rw [hlt2] at hls
                    clear HNo HSt HTk HRb hbe hlt2
                    go_wp2
                    exact ⟨⟨i + 1, nm, by omega, rfl, by go_num, HE⟩, by simp [intOf]; omega⟩
                  | false =>
                    have HE : Hid (BsI L h out (i + 1) best) := HSt.out hbe hlt2
                    rw [hlt2] at hls
                    clear HNo HSt HTk HRb hbe hlt2
                    go_wp2
                    exact ⟨⟨i + 1, best, by omega, rfl, by go_num, HE⟩, by simp [intOf]; omega⟩
      · obtain rfl : i = L.length := by omega
        have HBs2 : Hid (BsI L h out L.length best) := HBs
        clear HBs HH HV HF
        by_cases hbe : best = ⟨#[]⟩
        · subst hbe
          have HE := HZ.out u5 out wr HO.out HBs2.out
          have HE2 : Hid (∃ u2 out2, Ending.returned u5 = .returned u2 ∧ wr.ownsRow w.heap.size 9 1 u2 out2.length (out2.map Value.string) ∧ OrQ (nfL L) (fun k => k ∈ ksH L h) (ksH L h) out2 ∧ Below w.heap.size w wr) := HE
          clear HE HZ HBs2 HO HT
          go_wp2
          go_ret
          obtain ⟨u2, out2, q1, q2, q3, q4⟩ := HE2.out
          exact ⟨u2, q1, out2, q2, q3, q4⟩
        · have hq1 : (best.toList == (⟨#[]⟩ : ByteArray).toList) = false := by
            rw [beq_eq_false_iff_ne]
            exact fun e => hbe (bq_ext e)
          have hq2 : (best.toList == []) = false := by
            rw [beq_eq_false_iff_ne]
            exact fun e => hbe (bq_ext (by rw [e, Lib.toList_data]))
          have hol := HO.out.len
          obtain ⟨G, C, w1, r1, r2, r3, _⟩ := row_app HO.out.row best HO.out.lo (by omega)
          have HO2 : OI w.heap.size L h w w1 (.slice (some ⟨G, 0, none⟩) (out ++ [best]).length C) (out ++ [best]) := ⟨r2, by
            rw [List.map_append]
            exact Kn.snoc _ _ HO.out.kn (HBs2.out.stp HN.out hbe), HO.out.bel.grown r3 HO.out.lo (fun x hx => (HO.out.row.lt x hx).1), Nat.le_trans HO.out.lo r3.size⟩
          have hl2 := HO2.len
          have hl3 : (out ++ [best]).length = out.length + 1 := by simp
          have HO3 : Hid (OI w.heap.size L h w w1 (.slice (some ⟨G, 0, none⟩) (out.length + 1) C) (out ++ [best])) := by
            have h9 := HO2
            rw [hl3] at h9
            exact h9
          have HL3 : Hid ((out ++ [best]).length = out.length + 1 ∧ out.length + 1 ≤ L.length) := ⟨hl3, by omega⟩
          clear r2 r3 HO2 HBs2 HO HT hl2 hl3 hol HZ hbe
          go_wp2
          exact ⟨⟨out ++ [best], HO3, by simp [slN]⟩, by
            show L.length - (out.length + 1) < L.length - slN u5
            have := HL3.out
            have := HS.out
            omega⟩
end Go.Proofs.YtankaiopdbcndaaGreatDoor

/- Circles, plain: where an order does not come to its end there is one. -/
namespace Go.Proofs.YtankaiopdbcndaaGreatDoor
open Go.RowKit Go.Shelf Go.Maps
theorem loop_of {nd : List UInt8 → List (List UInt8)} {V : List UInt8 → Prop} {ks : List (List UInt8)} (hk : ∀ x, V x → x ∈ ks) (hs : ∀ x, V x → ∃ y ∈ nd x, V y) {x0 : List UInt8} (h0 : V x0) : ∃ x, V x ∧ Rp nd x x := by
  have hc : ∀ x : {x // V x}, ∃ y : {y // V y}, y.val ∈ nd x.val := fun x => by
    obtain ⟨y, h1, h2⟩ := hs x.val x.property
    exact ⟨⟨y, h2⟩, h1⟩
  obtain ⟨g, hg⟩ := Classical.axiomOfChoice hc
  let sq : Nat → {x // V x} := fun n => Nat.rec ⟨x0, h0⟩ (fun _ x => g x) n
  have hstep : ∀ n, (sq (n + 1)).val ∈ nd (sq n).val := fun n => hg (sq n)
  have hrp : ∀ d i, Rp nd (sq i).val (sq (i + (d + 1))).val := fun d i => by
    induction d with
    | zero => exact Rs.base (hstep i)
    | succ d ih => exact Rs.step ih (hstep (i + (d + 1)))
  apply Classical.byContradiction
  intro hno
  have hnd : ((List.range (ks.length + 1)).map fun n => (sq n).val).Nodup := by
    rw [List.nodup_iff_pairwise_ne, List.pairwise_iff_getElem]
    intro i j hi hj hij e
    simp at e
    have := hrp (j - i - 1) i
    rw [show i + (j - i - 1 + 1) = j by omega, ← e] at this
    exact hno ⟨_, (sq i).property, this⟩
  have := hnd.length_le_of_subset (l₂ := ks) fun x hx => by
    obtain ⟨n, _, rfl⟩ := List.mem_map.1 hx
    exact hk _ (sq n).property
  simp at this
  omega
/-- An order comes to its end just where there is no circle. -/
theorem OrQ.circ {nf : List UInt8 → List ByteArray} {S : List UInt8 → Prop} {ks : List (List UInt8)} {o : List ByteArray} (h : OrQ nf S ks o) (hc : ∀ k, S k → ∀ y ∈ ndT nf k, S y) : o.length < ks.length ↔ ∃ k, S k ∧ Rp (ndT nf) k k := by
  have hle : o.length ≤ ks.length := by
    have := h.kn.nodup.length_le_of_subset h.kn.sub
    simpa using this
  constructor
  · intro hl
    have hex : ∃ x0, x0 ∈ ks ∧ x0 ∉ o.map tl := by
      apply Classical.byContradiction
      intro hno
      have := h.nod.length_le_of_subset (l₂ := o.map tl) fun k hk => Classical.byContradiction fun hn => hno ⟨k, hk, hn⟩
      simp at this
      omega
    obtain ⟨x0, h1, h2⟩ := hex
    obtain ⟨x, ⟨hx, _⟩, hr⟩ := loop_of (nd := ndT nf) (V := fun x => S x ∧ x ∉ o.map tl) (ks := ks) (fun x hx => (h.mem x).2 hx.1) (fun x hx => by
      have hst := h.stop x ((h.mem x).2 hx.1) hx.2
      obtain ⟨y, hy⟩ := Classical.not_forall.1 hst
      obtain ⟨hy1, hy2⟩ := Classical.not_imp.1 hy
      exact ⟨y, hy1, hc x hx.1 y hy1, hy2⟩) (x0 := x0) ⟨(h.mem x0).1 h1, h2⟩
    exact ⟨x, hx, hr⟩
  · rintro ⟨k, hk, hr⟩
    apply Classical.byContradiction
    intro hge
    have hall := all_out h.kn.nodup h.kn.sub (by simp; omega) k ((h.mem k).2 hk)
    exact h.kn.noLoop hall hr
/-- Where the document sees a circle. -/
def Crc (L : List Tg) (h : Nat → Bool) : Prop := ∃ i, i < L.length ∧ h i = true ∧ Pk (edg L) L.length i i
theorem crc_iff {L : List Tg} {S : List UInt8 → Prop} {h : Nat → Bool} (hN : NmOk L) (hS : ∀ k, k ∈ ksH L h ↔ S k) : Crc L h ↔ ∃ k, S k ∧ Rp (ndT (nfL L)) k k := by
  constructor
  · rintro ⟨i, hi, h1, h2⟩
    exact ⟨tnm L[i], (hS _).1 (ksH_mem.2 ⟨i, hi, h1, rfl⟩), pk_rp hN _ (Nat.le_refl _) i i hi hi h2⟩
  · rintro ⟨k, h1, h2⟩
    obtain ⟨i, hi, h3, e⟩ := ksH_mem.1 ((hS k).2 h1)
    subst e
    exact ⟨i, hi, h3, rp_pk hN hi hi h2⟩
theorem ls_circ {L : List Tg} {S : List UInt8 → Prop} {h : Nat → Bool} {out : List ByteArray} {code : Int} (hN : NmOk L) (hS : ∀ k, k ∈ ksH L h ↔ S k) (hl : LsA 0 (nfL L) S out code) (hc : ∀ k, S k → ∀ y ∈ ndT (nfL L) k, S y) (hx : Crc L h) : out = [] ∧ code = 10 := by
  rcases hl with ⟨h0, _⟩ | ⟨_, ks, q, hq, ⟨_, h2, h3⟩ | ⟨h2, _, _⟩⟩
  · exact absurd rfl h0
  · exact ⟨h2, h3⟩
  · have := (hq.circ hc).2 ((crc_iff hN hS).1 hx)
    omega
theorem ls_flat {L : List Tg} {S : List UInt8 → Prop} {h : Nat → Bool} {out o : List ByteArray} {code : Int} (hN : NmOk L) (hS : ∀ k, k ∈ ksH L h ↔ S k) (hl : LsA 0 (nfL L) S out code) (hc : ∀ k, S k → ∀ y ∈ ndT (nfL L) k, S y) (hx : ¬ Crc L h) (ho : OrQ (nfL L) (fun k => k ∈ ksH L h) (ksH L h) o) : out = o ∧ code = 0 := by
  have ho2 : OrQ (nfL L) S (ksH L h) o := ⟨ho.nod, hS, ho.kn, ho.stop⟩
  have h1 : ¬ o.length < (ksH L h).length := fun h1 => hx ((crc_iff hN hS).2 ((ho2.circ hc).1 h1))
  have hle : o.length ≤ (ksH L h).length := by
    have := ho.kn.nodup.length_le_of_subset ho.kn.sub
    simpa using this
  exact hl.uniq (.inr ⟨rfl, _, o, ho2, .inr ⟨by omega, rfl, rfl⟩⟩) (fun _ _ => Iff.rfl) (fun _ _ _ => rfl)
theorem ksH_all {L : List Tg} (k : List UInt8) : k ∈ ksH L (fun _ => true) ↔ k ∈ L.map tnm := by
  rw [ksH_mem, List.mem_map]
  constructor
  · rintro ⟨i, hi, _, e⟩
    exact ⟨L[i], List.getElem_mem hi, e⟩
  · rintro ⟨t, ht, e⟩
    obtain ⟨i, hi, rfl⟩ := List.mem_iff_getElem.1 ht
    exact ⟨i, hi, rfl, e⟩
theorem NmOk.clT {L : List Tg} (h : NmOk L) : ∀ k, k ∈ L.map tnm → ∀ y ∈ ndT (nfL L) k, y ∈ L.map tnm := fun k hk y hy => by
  obtain ⟨z, hz, rfl⟩ := List.mem_map.1 hy
  exact h.cl k hk z hz
end Go.Proofs.YtankaiopdbcndaaGreatDoor

/- What the laws begin with: two targets, one of which needs the other. -/
namespace Go.Proofs.YtankaiopdbcndaaGreatDoor
open Go.RowKit Go.Shelf Go.Maps
def aB : ByteArray := ⟨#[97]⟩
def bB : ByteArray := ⟨#[98]⟩
def nlS : Value := .slice none 0 0
def tgA (g : Nat) : Tg := ⟨aB, nlS, .slice (some ⟨g, 0, none⟩) 1 1, nlS, nlS, [], [bB], [], []⟩
def tgB : Tg := ⟨bB, nlS, nlS, nlS, nlS, [], [], [], []⟩
def tg2 (g : Nat) : List Tg := [tgA g, tgB]
theorem nmA : nameOk aB = true := by unfold nameOk; rw [Lib.toList_data]; decide
theorem nmBB : nameOk bB = true := by unfold nameOk; rw [Lib.toList_data]; decide
theorem names2 (g : Nat) : (tg2 g).map tnm = [[97], [98]] := rfl
theorem nf2_a (g : Nat) : nfL (tg2 g) [97] = [bB] := rfl
theorem nf2_b (g : Nat) : nfL (tg2 g) [98] = [] := rfl
theorem nd2_a (g : Nat) : ndT (nfL (tg2 g)) [97] = [[98]] := rfl
theorem nd2_b (g : Nat) : ndT (nfL (tg2 g)) [98] = [] := rfl
theorem ok2 (g : Nat) : NmOk (tg2 g) := by
  refine ⟨by simp [tg2], fun t ht => ?_, by rw [names2]; decide, fun t ht y hy => ?_⟩
  · rcases List.mem_cons.1 ht with rfl | ht
    · exact nmA
    · rw [List.mem_singleton.1 ht]; exact nmBB
  · rw [names2]
    rcases List.mem_cons.1 ht with rfl | ht
    · rw [List.mem_singleton.1 (show y ∈ [bB] from hy)]
      decide
    · rw [List.mem_singleton.1 ht] at hy
      cases hy
theorem ck2 (g : Nat) : ckN (tg2 g) = 0 := ckN_ok.2 (ok2 g)
theorem ck1 (g : Nat) : ckN [tgA g] = 5 := by
  have h1 : ([tgA g].any fun t => !nameOk t.nm) = false := by
    rw [List.any_cons, show (tgA g).nm = aB from rfl, nmA]
    rfl
  unfold ckN
  rw [if_neg (by simp), if_neg (by rw [h1]; simp), if_pos (by simp), if_pos ?_]
  refine List.any_eq_true.2 ⟨tgA g, by simp, List.any_eq_true.2 ⟨bB, by simp [tgA], ?_⟩⟩
  rw [has_ndD]
  rfl
theorem kn2 (g : Nat) (S : List UInt8 → Prop) (hS : ∀ k, k ∈ [[97], [98]] ↔ S k) : OrQ (nfL (tg2 g)) S [[97], [98]] [bB, aB] := by
  refine ⟨by decide, hS, fun i hi => ?_, fun k hk hn => ?_⟩
  · have h2 : i < 2 := hi
    rcases (show i = 0 ∨ i = 1 by omega) with rfl | rfl
    · show Stp _ _ _ [] [98]
      refine ⟨by decide, by decide, fun y hy => ?_, fun k hk _ hr => ?_⟩
      · rw [nd2_b] at hy
        cases hy
      · rcases List.mem_cons.1 hk with rfl | hk
        · rw [nd2_a] at hr
          have := hr [98] (by simp)
          cases this
        · rw [List.mem_singleton.1 hk]
          decide
    · show Stp _ _ _ [[98]] [97]
      refine ⟨by decide, by decide, fun y hy => ?_, fun k hk hn _ => ?_⟩
      · rw [nd2_a] at hy
        rw [List.mem_singleton.1 hy]
        decide
      · rcases List.mem_cons.1 hk with rfl | hk
        · decide
        · rw [List.mem_singleton.1 hk] at hn
          exact absurd (by decide) hn
  · exfalso
    apply hn
    rcases List.mem_cons.1 hk with rfl | hk
    · decide
    · rw [List.mem_singleton.1 hk]
      decide
theorem ls2 (g : Nat) {o : List ByteArray} {c : Int} (h : LsA (ckN (tg2 g)) (nfL (tg2 g)) (fun k => k ∈ (tg2 g).map tnm) o c) : o = [bB, aB] ∧ c = 0 :=
  h.uniq (.inr ⟨ck2 g, _, _, kn2 g (fun k => k ∈ (tg2 g).map tnm) (fun _ => Iff.rfl), .inr ⟨rfl, rfl, rfl⟩⟩) (fun _ _ => Iff.rfl) (fun _ _ _ => rfl)
theorem ckw2 (g : Nat) (x : ByteArray) (h : tl x ∈ [[97], [98]]) : ckW (tg2 g) x = 0 := ckW_ok.2 ⟨ok2 g, by rw [names2]; exact h⟩
theorem cn2 (g : Nat) (k : List UInt8) : k ∈ [[97], [98]] ↔ CnS (tg2 g) aB k := by
  constructor
  · intro hk
    rcases List.mem_cons.1 hk with rfl | hk
    · exact Rs.base rfl
    · rw [List.mem_singleton.1 hk]
      exact Rs.step (a := [97]) (Rs.base rfl) (by rw [nd2_a]; simp)
  · intro h
    refine h (fun k => k ∈ [[97], [98]]) (fun x hx => by rw [hx]; decide) (fun a ha y hy => ?_)
    rcases List.mem_cons.1 ha with rfl | ha
    · rw [nd2_a] at hy
      rw [List.mem_singleton.1 hy]
      decide
    · rw [List.mem_singleton.1 ha, nd2_b] at hy
      cases hy
theorem dpv2 (g : Nat) : (1 : Int) = dpF (nfL (tg2 g)) [bB, aB] (tl aB) := by
  have e : dpF (nfL (tg2 g)) [bB, aB] = dpI [97] [bB] (dpI [98] [] fun _ => 0) := rfl
  rw [e]
  decide
theorem dp2 (g : Nat) {n c : Int} (h : DpA (ckW (tg2 g) aB) (nfL (tg2 g)) (CnS (tg2 g) aB) (tl aB) n c) : n = 1 ∧ c = 0 :=
  h.uniq (.inr ⟨ckw2 g aB (by decide), _, _, kn2 g _ (cn2 g), .inr ⟨rfl, dpv2 g, rfl⟩⟩) (fun _ _ => Iff.rfl) (fun _ _ _ => rfl)
theorem us2 (g : Nat) {o : List ByteArray} {c : Int} (h : UsA (ckW (tg2 g) bB) (UsT (tg2 g) bB) o c) : o = [aB] ∧ c = 0 := by
  refine h.uniq (T2 := UsT (tg2 g) bB) (.inr ⟨ckw2 g bB (by decide), rfl, List.pairwise_singleton _ _, fun k => ?_⟩) (fun _ _ => Iff.rfl)
  constructor
  · intro hk
    rw [List.mem_singleton.1 (show k ∈ [[97]] from hk)]
    exact ⟨by rw [names2]; simp, Rs.base (by rw [nd2_a]; simp [tl, bB])⟩
  · rintro ⟨h1, h2⟩
    rw [names2] at h1
    rcases List.mem_cons.1 h1 with rfl | h1
    · decide
    · rw [List.mem_singleton.1 h1] at h2
      exact (h2 (fun _ => False) (fun x hx => by rw [nd2_b] at hx; cases hx) (fun _ ha _ _ => ha)).elim
end Go.Proofs.YtankaiopdbcndaaGreatDoor
