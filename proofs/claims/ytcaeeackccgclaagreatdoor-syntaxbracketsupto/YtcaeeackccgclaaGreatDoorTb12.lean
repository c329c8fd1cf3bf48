/- Statements that say the same: both rows, whatever is in them. -/
import Derived.Laws.OwnMore
import Derived.Test.YtcaeeackccgclaaGreatDoorTb11
namespace Go.Proofs.YtcaeeackccgclaaGreatDoor
open Go.RowKit Go.Shelf

theorem blk {w w' : World} (hb : Below w.heap.size w w') : ∀ g, g < w.heap.size → w'.heap[g]? = w.heap[g]? := fun g hg => hb.block g hg
/-- A row of one expression, just built. -/
theorem ex_one {w : World} {x : Ex} {kv mv : Value} {g : Nat} (hg : w.heap[g]? = some (.cells #[.int .i64 x.kind, .int .i64 x.num, sv x.text, kv, mv] 38 (0, 0))) : ∀ k, k < 1 →
    w.cell? ⟨g, k * 5, none⟩ = some (.int .i64 x.kind) ∧ w.cell? ⟨g, k * 5 + 1, none⟩ = some (.int .i64 x.num) ∧ w.cell? ⟨g, k * 5 + 2, none⟩ = some (sv x.text) ∧ w.cell? ⟨g, k * 5 + 3, none⟩ = some kv ∧ w.cell? ⟨g, k * 5 + 4, none⟩ = some mv := by
  intro k hk
  obtain rfl : k = 0 := by omega
  refine ⟨?_, ?_, ?_, ?_, ?_⟩ <;> (rw [Lib.cell_of_heap hg]; rfl)
theorem SExprs_new {n : Nat} {x : Ex} {kv mv kv' mv' : Value} {w : World} (h1 : ExR w n kv x.kids) (h2 : RowAt w 1 mv x.names.length (x.names.map sv)) (h1' : ExR w n kv' x.kids) (h2' : RowAt w 1 mv' x.names.length (x.names.map sv)) {g g' : Nat}
    (hg : w.heap[g]? = some (.cells #[.int .i64 x.kind, .int .i64 x.num, sv x.text, kv, mv] 38 (0, 0))) (hg' : w.heap[g']? = some (.cells #[.int .i64 x.kind, .int .i64 x.num, sv x.text, kv', mv'] 38 (0, 0))) :
    Calls Tryz.prog 16 #[.slice (some ⟨g, 0, none⟩) 1 1, .slice (some ⟨g', 0, none⟩) 1 1] w fun e w' => e = .returned (.bool true) ∧ ∃ m, w' = w.drewN m := by
  refine SExprs_walk _ _ 1 1 1 w (by decide) fun k m hk => ?_
  obtain ⟨a0, a1, a2, a3, a4⟩ := ex_one hg k hk
  obtain ⟨b0, b1, b2, b3, b4⟩ := ex_one hg' k hk
  exact ⟨g, g', _, _, _, kv, mv, kv', mv', rfl, rfl, ⟨a0, a1, a2, a3, a4⟩, ⟨b0, b1, b2, b3, b4⟩, fun M => STexts_ok mv mv' x.names ((w.drewN m).drewN M) (h2.keep fun _ _ => rfl) (h2'.keep fun _ _ => rfl), fun M => SExprs_ok n kv kv' x.kids ((w.drewN m).drewN M) ((h1.drewN m).drewN M) ((h1'.drewN m).drewN M)⟩
theorem below_drewN {B : Nat} {w w' : World} (h : Below B w w') (n : Nat) : Below B w (w'.drewN n) := ⟨h.os, h.tape, h.output, h.size, h.block⟩
theorem ExR.le {w : World} {n m : Nat} {v : Value} {l : List Ex} (h : ExR w n v l) (hm : n ≤ m) : ExR w m v l := by
  obtain ⟨vs, h1, h2⟩ := h
  exact ⟨vs, h1, h2.mono fun _ _ f => f.le _ hm⟩
theorem ExR.shape {w : World} {n : Nat} {v : Value} {l : List Ex} (h : ExR w n v l) : ∃ a c, v = .slice a l.length c := by
  obtain ⟨vs, ⟨a, c, e, _⟩, _⟩ := h
  exact ⟨a, c, e⟩

theorem SStmts_ok : ∀ (n : Nat) (v u : Value) (l : List Sm) (w : World), StW w n v l → StW w n u l →
    Calls Tryz.prog 9 #[v, u] w fun e w' => e = .returned (.bool true) ∧ Below w.heap.size w w' := by
  intro n
  induction n with
  | zero =>
    intro v u l w hx hy
    obtain ⟨vs, ⟨xa, xc, rfl, _, hn⟩, hf⟩ := hx
    obtain ⟨us, ⟨ya, yc, rfl, _, _⟩, _⟩ := hy
    refine SStmts_walk xa ya l.length xc yc w hn fun k V _ hk => ?_
    match l, vs, hf, hk with
    | a :: l, b :: vs, hf, _ => exact hf.1.elim
  | succ n ih =>
    intro v u l w hx hy
    have hx0 := hx
    have hy0 := hy
    obtain ⟨_, ⟨xa, xc, rfl, _, hn⟩, _⟩ := hx0
    obtain ⟨_, ⟨ya, yc, rfl, _, _⟩, _⟩ := hy0
    refine SStmts_walk xa ya l.length xc yc w hn fun k W hW hk => ?_
    have hxW : StW W (n + 1) (.slice xa l.length xc) l := hx.keep (blk hW)
    have hyW : StW W (n + 1) (.slice ya l.length yc) l := hy.keep (blk hW)
    obtain ⟨g, nv, kv, mv, bv, ev, e1, hg, ⟨a0, c1, c2, c3, c4, c5, c6, c7, c8, c9⟩, a2, ⟨m1, a3, a4⟩, a5, a6⟩ := hxW.at_ rfl k hk
    obtain ⟨g', nv', kv', mv', bv', ev', e2, hg', ⟨b0, d1, d2, d3, d4, d5, d6, d7, d8, d9⟩, b2, ⟨m2, b3, b4⟩, b5, b6⟩ := hyW.at_ rfl k hk
    obtain ⟨ka, kc, rfl⟩ := a3.shape
    obtain ⟨ka', kc', rfl⟩ := b3.shape
    obtain ⟨ma, mc, rfl, _⟩ := id a4
    obtain ⟨ma', mc', rfl, _⟩ := id b4
    have hA := fun V (hV : Below W.heap.size W V) (j : Nat) => (World.cell?_of_block (a := ⟨g, j, none⟩) (hV.block g hg))
    have hB := fun V (hV : Below W.heap.size W V) (j : Nat) => (World.cell?_of_block (a := ⟨g', j, none⟩) (hV.block g' hg'))
    refine ⟨g, g', _, mkB l[k].text, _, _, mkB l[k].ex.text, _, _, nv, ka, kc, ma, mc, bv, ev, nv', ka', kc', ma', mc', bv', ev', e1, e2,
      fun V hV => ⟨⟨(hA V hV _).trans a0, (hA V hV _).trans c1, (hA V hV _).trans c2, (hA V hV _).trans c3, (hA V hV _).trans c4, (hA V hV _).trans c5, (hA V hV _).trans c6, (hA V hV _).trans c7, (hA V hV _).trans c8, (hA V hV _).trans c9⟩,
        (hB V hV _).trans b0, (hB V hV _).trans d1, (hB V hV _).trans d2, (hB V hV _).trans d3, (hB V hV _).trans d4, (hB V hV _).trans d5, (hB V hV _).trans d6, (hB V hV _).trans d7, (hB V hV _).trans d8, (hB V hV _).trans d9⟩,
      fun V hV => (STexts_ok nv nv' _ V (a2.keep (blk hV)) (b2.keep (blk hV))).mono fun e w' ⟨h1, m, h2⟩ => ⟨h1, by rw [h2]; exact below_drewN hV m⟩, ?_, ?_, fun V hV => ?_, fun V hV => ?_⟩
    · intro V hV
      have hV1 := hV.alloc hV.size (.cells #[.int .i64 l[k].ex.kind, .int .i64 l[k].ex.num, .string (mkB l[k].ex.text), .slice ka l[k].ex.kids.length kc, .slice ma l[k].ex.names.length mc] 38)
      have hV2 := hV1.alloc hV1.size (.cells #[.int .i64 l[k].ex.kind, .int .i64 l[k].ex.num, .string (mkB l[k].ex.text), .slice ka' l[k].ex.kids.length kc', .slice ma' l[k].ex.names.length mc'] 38)
      refine (SExprs_new (n := max m1 m2) (x := l[k].ex) ((a3.le (Nat.le_max_left _ _)).keep (blk hV2)) (a4.keep (blk hV2)) ((b3.le (Nat.le_max_right _ _)).keep (blk hV2)) (b4.keep (blk hV2)) ?_ ?_).mono fun e w' ⟨h1, m, h2⟩ => ⟨h1, by rw [h2]; exact below_drewN hV2 m⟩
      · exact (heap_al _ _ _ (by rw [World.size_alloc]; omega)).trans (heap_alloc_new V _)
      · have := heap_alloc_new (V.alloc (.cells #[.int .i64 l[k].ex.kind, .int .i64 l[k].ex.num, .string (mkB l[k].ex.text), .slice ka l[k].ex.kids.length kc, .slice ma l[k].ex.names.length mc] 38)) (.cells #[.int .i64 l[k].ex.kind, .int .i64 l[k].ex.num, .string (mkB l[k].ex.text), .slice ka' l[k].ex.kids.length kc', .slice ma' l[k].ex.names.length mc'] 38)
        rwa [World.size_alloc] at this
    · intro V hV
      have hV1 := hV.alloc hV.size (.cells #[.int .i64 l[k].ex.kind, .int .i64 l[k].ex.num, .string (mkB l[k].ex.text), .slice ka' l[k].ex.kids.length kc', .slice ma' l[k].ex.names.length mc'] 38)
      have hV2 := hV1.alloc hV1.size (.cells #[.int .i64 l[k].ex.kind, .int .i64 l[k].ex.num, .string (mkB l[k].ex.text), .slice ka l[k].ex.kids.length kc, .slice ma l[k].ex.names.length mc] 38)
      refine (SExprs_new (n := max m1 m2) (x := l[k].ex) ((a3.le (Nat.le_max_left _ _)).keep (blk hV2)) (a4.keep (blk hV2)) ((b3.le (Nat.le_max_right _ _)).keep (blk hV2)) (b4.keep (blk hV2)) ?_ ?_).mono fun e w' ⟨h1, m, h2⟩ => ⟨h1, by rw [h2]; exact below_drewN hV2 m⟩
      · have := heap_alloc_new (V.alloc (.cells #[.int .i64 l[k].ex.kind, .int .i64 l[k].ex.num, .string (mkB l[k].ex.text), .slice ka' l[k].ex.kids.length kc', .slice ma' l[k].ex.names.length mc'] 38)) (.cells #[.int .i64 l[k].ex.kind, .int .i64 l[k].ex.num, .string (mkB l[k].ex.text), .slice ka l[k].ex.kids.length kc, .slice ma l[k].ex.names.length mc] 38)
        rwa [World.size_alloc] at this
      · exact (heap_al _ _ _ (by rw [World.size_alloc]; omega)).trans (heap_alloc_new V _)
    · exact (ih bv bv' l[k].body V (a5.keep (blk hV)) (b5.keep (blk hV))).mono fun e w' ⟨h1, h2⟩ => ⟨h1, hV.trans (h2.mono hV.size)⟩
    · exact (ih ev ev' l[k].els V (a6.keep (blk hV)) (b6.keep (blk hV))).mono fun e w' ⟨h1, h2⟩ => ⟨h1, hV.trans (h2.mono hV.size)⟩
/-- Statements that were parsed, in a row of their own. -/
theorem stw_of {w : World} {n : Nat} {l : List Sm} {v : Value} {vs : List (List Value)} (h : RwS n w l v vs) : ∃ m, StW w m v l := by
  obtain ⟨m, hm⟩ := fa_allS (h.fa.mono fun _ _ f => f.mono (Q := fun _ => True) fun _ _ _ => trivial)
  exact ⟨m, vs, row_at h.row, hm⟩
theorem StW.le {w : World} {n m : Nat} {v : Value} {l : List Sm} (h : StW w n v l) (hm : n ≤ m) : StW w m v l := by
  obtain ⟨vs, h1, h2⟩ := h
  exact ⟨vs, h1, h2.mono fun _ _ f => f.le _ hm⟩
end Go.Proofs.YtcaeeackccgclaaGreatDoor

/- The plain parser tells something of whatever tokens there are (few, not too far in). -/
namespace Go.Proofs.YtcaeeackccgclaaGreatDoor

/-- From p one comes to q: some tokens were taken, none that goes in or out. -/
structure Nx (p q : Ps) : Prop where
  sf : ∃ u, p.toks = u ++ q.toks ∧ ∀ t ∈ u, t.kind ≠ 7 ∧ t.kind ≠ 8
  deep : q.deep = p.deep
  blk : q.blk = p.blk
  inD : q.inD = p.inD
  fin : q.fin = p.fin
theorem Nx.refl (p : Ps) : Nx p p := ⟨⟨[], rfl, by simp⟩, rfl, rfl, rfl, rfl⟩
theorem Nx.trans {p q r : Ps} (h : Nx p q) (k : Nx q r) : Nx p r := by
  obtain ⟨u, h1, h2⟩ := h.sf
  obtain ⟨v, k1, k2⟩ := k.sf
  refine ⟨⟨u ++ v, by rw [h1, k1, List.append_assoc], fun t ht => ?_⟩, k.deep.trans h.deep, k.blk.trans h.blk, k.inD.trans h.inD, k.fin.trans h.fin⟩
  rcases List.mem_append.1 ht with ht | ht
  · exact h2 t ht
  · exact k2 t ht
theorem Nx.le {p q : Ps} (h : Nx p q) : q.toks.length ≤ p.toks.length := by
  obtain ⟨u, h1, _⟩ := h.sf
  rw [h1, List.length_append]
  omega
/-- Something is told; where it is no fault, k tokens at least were taken, and J holds. -/
def Tt {α : Type} (k : Nat) (p : Ps) (m : Px α) (J : α → Ps → Prop) : Prop := ∃ z, m = some z ∧ ∀ a q, z = .ok (a, q) → Nx p q ∧ q.toks.length + k ≤ p.toks.length ∧ J a q
section
variable {α β : Type} {k j : Nat} {p : Ps} {m : Px α} {J J' : α → Ps → Prop} {K : β → Ps → Prop}
theorem Tt.bnd {f : α → Ps → Px β} (h : Tt k p m J) (g : ∀ a q, Nx p q → q.toks.length + k ≤ p.toks.length → J a q → Tt j q (f a q) K) : Tt (k + j) p (bnd m f) K := by
  obtain ⟨z, rfl, hz⟩ := h
  match z, hz with
  | .error x, _ => exact ⟨.error x, rfl, fun a q e => by cases e⟩
  | .ok (a, q), hz =>
    obtain ⟨h1, h2, h3⟩ := hz a q rfl
    obtain ⟨z2, e2, h4⟩ := g a q h1 h2 h3
    refine ⟨z2, e2, fun b r hb => ?_⟩
    obtain ⟨h5, h6, h7⟩ := h4 b r hb
    exact ⟨h1.trans h5, by omega, h7⟩
theorem Tt.mono (h : Tt k p m J) (hk : j ≤ k) (hJ : ∀ a q, Nx p q → q.toks.length + k ≤ p.toks.length → J a q → J' a q) : Tt j p m J' := by
  obtain ⟨z, e, hz⟩ := h
  refine ⟨z, e, fun a q ha => ?_⟩
  obtain ⟨h1, h2, h3⟩ := hz a q ha
  exact ⟨h1, by omega, hJ a q h1 h2 h3⟩
theorem tt_ok (a : α) (h : J a p) : Tt 0 p (ok a p) J := ⟨_, rfl, fun b q e => by cases e; exact ⟨Nx.refl p, Nat.le_refl _, h⟩⟩
theorem tt_gu (k c : Nat) : Tt k p (gu p c : Px α) J := ⟨_, rfl, fun b q e => by cases e⟩
theorem tt_iff {b : Bool} (hb : b = true) (h : Tt k p m J) : Tt k p (iff b m) J := by subst hb; exact h
end
theorem guIf_tt (b : Bool) (c : Nat) (p : Ps) : Tt 0 p (guIf b c p) (fun _ q => q = p ∧ b = false) := by
  cases b with
  | true => exact tt_gu 0 c
  | false => exact tt_ok () ⟨rfl, rfl⟩
theorem nx_adv {p : Ps} {t : Tk} {r : List Tk} (hp : p.toks = t :: r) (h7 : t.kind ≠ 7) (h8 : t.kind ≠ 8) : Nx p p.adv ∧ p.adv.toks.length + 1 ≤ p.toks.length := by
  have e : p.adv.toks = r := by show p.toks.drop 1 = r; rw [hp]; rfl
  refine ⟨⟨⟨[t], by rw [e, hp]; rfl, fun x hx => ?_⟩, rfl, rfl, rfl, rfl⟩, by rw [e, hp]; simp⟩
  rw [List.mem_singleton.1 hx]
  exact ⟨h7, h8⟩
theorem nx_of {p : Ps} {t : Tk} {r : List Tk} (hp : p.toks = t :: r) : p.nx = t := by unfold Ps.nx; rw [hp]
theorem sees_hd {p : Ps} {l : List (List UInt8)} (h : p.sees l = true) : ∃ t r, p.toks = t :: r ∧ (t.kind = 4 ∨ t.kind = 5) ∧ t.text ∈ l := by
  unfold Ps.sees isS at h
  obtain ⟨h1, h2⟩ := (Bool.and_eq_true _ _).mp h
  match hp : p.toks with
  | [] => rw [show p.nx = ⟨0, [], 0, p.fin⟩ by unfold Ps.nx; rw [hp]] at h1; simp at h1
  | t :: r =>
    rw [nx_of hp] at h1 h2
    exact ⟨t, r, rfl, by simpa using h1, by simpa using h2⟩
theorem sees_adv {p : Ps} {l : List (List UInt8)} (h : p.sees l = true) : Nx p p.adv ∧ p.adv.toks.length + 1 ≤ p.toks.length := by
  obtain ⟨t, r, hp, hk, _⟩ := sees_hd h
  exact nx_adv hp (by omega) (by omega)
theorem sees_sub {p : Ps} {l m : List (List UInt8)} (h : p.sees l = false) (hm : ∀ x ∈ m, x ∈ l) : p.sees m = false := by
  cases hs : p.sees m with
  | false => rfl
  | true =>
    obtain ⟨t, r, hp, hk, ht⟩ := sees_hd hs
    have : p.sees l = true := by
      unfold Ps.sees isS
      rw [nx_of hp]
      simp only [Bool.and_eq_true, Bool.or_eq_true, beq_iff_eq, List.contains_eq_mem, decide_eq_true_eq]
      exact ⟨hk, hm _ ht⟩
    rw [h] at this
    cases this
theorem tkS_tt (x : List UInt8) (p : Ps) : Tt 1 p (tkS x p) (fun _ q => q = p.adv ∧ p.sees [x] = true) := by
  unfold tkS
  cases hs : p.sees [x] with
  | false => exact tt_gu 1 1
  | true =>
    obtain ⟨h1, h2⟩ := sees_adv hs
    exact ⟨_, rfl, fun b q e => by cases e; exact ⟨h1, h2, rfl, rfl⟩⟩
theorem tkK_tt (k : Nat) (p : Ps) (h0 : k ≠ 0) (h7 : k ≠ 7) (h8 : k ≠ 8) : Tt 1 p (tkK k p) (fun t q => q = p.adv ∧ t = p.nx ∧ p.nx.kind = k) := by
  unfold tkK
  cases hs : p.nx.kind == k with
  | false => exact tt_gu 1 1
  | true =>
    have hk : p.nx.kind = k := by simpa using hs
    match hp : p.toks with
    | [] => rw [show p.nx = ⟨0, [], 0, p.fin⟩ by unfold Ps.nx; rw [hp]] at hk; exact absurd hk.symm h0
    | t :: r =>
      rw [nx_of hp] at hk
      obtain ⟨h1, h2⟩ := nx_adv hp (by omega) (by omega)
      exact ⟨_, rfl, fun b q e => by cases e; exact ⟨h1, h2, rfl, rfl, by rw [nx_of hp]; exact hk⟩⟩
theorem tkN_tt (l : List (List UInt8)) (p : Ps) : Tt 1 p (tkN l p) (fun _ _ => True) := by
  unfold tkN
  cases hs : p.nx.kind == 1 && l.contains p.nx.text with
  | true => exact tt_gu 1 6
  | false => exact (Tt.bnd (tkK_tt 1 p (by decide) (by decide) (by decide)) (fun t q _ _ _ => tt_ok t.text trivial)).mono (Nat.le_refl _) (fun _ _ _ _ h => h)

/-- What stands up to a closing sign. -/
theorem lst_tt {σ : Type} {c : List UInt8} {each : σ → Ps → Px σ} (I : σ → Ps → Prop) (hI : ∀ s p q, I s p → Nx p q → I s q) (hE : ∀ s p, I s p → Tt 1 p (each s p) I) : ∀ (f : Nat) (first : Bool) (s : σ) (p : Ps), I s p → p.toks.length < f → Tt 1 p (lsL c each f first s p) I
  | 0, _, _, _, _, h => by omega
  | f + 1, first, s, p, hs, hf => by
    unfold lsL
    cases hc : p.sees [c] with
    | true =>
      obtain ⟨h1, h2⟩ := sees_adv hc
      exact ⟨_, rfl, fun a q e => by cases e; exact ⟨h1, h2, hI _ _ _ hs h1⟩⟩
    | false =>
      have h0 : Tt 0 p (bif first then ok () p else tkS [44] p) (fun _ _ => True) := by
        cases first with
        | true => exact tt_ok () trivial
        | false => exact (tkS_tt [44] p).mono (Nat.zero_le _) (fun _ _ _ _ _ => trivial)
      refine (Tt.bnd (k := 0) (j := 1) h0 fun _ q hn _ _ => ?_).mono (Nat.le_refl _) (fun _ _ _ _ h => h)
      refine (Tt.bnd (k := 1) (j := 0) (hE s q (hI _ _ _ hs hn)) fun s2 r hn2 hl hs2 => ?_).mono (Nat.le_refl _) (fun _ _ _ _ h => h)
      have hle := hn.le
      refine tt_iff (by unfold less; rw [decide_eq_true_eq]; omega) ((lst_tt I hI hE f false s2 r hs2 (by omega)).mono (Nat.zero_le _) (fun _ _ _ _ h => h))

/-- Within bounds: deeper than d, not too deep, few tokens. -/
structure Ib (d : Nat) (p : Ps) : Prop where
  gt : d < p.deep
  le : p.deep ≤ 30
  few : p.toks.length ≤ 50000
theorem Ib.nx {d : Nat} {p q : Ps} (h : Ib d p) (n : Nx p q) : Ib d q := ⟨by rw [n.deep]; exact h.gt, by rw [n.deep]; exact h.le, Nat.le_trans n.le h.few⟩
theorem inner_tt {m : Ps → Px Ex} {p : Ps} {k : Nat} {J : Ex → Ps → Prop} (hd : p.deep < 1000) (h : Tt k p.inn (m p.inn) (fun a q => J a q.out)) : Tt k p (inner m p) J := by
  unfold inner
  refine tt_iff (by rw [decide_eq_true_eq]; exact hd) ?_
  obtain ⟨z, e, hz⟩ := h
  rw [e]
  match z, hz with
  | .error x, _ => exact ⟨_, rfl, fun a q e => by cases e⟩
  | .ok (a, q), hz =>
    obtain ⟨h1, h2, h3⟩ := hz a q rfl
    have hdq : q.deep = p.deep + 1 := h1.deep
    refine ⟨.ok (a, q.out), ?_, fun b r e => ?_⟩
    · show iff (decide (1 ≤ q.deep)) (ok a q.out) = _
      rw [show decide (1 ≤ q.deep) = true by rw [decide_eq_true_eq]; omega]
      rfl
    · cases e
      refine ⟨⟨h1.sf, ?_, h1.blk, h1.inD, h1.fin⟩, h2, h3⟩
      show q.deep - 1 = p.deep
      omega
theorem jnL_tt {d : Nat} {part : Ps → Px Ex} {l : List (List UInt8)} (hP : ∀ p, Ib d p → Tt 1 p (part p) (fun _ q => Ib d q)) : ∀ (f : Nat) (e : Ex) (p : Ps), Ib d p → p.toks.length < f → Tt 0 p (jnL part l f e p) (fun _ q => Ib d q)
  | 0, _, _, _, h => by omega
  | f + 1, e, p, hp, hf => by
    unfold jnL
    cases hs : p.sees l with
    | false => exact tt_ok e hp
    | true =>
      obtain ⟨h1, h2⟩ := sees_adv hs
      have h3 := hP p.adv (hp.nx h1)
      have h4 : Tt 1 p.adv (bnd (part p.adv) fun x q => iff (less q p) (jnL part l f ⟨14, 0, p.nx.text, [e, x], []⟩ q)) (fun _ q => Ib d q) := by
        refine (Tt.bnd (k := 1) (j := 0) h3 fun x q hn hl hq => ?_).mono (Nat.le_refl _) (fun _ _ _ _ h => h)
        exact tt_iff (by unfold less; rw [decide_eq_true_eq]; omega) (jnL_tt hP f _ q hq (by omega))
      obtain ⟨z, e1, hz⟩ := h4
      refine ⟨z, e1, fun a q ha => ?_⟩
      obtain ⟨k1, k2, k3⟩ := hz a q ha
      exact ⟨h1.trans k1, by omega, k3⟩
theorem jn_tt {d : Nat} {part : Ps → Px Ex} {l : List (List UInt8)} (C : Ps → Prop) (hC : ∀ p, Ib d p → C p) (hP : ∀ p, C p → Tt 1 p (part p) (fun _ q => Ib d q)) (p : Ps) (h : C p) : Tt 1 p (jn part l p) (fun _ q => Ib d q) :=
  (Tt.bnd (k := 1) (j := 0) (hP p h) fun e q _ _ hq => jnL_tt (fun p hp => hP p (hC p hp)) _ e q hq (Nat.lt_succ_self _)).mono (Nat.le_refl _) (fun _ _ _ _ h => h)
end Go.Proofs.YtcaeeackccgclaaGreatDoor

/- The plain parser tells something of whatever tokens: expressions. -/
namespace Go.Proofs.YtcaeeackccgclaaGreatDoor

theorem Tt.adv {α : Type} {k : Nat} {p : Ps} {l : List (List UInt8)} {m : Px α} {J : α → Ps → Prop} (hs : p.sees l = true) (h : Tt k p.adv m J) : Tt (k + 1) p m J := by
  obtain ⟨h1, h2⟩ := sees_adv hs
  obtain ⟨z, e, hz⟩ := h
  refine ⟨z, e, fun a q ha => ?_⟩
  obtain ⟨k1, k2, k3⟩ := hz a q ha
  exact ⟨h1.trans k1, by omega, k3⟩
/-- Things under construction: as many as tokens were taken, about. -/
structure Iq (d : Nat) (s : Ex) (p : Ps) : Prop where
  ib : Ib d p
  kids : s.kids.length + p.toks.length ≤ 60000
  names : s.names.length + p.toks.length ≤ 60000
theorem Iq.nx {d : Nat} {s : Ex} {p q : Ps} (h : Iq d s p) (n : Nx p q) : Iq d s q := ⟨h.ib.nx n, by have := n.le; have := h.kids; omega, by have := n.le; have := h.names; omega⟩
section
variable {d : Nat} {E : Ps → Px Ex}
theorem kdE_tt (hE : ∀ p, Ib d p → Tt 1 p (E p) (fun _ _ => True)) {s : Ex} {p : Ps} (h : Iq d s p) : Tt 1 p (kdE E s p) (fun r q => Iq d r q ∧ r.kids.length = s.kids.length + 1) := by
  refine (Tt.bnd (k := 1) (j := 0) (hE p h.ib) fun e q hn hl _ => tt_ok (s.kid e) ⟨⟨h.ib.nx hn, ?_, ?_⟩, ?_⟩).mono (Nat.le_refl _) (fun _ _ _ _ h => h)
  · show (s.kids ++ [e]).length + _ ≤ _
    rw [List.length_append]
    have := h.kids
    simp only [List.length_singleton]
    omega
  · show s.names.length + _ ≤ _
    have := h.names
    omega
  · show (s.kids ++ [e]).length = _
    simp
theorem caE_tt (hE : ∀ p, Ib d p → Tt 1 p (E p) (fun _ _ => True)) (s : Ex) (p : Ps) (h : Iq d s p) : Tt 1 p (caE E s p) (Iq d) := by
  have hk := h.kids
  have hn := h.names
  unfold caE
  refine tt_iff (by rw [Bool.and_eq_true, decide_eq_true_eq, decide_eq_true_eq]; omega) ?_
  cases hs : sSet p with
  | true =>
    refine (Tt.bnd (k := 1) (j := 1) (tkN_tt s.names p) fun x q n1 l1 _ => ?_).mono (by omega) (fun _ _ _ _ h => h)
    refine (Tt.bnd (k := 1) (j := 0) (tkS_tt [61] q) fun _ r n2 l2 _ => ?_).mono (by omega) (fun _ _ _ _ h => h)
    refine (kdE_tt hE (s := { s with names := s.names ++ [x] }) ⟨h.ib.nx (n1.trans n2), ?_, ?_⟩).mono (Nat.zero_le _) (fun _ _ _ _ h => h.1)
    · show s.kids.length + _ ≤ _
      omega
    · show (s.names ++ [x]).length + _ ≤ _
      rw [List.length_append]
      simp only [List.length_singleton]
      omega
  | false =>
    refine (Tt.bnd (k := 0) (j := 1) (guIf_tt (decide (0 < s.names.length)) 1 p) fun _ q n1 _ _ => ?_).mono (by omega) (fun _ _ _ _ h => h)
    exact (kdE_tt hE (h.nx n1)).mono (Nat.le_refl _) (fun _ _ _ _ h => h.1)
theorem eaR_tt (s : Ex) (p : Ps) (h : Iq d s p) : Tt 0 p (eaR s p) (Iq d) :=
  (Tt.bnd (k := 0) (j := 0) (guIf_tt (!p.sees [[93]]) 1 p) fun _ _ n1 _ _ => tt_ok s (h.nx n1)).mono (Nat.le_refl _) (fun _ _ _ _ h => h)
theorem eaF_tt (hE : ∀ p, Ib d p → Tt 1 p (E p) (fun _ _ => True)) (s : Ex) (p : Ps) (h : Iq d s p) : Tt 0 p (eaF E s p) (Iq d) := by
  unfold eaF
  cases hs : p.sees [[105, 102]] with
  | false => exact eaR_tt s p h
  | true =>
    refine (Tt.adv hs ?_ : Tt (0 + 1) p _ _).mono (Nat.zero_le _) (fun _ _ _ _ h => h)
    exact (Tt.bnd (k := 1) (j := 0) (kdE_tt hE (h.nx (sees_adv hs).1)) fun r q _ _ hr => eaR_tt r q hr.1).mono (Nat.zero_le _) (fun _ _ _ _ h => h)
theorem eaE_tt (hE : ∀ p, Ib d p → Tt 1 p (E p) (fun _ _ => True)) (s : Ex) (p : Ps) (h : Iq d s p) : Tt 1 p (eaE E s p) (Iq d) := by
  refine (Tt.bnd (k := 1) (j := 0) (tkK_tt 1 p (by decide) (by decide) (by decide)) fun t q n1 l1 _ => ?_).mono (Nat.le_refl _) (fun _ _ _ _ h => h)
  refine (Tt.bnd (k := 1) (j := 0) (tkS_tt [105, 110] q) fun _ r n2 l2 _ => ?_).mono (Nat.zero_le _) (fun _ _ _ _ h => h)
  exact (Tt.bnd (k := 1) (j := 0) (kdE_tt hE (s := { s with kind := 9, text := t.text }) (⟨(h.nx (n1.trans n2)).ib, (h.nx (n1.trans n2)).kids, (h.nx (n1.trans n2)).names⟩ : Iq d { s with kind := 9, text := t.text } r)) fun r2 q2 _ _ hr => eaF_tt hE r2 q2 hr.1).mono (Nat.zero_le _) (fun _ _ _ _ h => h)
theorem liE_tt (hE : ∀ p, Ib d p → Tt 1 p (E p) (fun _ _ => True)) (s : Ex) (p : Ps) (h : Iq d s p) : Tt 1 p (liE E s p) (Iq d) := by
  have hk := h.kids
  unfold liE
  refine tt_iff (by rw [decide_eq_true_eq]; omega) ?_
  refine (Tt.bnd (k := 1) (j := 0) (kdE_tt hE h) fun r q n1 l1 hr => ?_).mono (Nat.le_refl _) (fun _ _ _ _ h => h)
  cases hs : decide (r.kids.length = 1) && q.sees [[102, 111, 114]] with
  | false => exact tt_ok r hr.1
  | true =>
    have hs2 := ((Bool.and_eq_true _ _).mp hs).2
    exact (Tt.adv hs2 (eaE_tt hE r q.adv (hr.1.nx (sees_adv hs2).1))).mono (Nat.zero_le _) (fun _ _ _ _ h => h)
theorem diE_tt (hE : ∀ p, Ib d p → Tt 1 p (E p) (fun _ _ => True)) (s : Ex) (p : Ps) (h : Iq d s p) : Tt 1 p (diE E s p) (Iq d) := by
  have hk := h.kids
  unfold diE
  refine tt_iff (by rw [decide_eq_true_eq]; omega) ?_
  refine (Tt.bnd (k := 1) (j := 0) (kdE_tt hE h) fun r q n1 l1 hr => ?_).mono (Nat.le_refl _) (fun _ _ _ _ h => h)
  refine (Tt.bnd (k := 1) (j := 0) (tkS_tt [58] q) fun _ q2 n2 l2 _ => ?_).mono (Nat.zero_le _) (fun _ _ _ _ h => h)
  exact (kdE_tt hE (hr.1.nx n2)).mono (Nat.zero_le _) (fun _ _ _ _ h => h.1)
theorem ib_lst {c : List UInt8} {each : Ex → Ps → Px Ex} (hea : ∀ s p, Iq d s p → Tt 1 p (each s p) (Iq d)) (s : Ex) (p : Ps) (h : Iq d s p) : Tt 1 p (lst c each s p) (fun _ q => Ib d q) :=
  (lst_tt (Iq d) (fun _ _ _ h n => h.nx n) hea _ true s p h (Nat.lt_succ_self _)).mono (Nat.le_refl _) (fun _ _ _ _ h => h.ib)
theorem iq0 (k : Nat) {p : Ps} (h : Ib d p) : Iq d ⟨k, 0, [], [], []⟩ p := ⟨h, by have := h.few; simp; omega, by have := h.few; simp; omega⟩
theorem sgA_tt (hE : ∀ p, Ib d p → Tt 1 p (E p) (fun _ _ => True)) (p : Ps) (h : Ib d p ∨ p.sees [[84, 114, 117, 101], [70, 97, 108, 115, 101], [78, 111, 110, 101], [40], [91], [123]] = false) : Tt 1 p (sgA E p) (fun _ q => Ib d q) := by
  rcases h with h | h
  · unfold sgA
    cases h1 : p.sees [[84, 114, 117, 101]] with
    | true => exact (Tt.adv (k := 0) h1 (tt_ok (J := fun _ q => Ib d q) _ (h.nx (sees_adv h1).1))).mono (Nat.le_refl 1) (fun _ _ _ _ h => h)
    | false =>
    cases h2 : p.sees [[70, 97, 108, 115, 101]] with
    | true => exact (Tt.adv (k := 0) h2 (tt_ok (J := fun _ q => Ib d q) _ (h.nx (sees_adv h2).1))).mono (Nat.le_refl 1) (fun _ _ _ _ h => h)
    | false =>
    cases h3 : p.sees [[78, 111, 110, 101]] with
    | true => exact (Tt.adv (k := 0) h3 (tt_ok (J := fun _ q => Ib d q) _ (h.nx (sees_adv h3).1))).mono (Nat.le_refl 1) (fun _ _ _ _ h => h)
    | false =>
    cases h4 : p.sees [[91]] with
    | true => exact (Tt.adv h4 (ib_lst (liE_tt hE) _ _ (iq0 7 (h.nx (sees_adv h4).1)))).mono (by omega) (fun _ _ _ _ h => h)
    | false =>
    cases h5 : p.sees [[123]] with
    | true => exact (Tt.adv h5 (ib_lst (diE_tt hE) _ _ (iq0 8 (h.nx (sees_adv h5).1)))).mono (by omega) (fun _ _ _ _ h => h)
    | false =>
    refine (Tt.bnd (k := 1) (j := 0) (tkS_tt [40] p) fun _ q n1 _ _ => ?_).mono (Nat.le_refl _) (fun _ _ _ _ h => h)
    refine (Tt.bnd (k := 1) (j := 0) (hE q (h.nx n1)) fun e q2 n2 _ _ => ?_).mono (Nat.zero_le _) (fun _ _ _ _ h => h)
    exact (Tt.bnd (k := 1) (j := 0) (tkS_tt [41] q2) fun _ q3 n3 _ _ => tt_ok e (h.nx ((n1.trans n2).trans n3))).mono (Nat.zero_le _) (fun _ _ _ _ h => h)
  · unfold sgA
    rw [sees_sub h (m := [[84, 114, 117, 101]]) (by simp), sees_sub h (m := [[70, 97, 108, 115, 101]]) (by simp), sees_sub h (m := [[78, 111, 110, 101]]) (by simp), sees_sub h (m := [[91]]) (by simp), sees_sub h (m := [[123]]) (by simp)]
    simp only [cond_false]
    unfold tkS
    rw [sees_sub h (m := [[40]]) (by simp)]
    exact tt_gu 1 1
theorem atm_tt (hE : ∀ p, Ib d p → Tt 1 p (E p) (fun _ _ => True)) (p : Ps) (h : Ib d p ∨ sAtom p = false) : Tt 1 p (atm E p) (fun _ q => Ib d q) := by
  have hk : ∀ k, k = 1 ∨ k = 2 ∨ k = 3 → p.nx.kind = k → Nx p p.adv ∧ p.adv.toks.length + 1 ≤ p.toks.length := fun k hk e => by
    match hp : p.toks with
    | [] => rw [show p.nx = ⟨0, [], 0, p.fin⟩ by unfold Ps.nx; rw [hp]] at e; simp only at e; omega
    | t :: r =>
      rw [nx_of hp] at e
      have := nx_adv hp (by omega) (by omega)
      rw [hp] at this
      exact this
  rcases h with h | h
  · unfold atm
    cases h1 : p.nx.kind == 1 with
    | true => exact ⟨_, rfl, fun b q e => by cases e; obtain ⟨a, b⟩ := hk 1 (by simp) (by simpa using h1); exact ⟨a, b, h.nx a⟩⟩
    | false =>
    cases h2 : p.nx.kind == 2 with
    | true => exact ⟨_, rfl, fun b q e => by cases e; obtain ⟨a, b⟩ := hk 2 (by simp) (by simpa using h2); exact ⟨a, b, h.nx a⟩⟩
    | false =>
    cases h3 : p.nx.kind == 3 with
    | true => exact ⟨_, rfl, fun b q e => by cases e; obtain ⟨a, b⟩ := hk 3 (by simp) (by simpa using h3); exact ⟨a, b, h.nx a⟩⟩
    | false => exact sgA_tt hE p (.inl h)
  · unfold sAtom at h
    simp only [Bool.or_eq_false_iff] at h
    unfold atm
    rw [h.1.1.1, h.1.1.2, h.1.2]
    exact sgA_tt hE p (.inr h.2)
theorem psL_tt (hE : ∀ p, Ib d p → Tt 1 p (E p) (fun _ _ => True)) : ∀ (f : Nat) (e : Ex) (p : Ps), Ib d p → p.toks.length < f → Tt 0 p (psL E f e p) (fun _ q => Ib d q)
  | 0, _, _, _, h => by omega
  | f + 1, e, p, hp, hf => by
    unfold psL
    cases h1 : p.sees [[40]] with
    | true =>
      obtain ⟨n0, l0⟩ := sees_adv h1
      have hb := hp.nx n0
      refine (Tt.adv h1 ?_ : Tt (0 + 1) p _ _).mono (Nat.zero_le _) (fun _ _ _ _ h => h)
      refine (Tt.bnd (k := 1) (j := 0) (ib_lst (caE_tt hE) ⟨10, 0, [], [e], []⟩ p.adv ⟨hb, by have := hb.few; simp; omega, by have := hb.few; simp; omega⟩) fun x q n1 l1 hq => ?_).mono (Nat.zero_le _) (fun _ _ _ _ h => h)
      exact tt_iff (by unfold less; rw [decide_eq_true_eq]; omega) (psL_tt hE f x q hq (by omega))
    | false =>
    cases h2 : p.sees [[91]] with
    | true =>
      obtain ⟨n0, l0⟩ := sees_adv h2
      have hb := hp.nx n0
      refine (Tt.adv h2 ?_ : Tt (0 + 1) p _ _).mono (Nat.zero_le _) (fun _ _ _ _ h => h)
      refine (Tt.bnd (k := 1) (j := 0) (hE _ hb) fun x q n1 l1 _ => ?_).mono (Nat.zero_le _) (fun _ _ _ _ h => h)
      refine (Tt.bnd (k := 1) (j := 0) (tkS_tt [93] q) fun _ q2 n2 l2 _ => ?_).mono (Nat.zero_le _) (fun _ _ _ _ h => h)
      exact tt_iff (by unfold less; rw [decide_eq_true_eq]; omega) (psL_tt hE f _ q2 (hb.nx (n1.trans n2)) (by omega))
    | false => exact tt_ok e hp
theorem pst_tt (hE : ∀ p, Ib d p → Tt 1 p (E p) (fun _ _ => True)) (p : Ps) (h : Ib d p ∨ sAtom p = false) : Tt 1 p (pst E p) (fun _ q => Ib d q) :=
  (Tt.bnd (k := 1) (j := 0) (atm_tt hE p h) fun e q _ _ hq => psL_tt hE _ e q hq (Nat.lt_succ_self _)).mono (Nat.le_refl _) (fun _ _ _ _ h => h)
/-- Where an expression may begin, or nothing begins that is one. -/
def Cn (l : List (List UInt8)) (d : Nat) (p : Ps) : Prop := Ib d p ∨ (sAtom p = false ∧ p.sees l = false)
theorem rfD_tt {l : List (List UInt8)} {p : Ps} (h : Ib d p) : Tt 0 p (rfD l p) (fun _ q => q = p ∧ Cn l d p.inn) := by
  unfold rfD
  refine (guIf_tt _ 2 p).mono (Nat.le_refl _) fun _ q _ _ hq => ⟨hq.1, ?_⟩
  have h1 := hq.2
  rcases Nat.lt_or_ge p.deep 30 with h2 | h2
  · exact .inl ⟨by show d < p.deep + 1; have := h.gt; omega, by show p.deep + 1 ≤ 30; omega, h.few⟩
  · have h3 : p.deep = 30 := Nat.le_antisymm h.le h2
    rw [show (p.deep == 30) = true by rw [h3]; rfl, Bool.and_true, Bool.or_eq_false_iff] at h1
    exact .inr h1
theorem unL_tt (hE : ∀ p, Ib d p → Tt 1 p (E p) (fun _ _ => True)) : ∀ (f : Nat) (p : Ps), Cn [[45]] d p → p.toks.length < f → Tt 1 p (unL E f p) (fun _ q => Ib d q)
  | 0, _, _, h => by omega
  | f + 1, p, hp, hf => by
    unfold unL
    cases h1 : p.sees [[45]] with
    | false =>
      refine pst_tt hE p ?_
      rcases hp with h | h
      · exact .inl h
      · exact .inr h.1
    | true =>
      have hb : Ib d p := by
        rcases hp with h | h
        · exact h
        · rw [h.2] at h1; cases h1
      obtain ⟨n0, l0⟩ := sees_adv h1
      refine (Tt.adv h1 ?_ : Tt (0 + 1) p _ _).mono (by omega) (fun _ _ _ _ h => h)
      refine (Tt.bnd (k := 0) (j := 0) (rfD_tt (hb.nx n0)) fun _ q n1 l1 hq => ?_).mono (Nat.le_refl _) (fun _ _ _ _ h => h)
      obtain ⟨rfl, hc⟩ := hq
      have hd : p.adv.deep ≤ 30 := (hb.nx n0).le
      refine (Tt.bnd (k := 1) (j := 0) (inner_tt (J := fun _ _ => True) (by omega) ((unL_tt hE f p.adv.inn hc (by show p.adv.toks.length < f; omega)).mono (Nat.le_refl _) (fun _ _ _ _ _ => trivial))) fun k q n2 l2 _ => ?_).mono (Nat.zero_le _) (fun _ _ _ _ h => h)
      exact tt_ok _ (hb.nx (n0.trans n2))
theorem una_tt (hE : ∀ p, Ib d p → Tt 1 p (E p) (fun _ _ => True)) (p : Ps) (h : Cn [[45]] d p) : Tt 1 p (una E p) (fun _ q => Ib d q) := unL_tt hE _ p h (Nat.lt_succ_self _)
theorem sum_tt (hE : ∀ p, Ib d p → Tt 1 p (E p) (fun _ _ => True)) (p : Ps) (h : Cn [[45]] d p) : Tt 1 p (sum E p) (fun _ q => Ib d q) :=
  jn_tt (Cn [[45]] d) (fun _ h => .inl h) (fun p h => jn_tt (Cn [[45]] d) (fun _ h => .inl h) (una_tt hE) p h) p h
theorem cmp_tt (hE : ∀ p, Ib d p → Tt 1 p (E p) (fun _ _ => True)) (p : Ps) (h : Cn [[45]] d p) : Tt 1 p (cmp E p) (fun _ q => Ib d q) := by
  unfold cmp
  refine (Tt.bnd (k := 1) (j := 0) (sum_tt hE p h) fun e q n1 l1 hq => ?_).mono (Nat.le_refl _) (fun _ _ _ _ h => h)
  cases hs : q.sees [[61, 61], [33, 61], [60], [60, 61], [105, 110]] with
  | false => exact tt_ok (J := fun _ q => Ib d q) e hq
  | true =>
    have hb := hq.nx (sees_adv hs).1
    refine (Tt.adv hs ?_ : Tt (0 + 1) q _ _).mono (Nat.zero_le _) (fun _ _ _ _ h => h)
    exact (Tt.bnd (k := 1) (j := 0) (sum_tt hE _ (.inl hb)) fun x r _ _ hr => tt_ok (J := fun _ q => Ib d q) _ hr).mono (Nat.zero_le _) (fun _ _ _ _ h => h)
theorem ngL_tt (hE : ∀ p, Ib d p → Tt 1 p (E p) (fun _ _ => True)) : ∀ (f : Nat) (p : Ps), Cn [[110, 111, 116], [45]] d p → p.toks.length < f → Tt 1 p (ngL E f p) (fun _ q => Ib d q)
  | 0, _, _, h => by omega
  | f + 1, p, hp, hf => by
    unfold ngL
    cases h1 : p.sees [[110, 111, 116]] with
    | false =>
      refine cmp_tt hE p ?_
      rcases hp with h | h
      · exact .inl h
      · exact .inr ⟨h.1, sees_sub h.2 (by simp)⟩
    | true =>
      have hb : Ib d p := by
        rcases hp with h | h
        · exact h
        · rw [sees_sub h.2 (m := [[110, 111, 116]]) (by simp)] at h1; cases h1
      obtain ⟨n0, l0⟩ := sees_adv h1
      refine (Tt.adv h1 ?_ : Tt (0 + 1) p _ _).mono (by omega) (fun _ _ _ _ h => h)
      refine (Tt.bnd (k := 0) (j := 0) (rfD_tt (hb.nx n0)) fun _ q n1 l1 hq => ?_).mono (Nat.le_refl _) (fun _ _ _ _ h => h)
      obtain ⟨rfl, hc⟩ := hq
      have hd : p.adv.deep ≤ 30 := (hb.nx n0).le
      refine (Tt.bnd (k := 1) (j := 0) (inner_tt (J := fun _ _ => True) (by omega) ((ngL_tt hE f p.adv.inn hc (by show p.adv.toks.length < f; omega)).mono (Nat.le_refl _) (fun _ _ _ _ _ => trivial))) fun k q n2 l2 _ => ?_).mono (Nat.zero_le _) (fun _ _ _ _ h => h)
      exact tt_ok (J := fun _ q => Ib d q) _ (hb.nx (n0.trans n2))
theorem orE_tt (hE : ∀ p, Ib d p → Tt 1 p (E p) (fun _ _ => True)) (p : Ps) (h : Cn [[110, 111, 116], [45]] d p) : Tt 1 p (orE E p) (fun _ q => Ib d q) :=
  jn_tt (Cn [[110, 111, 116], [45]] d) (fun _ h => .inl h) (fun p h => jn_tt (Cn [[110, 111, 116], [45]] d) (fun _ h => .inl h) (fun p h => ngL_tt hE _ p h (Nat.lt_succ_self _)) p h) p h
end
/-- An expression: something is told, if the depth that is left is enough. -/
theorem exF_tt : ∀ (n : Nat) (p : Ps), p.deep ≤ 30 → 31 ≤ n + p.deep → p.toks.length ≤ 50000 → Tt 1 p (exF n p) (fun _ _ => True)
  | 0, _, h1, h2, _ => by omega
  | n + 1, p, h1, h2, h3 => by
    unfold exF
    have h0 : Tt 0 p (rfD [[110, 111, 116], [45]] p) (fun _ q => q = p ∧ Cn [[110, 111, 116], [45]] p.deep p.inn) := by
      unfold rfD
      refine (guIf_tt _ 2 p).mono (Nat.le_refl _) fun _ q _ _ hq => ⟨hq.1, ?_⟩
      have h4 := hq.2
      rcases Nat.lt_or_ge p.deep 30 with h5 | h5
      · exact .inl ⟨Nat.lt_succ_self _, by show p.deep + 1 ≤ 30; omega, h3⟩
      · have h6 : p.deep = 30 := Nat.le_antisymm h1 h5
        rw [show (p.deep == 30) = true by rw [h6]; rfl, Bool.and_true, Bool.or_eq_false_iff] at h4
        exact .inr h4
    refine (Tt.bnd (k := 0) (j := 1) h0 fun _ q n1 l1 hq => ?_).mono (by omega) (fun _ _ _ _ h => h)
    obtain ⟨rfl, hc⟩ := hq
    exact inner_tt (J := fun _ _ => True) (by omega) ((orE_tt (fun r hr => exF_tt n r hr.le (by have := hr.gt; omega) hr.few) q.inn hc).mono (Nat.le_refl _) (fun _ _ _ _ _ => trivial))
end Go.Proofs.YtcaeeackccgclaaGreatDoor

/- The plain parser tells something of whatever tokens: statements. -/
namespace Go.Proofs.YtcaeeackccgclaaGreatDoor

/-- Tokens whose levels are right from here on, where one is in d blocks. -/
def lvT : Nat → List Tk → Prop
  | _, [] => True
  | d, t :: r => if t.kind = 7 then d + 1 ≤ 30 ∧ lvT (d + 1) r else if t.kind = 8 then 1 ≤ d ∧ lvT (d - 1) r else lvT d r
theorem lvT_app : ∀ (u : List Tk) {d : Nat} {r : List Tk}, (∀ t ∈ u, t.kind ≠ 7 ∧ t.kind ≠ 8) → lvT d (u ++ r) → lvT d r
  | [], _, _, _, h => h
  | t :: u, d, r, hu, h => by
    obtain ⟨h7, h8⟩ := hu t List.mem_cons_self
    refine lvT_app u (fun x hx => hu x (List.mem_cons_of_mem _ hx)) ?_
    have h2 : lvT d (t :: (u ++ r)) := h
    unfold lvT at h2
    rwa [if_neg h7, if_neg h8] at h2
/-- Between statements' parts: in no expression, few tokens, levels that are right. -/
structure SI (p : Ps) : Prop where
  deep : p.deep = 0
  few : p.toks.length ≤ 50000
  lv : lvT p.blk p.toks
  blk : p.blk ≤ 30
theorem SI.nx {p q : Ps} (h : SI p) (n : Nx p q) : SI q := by
  obtain ⟨u, h1, h2⟩ := n.sf
  refine ⟨n.deep.trans h.deep, Nat.le_trans n.le h.few, ?_, by rw [n.blk]; exact h.blk⟩
  rw [n.blk]
  have := h.lv
  rw [h1] at this
  exact lvT_app u h2 this
def Ts {α : Type} (k : Nat) (p : Ps) (m : Px α) (J : α → Ps → Prop) : Prop := ∃ z, m = some z ∧ ∀ a q, z = .ok (a, q) → SI q ∧ q.blk = p.blk ∧ q.toks.length + k ≤ p.toks.length ∧ J a q
section
variable {α β : Type} {k j : Nat} {p : Ps} {m : Px α} {J J' : α → Ps → Prop} {K : β → Ps → Prop}
theorem Tt.ts (h : Tt k p m J) (hp : SI p) : Ts k p m J := by
  obtain ⟨z, e, hz⟩ := h
  refine ⟨z, e, fun a q ha => ?_⟩
  obtain ⟨h1, h2, h3⟩ := hz a q ha
  exact ⟨hp.nx h1, h1.blk, h2, h3⟩
theorem Ts.bnd {f : α → Ps → Px β} (h : Ts k p m J) (g : ∀ a q, SI q → q.blk = p.blk → q.toks.length + k ≤ p.toks.length → J a q → Ts j q (f a q) K) : Ts (k + j) p (bnd m f) K := by
  obtain ⟨z, rfl, hz⟩ := h
  match z, hz with
  | .error x, _ => exact ⟨.error x, rfl, fun a q e => by cases e⟩
  | .ok (a, q), hz =>
    obtain ⟨h1, h2, h3, h4⟩ := hz a q rfl
    obtain ⟨z2, e2, h5⟩ := g a q h1 h2 h3 h4
    refine ⟨z2, e2, fun b r hb => ?_⟩
    obtain ⟨h6, h7, h8, h9⟩ := h5 b r hb
    exact ⟨h6, h7.trans h2, by omega, h9⟩
theorem Ts.mono (h : Ts k p m J) (hk : j ≤ k) (hJ : ∀ a q, J a q → J' a q) : Ts j p m J' := by
  obtain ⟨z, e, hz⟩ := h
  refine ⟨z, e, fun a q ha => ?_⟩
  obtain ⟨h1, h2, h3, h4⟩ := hz a q ha
  exact ⟨h1, h2, by omega, hJ a q h4⟩
theorem ts_ok (a : α) (hp : SI p) (h : J a p) : Ts 0 p (ok a p) J := ⟨_, rfl, fun b q e => by cases e; exact ⟨hp, rfl, Nat.le_refl _, h⟩⟩
end
abbrev Any {α : Type} : α → Ps → Prop := fun _ _ => True
theorem tkS_ts (x : List UInt8) {p : Ps} (hp : SI p) : Ts 1 p (tkS x p) Any := ((tkS_tt x p).ts hp).mono (Nat.le_refl _) (fun _ _ _ => trivial)
theorem tkK_ts (k : Nat) {p : Ps} (hp : SI p) (h0 : k ≠ 0) (h7 : k ≠ 7) (h8 : k ≠ 8) : Ts 1 p (tkK k p) Any := ((tkK_tt k p h0 h7 h8).ts hp).mono (Nat.le_refl _) (fun _ _ _ => trivial)
theorem guIf_ts (b : Bool) (c : Nat) {p : Ps} (hp : SI p) : Ts 0 p (guIf b c p) Any := ((guIf_tt b c p).ts hp).mono (Nat.le_refl _) (fun _ _ _ => trivial)
section
variable {E : Ps → Px Ex}
theorem givS_ts (hE : ∀ p, SI p → Ts 1 p (E p) Any) {p : Ps} (hp : SI p) : Ts 1 p (givS E p) Any := by
  refine (Ts.bnd (k := 0) (j := 1) (guIf_ts _ 4 hp) fun _ q hq _ _ _ => ?_).mono (by omega) (fun _ _ h => h)
  refine (Ts.bnd (k := 1) (j := 0) (tkS_ts _ hq) fun _ r hr _ _ _ => ?_).mono (by omega) (fun _ _ h => h)
  cases h6 : r.nx.kind == 6 with
  | true => exact ts_ok _ hr trivial
  | false => exact (Ts.bnd (k := 1) (j := 0) (hE r hr) fun e s hs _ _ _ => ts_ok (J := Any) _ hs trivial).mono (Nat.zero_le _) (fun _ _ h => h)
theorem setS_ts (hE : ∀ p, SI p → Ts 1 p (E p) Any) {p : Ps} (hp : SI p) : Ts 1 p (setS E p) Any := by
  refine (Ts.bnd (k := 1) (j := 0) (tkK_ts 1 hp (by decide) (by decide) (by decide)) fun t q hq _ _ _ => ?_).mono (by omega) (fun _ _ h => h)
  refine (Ts.bnd (k := 1) (j := 0) (tkS_ts _ hq) fun _ r hr _ _ _ => ?_).mono (Nat.zero_le _) (fun _ _ h => h)
  exact (Ts.bnd (k := 1) (j := 0) (hE r hr) fun e s hs _ _ _ => ts_ok (J := Any) _ hs trivial).mono (Nat.zero_le _) (fun _ _ h => h)
theorem ldL_ts : ∀ (f : Nat) (l : List (List UInt8)) (p : Ps), SI p → l.length + p.toks.length ≤ 60000 → p.toks.length < f → Ts 0 p (ldL f l p) Any
  | 0, _, _, _, _, h => by omega
  | f + 1, l, p, hp, hl, hf => by
    unfold ldL
    cases hc : decide (0 < l.length) && p.sees [[41]] with
    | true => exact ts_ok l hp trivial
    | false =>
      have hn : decide (l.length < 1000000) = true := by rw [decide_eq_true_eq]; omega
      rw [hn]
      refine (Ts.bnd (k := 1) (j := 0) (tkS_ts _ hp) fun _ q hq _ l1 _ => ?_).mono (Nat.zero_le _) (fun _ _ h => h)
      refine (Ts.bnd (k := 0) (j := 0) (guIf_ts _ 1 hq) fun _ r hr _ l2 _ => ?_).mono (Nat.zero_le _) (fun _ _ h => h)
      refine (Ts.bnd (k := 1) (j := 0) (tkK_ts 3 hr (by decide) (by decide) (by decide)) fun t s hs _ l3 _ => ?_).mono (Nat.zero_le _) (fun _ _ h => h)
      have hls : less s p = true := by unfold less; rw [decide_eq_true_eq]; omega
      rw [hls]
      exact ldL_ts f _ s hs (by rw [List.length_append, List.length_singleton]; omega) (by omega)
theorem loadS_ts {p : Ps} (hp : SI p) : Ts 1 p (loadS p) Any := by
  refine (Ts.bnd (k := 0) (j := 1) (guIf_ts _ 4 hp) fun _ q hq _ _ _ => ?_).mono (by omega) (fun _ _ h => h)
  refine (Ts.bnd (k := 1) (j := 0) (tkS_ts _ hq) fun _ r hr _ _ _ => ?_).mono (by omega) (fun _ _ h => h)
  refine (Ts.bnd (k := 1) (j := 0) (tkS_ts _ hr) fun _ s hs _ _ _ => ?_).mono (Nat.zero_le _) (fun _ _ h => h)
  refine (Ts.bnd (k := 1) (j := 0) (tkK_ts 3 hs (by decide) (by decide) (by decide)) fun t u hu _ _ _ => ?_).mono (Nat.zero_le _) (fun _ _ h => h)
  refine (Ts.bnd (k := 0) (j := 0) (ldL_ts _ [] u hu (by have := hu.few; simp; omega) (Nat.lt_succ_self _)) fun l v hv _ _ _ => ?_).mono (Nat.zero_le _) (fun _ _ h => h)
  exact (Ts.bnd (k := 1) (j := 0) (tkS_ts _ hv) fun _ w hw _ _ _ => ts_ok (J := Any) _ hw trivial).mono (Nat.zero_le _) (fun _ _ h => h)
theorem smlF_ts (hE : ∀ p, SI p → Ts 1 p (E p) Any) {p : Ps} (hp : SI p) : Ts 1 p (smlF E p) Any := by
  unfold smlF
  cases h0 : p.sees [[112, 97, 115, 115]] with
  | true =>
    obtain ⟨n0, l0⟩ := sees_adv h0
    exact ⟨_, rfl, fun a q e => by cases e; exact ⟨hp.nx n0, n0.blk, l0, trivial⟩⟩
  | false =>
  cases h1 : p.sees [[114, 101, 116, 117, 114, 110]] with
  | true => exact givS_ts hE hp
  | false =>
  cases h2 : p.sees [[108, 111, 97, 100]] with
  | true => exact loadS_ts hp
  | false =>
  cases h3 : sSet p with
  | true => exact setS_ts hE hp
  | false => exact (Ts.bnd (k := 1) (j := 0) (hE p hp) fun e s hs _ _ _ => ts_ok (J := Any) _ hs trivial).mono (Nat.le_refl _) (fun _ _ h => h)
/-- A block: its statements one block further in. -/
theorem blL_ts {St : Ps → Px Sm} {b : Nat} (hSt : ∀ p, SI p → p.blk = b → Ts 1 p (St p) Any) : ∀ (f : Nat) (l : List Sm) (p : Ps), SI p → p.blk = b → l.length + p.toks.length ≤ 60000 → p.toks.length < f → Ts 0 p (blL St f l p) (fun _ q => q.nx.kind = 8)
  | 0, _, _, _, _, _, h => by omega
  | f + 1, l, p, hp, hb, hl, hf => by
    unfold blL
    cases hk : p.nx.kind == 8 with
    | true => exact ts_ok l hp (by simpa using hk)
    | false =>
      have hn : decide (l.length < 1000000) = true := by rw [decide_eq_true_eq]; omega
      rw [hn]
      refine (Ts.bnd (k := 1) (j := 0) (hSt p hp hb) fun s q hq hqb l1 _ => ?_).mono (Nat.zero_le _) (fun _ _ h => h)
      have hls : less q p = true := by unfold less; rw [decide_eq_true_eq]; omega
      rw [hls]
      exact blL_ts hSt f _ q hq (hqb.trans hb) (by rw [List.length_append, List.length_singleton]; omega) (by omega)
theorem nx_nil {p : Ps} (h : p.toks = []) : p.nx = ⟨0, [], 0, p.fin⟩ := by unfold Ps.nx; rw [h]
theorem blF_ts {St : Ps → Px Sm} {p : Ps} (hp : SI p) (hSt : ∀ q, SI q → q.blk = p.blk + 1 → Ts 1 q (St q) Any) : Ts 1 p (blF St p) Any := by
  refine (Ts.bnd (k := 1) (j := 0) (tkS_ts _ hp) fun _ q hq hqb l1 _ => ?_).mono (by omega) (fun _ _ h => h)
  refine (Ts.bnd (k := 1) (j := 0) (tkK_ts 6 hq (by decide) (by decide) (by decide)) fun _ r hr hrb l2 _ => ?_).mono (Nat.zero_le _) (fun _ _ h => h)
  unfold tkK
  cases hk : r.nx.kind == 7 with
  | false => exact ⟨_, rfl, fun a q e => by cases e⟩
  | true =>
    match hrt : r.toks with
    | [] => rw [nx_nil hrt] at hk; simp at hk
    | t :: rest =>
      rw [nx_of hrt] at hk
      have hk7 : t.kind = 7 := by simpa using hk
      have hlv := hr.lv
      rw [hrt] at hlv
      unfold lvT at hlv
      rw [if_pos hk7] at hlv
      have e0 : r.adv.toks = rest := by show r.toks.drop 1 = rest; rw [hrt]; rfl
      have hfew := hr.few
      rw [hrt, List.length_cons] at hfew
      have hB : SI r.adv.bin := ⟨hr.deep, by show r.adv.toks.length ≤ 50000; rw [e0]; omega, by show lvT (r.blk + 1) r.adv.toks; rw [e0]; exact hlv.2, hlv.1⟩
      show Ts 0 r (iff (decide (r.adv.blk < 1000)) _) Any
      have hd : decide (r.adv.blk < 1000) = true := by
        rw [decide_eq_true_eq]
        show r.blk < 1000
        have := hr.blk
        omega
      rw [hd]
      obtain ⟨z, e1, hz⟩ := blL_ts (b := p.blk + 1) hSt (r.adv.toks.length + 1) [] r.adv.bin hB (by show r.blk + 1 = p.blk + 1; omega) (by have := hB.few; simp; omega) (Nat.lt_succ_self _)
      show Ts 0 r (bnd (blL St (r.adv.toks.length + 1) [] r.adv.bin) _) Any
      rw [e1]
      match z, hz with
      | .error x, _ => exact ⟨_, rfl, fun a q e => by cases e⟩
      | .ok (l, q2), hz =>
        obtain ⟨h1, h2, h3, h4⟩ := hz l q2 rfl
        have h2' : q2.blk = r.blk + 1 := h2
        show Ts 0 r (iff (decide (1 ≤ q2.blk)) (bnd (tkK 8 q2.bout) fun _ q => ok l q)) Any
        rw [show decide (1 ≤ q2.blk) = true by rw [decide_eq_true_eq]; omega]
        show Ts 0 r (bnd (tkK 8 q2.bout) fun _ q => ok l q) Any
        match hqt : q2.toks with
        | [] => rw [nx_nil hqt] at h4; simp at h4
        | u :: rest2 =>
          have hu : u.kind = 8 := by rw [nx_of hqt] at h4; exact h4
          have hlv2 := h1.lv
          rw [hqt] at hlv2
          unfold lvT at hlv2
          rw [if_neg (by omega), if_pos hu] at hlv2
          have e3 : q2.bout.nx = u := nx_of (p := q2.bout) hqt
          have e4 : tkK 8 q2.bout = ok u q2.bout.adv := by unfold tkK; rw [e3, hu]; rfl
          rw [e4]
          have e5 : q2.bout.adv.toks = rest2 := by show q2.toks.drop 1 = rest2; rw [hqt]; rfl
          have hfew2 := h1.few
          rw [hqt, List.length_cons] at hfew2
          have hl3 : q2.toks.length + 0 ≤ r.adv.toks.length := h3
          rw [hqt, e0, List.length_cons] at hl3
          refine ⟨_, rfl, fun a q e => ?_⟩
          cases e
          refine ⟨⟨h1.deep, by rw [e5]; omega, ?_, by show q2.blk - 1 ≤ 30; have := h1.blk; omega⟩, by show q2.blk - 1 = r.blk; omega, by rw [e5, hrt, List.length_cons]; omega, trivial⟩
          show lvT (q2.blk - 1) q2.bout.adv.toks
          rw [e5]
          exact hlv2.2
section
variable {B : Ps → Px (List Sm)}
theorem condS_ts (hE : ∀ p, SI p → Ts 1 p (E p) Any) {p : Ps} (hp : SI p) (hB : ∀ q, SI q → q.blk = p.blk → Ts 1 q (B q) Any) : Ts 1 p (condS E B p) Any := by
  refine (Ts.bnd (k := 1) (j := 0) (tkS_ts _ hp) fun _ q hq b1 _ _ => ?_).mono (by omega) (fun _ _ h => h)
  refine (Ts.bnd (k := 1) (j := 0) (hE q hq) fun e r hr b2 _ _ => ?_).mono (Nat.zero_le _) (fun _ _ h => h)
  refine (Ts.bnd (k := 1) (j := 0) (hB r hr (b2.trans b1)) fun bl s hs b3 _ _ => ?_).mono (Nat.zero_le _) (fun _ _ h => h)
  cases he : s.sees [[101, 108, 115, 101]] with
  | false => exact ts_ok (J := Any) _ hs trivial
  | true =>
    obtain ⟨n0, l0⟩ := sees_adv he
    have h0 := hs.nx n0
    obtain ⟨z, e1, hz⟩ := (Ts.bnd (k := 1) (j := 0) (hB s.adv h0 (n0.blk.trans (b3.trans (b2.trans b1)))) fun c t ht _ _ _ => ts_ok (J := Any) (⟨7, [], [], e, bl, c⟩ : Sm) ht trivial)
    refine ⟨z, e1, fun a q ha => ?_⟩
    obtain ⟨k1, k2, k3, k4⟩ := hz a q ha
    exact ⟨k1, k2.trans n0.blk, by omega, trivial⟩
theorem loopS_ts (hE : ∀ p, SI p → Ts 1 p (E p) Any) {p : Ps} (hp : SI p) (hB : ∀ q, SI q → q.blk = p.blk → Ts 1 q (B q) Any) : Ts 1 p (loopS E B p) Any := by
  refine (Ts.bnd (k := 1) (j := 0) (tkS_ts _ hp) fun _ q hq b1 _ _ => ?_).mono (by omega) (fun _ _ h => h)
  refine (Ts.bnd (k := 1) (j := 0) (tkK_ts 1 hq (by decide) (by decide) (by decide)) fun t r hr b2 _ _ => ?_).mono (Nat.zero_le _) (fun _ _ h => h)
  refine (Ts.bnd (k := 1) (j := 0) (tkS_ts _ hr) fun _ s hs b3 _ _ => ?_).mono (Nat.zero_le _) (fun _ _ h => h)
  refine (Ts.bnd (k := 1) (j := 0) (hE s hs) fun e u hu b4 _ _ => ?_).mono (Nat.zero_le _) (fun _ _ h => h)
  exact (Ts.bnd (k := 1) (j := 0) (hB u hu (b4.trans (b3.trans (b2.trans b1)))) fun bl v hv _ _ _ => ts_ok (J := Any) _ hv trivial).mono (Nat.zero_le _) (fun _ _ h => h)
theorem SI.din {p : Ps} (h : SI p) (b : Bool) : SI (p.din b) := ⟨h.deep, h.few, h.lv, h.blk⟩
theorem nms_ts {p : Ps} (hp : SI p) : Ts 1 p (lst [41] nmE [] p) Any := by
  refine ((lst_tt (fun l q => l.length + q.toks.length ≤ 60000) (fun _ _ _ h n => by have := n.le; omega) (fun l q h => ?_) (p.toks.length + 1) true [] p (by have := hp.few; simp; omega) (Nat.lt_succ_self _)).ts hp).mono (Nat.le_refl _) (fun _ _ _ => trivial)
  unfold nmE
  refine tt_iff (by rw [decide_eq_true_eq]; omega) ?_
  exact (Tt.bnd (k := 1) (j := 0) (tkN_tt l q) fun x r n l1 _ => tt_ok (J := fun l q => l.length + q.toks.length ≤ 60000) (l ++ [x]) (by rw [List.length_append, List.length_singleton]; omega)).mono (Nat.le_refl _) (fun _ _ _ _ h => h)
theorem defS_ts {p : Ps} (hp : SI p) (hB : ∀ q, SI q → q.blk = p.blk → Ts 1 q (B q) Any) : Ts 1 p (defS B p) Any := by
  refine (Ts.bnd (k := 0) (j := 1) (guIf_ts _ 4 hp) fun _ q hq b1 _ _ => ?_).mono (by omega) (fun _ _ h => h)
  refine (Ts.bnd (k := 1) (j := 0) (tkS_ts _ hq) fun _ r hr b2 _ _ => ?_).mono (by omega) (fun _ _ h => h)
  refine (Ts.bnd (k := 1) (j := 0) (tkK_ts 1 hr (by decide) (by decide) (by decide)) fun t s hs b3 _ _ => ?_).mono (Nat.zero_le _) (fun _ _ h => h)
  refine (Ts.bnd (k := 1) (j := 0) (tkS_ts _ hs) fun _ u hu b4 _ _ => ?_).mono (Nat.zero_le _) (fun _ _ h => h)
  refine (Ts.bnd (k := 1) (j := 0) (nms_ts hu) fun l v hv b5 _ _ => ?_).mono (Nat.zero_le _) (fun _ _ h => h)
  obtain ⟨z, e1, hz⟩ := hB (v.din true) (hv.din true) (b5.trans (b4.trans (b3.trans (b2.trans b1))))
  rw [e1]
  match z, hz with
  | .error x, _ => exact ⟨_, rfl, fun a q e => by cases e⟩
  | .ok (bl, w), hz =>
    obtain ⟨k1, k2, k3, _⟩ := hz bl w rfl
    refine ⟨_, rfl, fun a q e => ?_⟩
    cases e
    exact ⟨k1.din false, k2, Nat.le_trans (Nat.le_succ _) k3, trivial⟩
theorem stmF_ts (hE : ∀ p, SI p → Ts 1 p (E p) Any) {p : Ps} (hp : SI p) (hB : ∀ q, SI q → q.blk = p.blk → Ts 1 q (B q) Any) : Ts 1 p (stmF E B p) Any := by
  unfold stmF
  cases h0 : p.sees [[105, 102]] with
  | true => exact condS_ts hE hp hB
  | false =>
  cases h1 : p.sees [[102, 111, 114]] with
  | true => exact loopS_ts hE hp hB
  | false =>
  cases h2 : p.sees [[100, 101, 102]] with
  | true => exact defS_ts hp hB
  | false =>
  refine (Ts.bnd (k := 1) (j := 0) (smlF_ts hE hp) fun s q hq _ _ _ => ?_).mono (Nat.le_refl _) (fun _ _ h => h)
  exact (Ts.bnd (k := 1) (j := 0) (tkK_ts 6 hq (by decide) (by decide) (by decide)) fun _ r hr _ _ _ => ts_ok (J := Any) _ hr trivial).mono (Nat.zero_le _) (fun _ _ h => h)
end
theorem stD_ts (hE : ∀ p, SI p → Ts 1 p (E p) Any) : ∀ (n : Nat) (p : Ps), SI p → 31 ≤ n + p.blk → Ts 1 p (stD E n p) Any
  | 0, p, hp, h => by have := hp.blk; omega
  | n + 1, p, hp, h => by
    unfold stD
    refine stmF_ts hE hp fun q hq hb => blF_ts hq fun r hr hrb => stD_ts hE n r hr (by omega)
theorem srcL_ts {St : Ps → Px Sm} (hSt : ∀ p, SI p → Ts 1 p (St p) Any) : ∀ (f : Nat) (l : List Sm) (p : Ps), SI p → l.length + p.toks.length ≤ 60000 → p.toks.length < f → Ts 0 p (srcL St f l p) (fun _ q => q.toks = [])
  | 0, _, _, _, _, h => by omega
  | f + 1, l, p, hp, hl, hf => by
    unfold srcL
    cases hk : decide (p.toks.length = 0) with
    | true => exact ts_ok l hp (List.length_eq_zero_iff.1 (of_decide_eq_true hk))
    | false =>
      have hn : decide (l.length < 1000000) = true := by rw [decide_eq_true_eq]; omega
      rw [hn]
      refine (Ts.bnd (k := 1) (j := 0) (hSt p hp) fun s q hq hqb l1 _ => ?_).mono (Nat.zero_le _) (fun _ _ h => h)
      have hls : less q p = true := by unfold less; rw [decide_eq_true_eq]; omega
      rw [hls]
      exact srcL_ts hSt f _ q hq (by rw [List.length_append, List.length_singleton]; omega) (by omega)
/-- All statements: something is told. -/
theorem srcF_ts {p : Ps} (hp : SI p) : Ts 0 p (srcF (exF 40) p) (fun _ q => q.toks = []) := by
  have hE : ∀ p, SI p → Ts 1 p (exF 40 p) Any := fun p hp => (exF_tt 40 p (by rw [hp.deep]; omega) (by omega) hp.few).ts hp
  exact srcL_ts (fun p hp => stD_ts hE 40 p hp (by omega)) _ [] p hp (by have := hp.few; simp; omega) (Nat.lt_succ_self _)
end
end Go.Proofs.YtcaeeackccgclaaGreatDoor

/- Parse where there is a fault. -/
namespace Go.Proofs.YtcaeeackccgclaaGreatDoor
open Go.RowKit Go.Shelf

/-- What Parse comes to, where it is told. -/
def parR (L : List UInt8) : Option (Except Ft (List Sm)) := match splitA L with
  | .error (k, z) => bif k == 0 then none else some (.error (k, z))
  | .ok toks => match srcF (exF 40) ⟨toks, L.length, 0, false, 0⟩ with
    | none => none
    | some (.error x) => some (.error x)
    | some (.ok (l, _)) => some (.ok l)
theorem parR_some {L : List UInt8} {r : Except Ft (List Sm)} (h : parR L = some r) : (∃ k z, splitA L = .error (k, z) ∧ k ≠ 0 ∧ r = .error (k, z)) ∨ ∃ toks, splitA L = .ok toks ∧ ((∃ x, srcF (exF 40) ⟨toks, L.length, 0, false, 0⟩ = some (.error x) ∧ r = .error x) ∨ ∃ l q, srcF (exF 40) ⟨toks, L.length, 0, false, 0⟩ = some (.ok (l, q)) ∧ r = .ok l) := by
  unfold parR at h
  match hs : splitA L, h with
  | .error (k, z), h =>
    simp only at h
    cases hk : k == 0 with
    | true => rw [hk] at h; cases h
    | false =>
      rw [hk] at h
      cases h
      exact .inl ⟨k, z, rfl, by simpa using hk, rfl⟩
  | .ok toks, h =>
    simp only at h
    match hr : srcF (exF 40) ⟨toks, L.length, 0, false, 0⟩, h with
    | some (.error x), h => cases h; exact .inr ⟨toks, rfl, .inl ⟨x, hr, rfl⟩⟩
    | some (.ok (l, q)), h => cases h; exact .inr ⟨toks, rfl, .inr ⟨l, q, hr, rfl⟩⟩

set_option maxHeartbeats 8000000 in
set_option maxRecDepth 100000 in
theorem Parse_fault (L : List UInt8) (w : World) (hr : ErrR w) {k z : Nat} (hk : k ≠ 0) (h1 : splitA L = .error (k, z)) :
    Calls Tryz.prog 8 #[.string (mkB L)] w (ParP w (.error (k, z))) := by
  have hrW : ErrR (w.alloc (.cells #[.int .i64 0, .int .i64 0] 25)) := hr.up (alB w _)
  have HS := Split_any L (w.alloc (.cells #[.int .i64 0, .int .i64 0] 25)) hrW
  rw [h1] at HS
  have HB : Hid (Below w.heap.size w (w.alloc (.cells #[.int .i64 0, .int .i64 0] 25))) := alB w _
  have hs0 : (w.alloc (.cells #[.int .i64 0, .int .i64 0] 25)).heap.size = w.heap.size + 1 := World.size_alloc _ _
  have hf0 := heap_alloc_new w (.cells #[.int .i64 0, .int .i64 0] 25)
  have hki : ¬ (k : Int) = 0 := by omega
  have hkb : ((k : Int) == 0) = false := beq_eq_false_iff_ne.2 hki
  clear h1 hrW hr hk
  go_enter Tryz.func8, Tryz.ntmps8
  go_wp2_with fail
  refine HS.mono ?_
  rintro e w1 ⟨hbad, _, hb1⟩
  obtain rfl := hbad k z rfl
  have hf1 := (hb1.block w.heap.size (by omega)).trans hf0
  have hs1 : w.heap.size < w1.heap.size := (Array.getElem?_eq_some_iff.1 hf1).1
  have g0 : w1.cell? ⟨w.heap.size, 0, none⟩ = some (.int .i64 0) := by rw [Lib.cell_of_heap hf1]; rfl
  have g1 : w1.cell? ⟨w.heap.size, 1, none⟩ = some (.int .i64 0) := by rw [Lib.cell_of_heap hf1]; rfl
  have k0 : w1.frozen? ⟨w.heap.size, 0, none⟩ = false := Lib.frozen_of_heap hf1 0
  have k1 : w1.frozen? ⟨w.heap.size, 1, none⟩ = false := Lib.frozen_of_heap hf1 1
  have hbs := ((HB.out.trans (hb1.mono (by omega))).setCell (p := ⟨w.heap.size, 0, none⟩) (Nat.le_refl _) (.int .i64 (k : Int))).setCell (p := ⟨w.heap.size, 1, none⟩) (Nat.le_refl _) (.int .i64 (z : Int))
  have HZ : Hid (Below w.heap.size w ((((w1.setCell ⟨w.heap.size, 0, none⟩ (.int .i64 (k : Int))).setCell ⟨w.heap.size, 1, none⟩ (.int .i64 (z : Int))).alloc (.cells #[.int .i64 k, .int .i64 z] 25)).drew)) := (hbs.alloc (by have := hbs.size; omega) _).drew
  clear hbad hb1 hf1 hf0 HS hbs
  go_wp2
  go_region
  all_goals
    go_wp2
    refine bodyPost_ret (v := .tuple #[.slice none 0 0, .agg #[.int .i64 k, .int .i64 z]]) (by simp [results, Tryz.results8, go_sem, g0, g1, hs1]) rfl ⟨fun k' z' hz => ?_, (fun l' hl' => by cases hl'), HZ.out⟩
    cases hz
    rfl

set_option maxHeartbeats 8000000 in
set_option maxRecDepth 100000 in
theorem Parse_err (L : List UInt8) (w : World) (hr : ErrR w) {toks : List Tk} {k z : Nat} (h1 : splitA L = .ok toks) (h3 : srcF (exF 40) ⟨toks, L.length, 0, false, 0⟩ = some (.error (k, z))) :
    Calls Tryz.prog 8 #[.string (mkB L)] w (ParP w (.error (k, z))) := by
  have hrW : ErrR (w.alloc (.cells #[.int .i64 0, .int .i64 0] 25)) := hr.up (alB w _)
  have HS := Split_any L (w.alloc (.cells #[.int .i64 0, .int .i64 0] 25)) hrW
  rw [h1] at HS
  have HP : Hid (∀ (V : World) (B : Nat) (tv : Value), ErrR V → V.ownsRow B 84 4 tv toks.length (tcs toks) → Calls Tryz.prog 14 #[tv, .int .i64 L.length] V (ParP V (.error (k, z)))) := fun V B tv he hV => parse_err he L.length hV (fun P T => exF_any 40) h3
  have HB : Hid (Below w.heap.size w (w.alloc (.cells #[.int .i64 0, .int .i64 0] 25))) := alB w _
  have hs0 : (w.alloc (.cells #[.int .i64 0, .int .i64 0] 25)).heap.size = w.heap.size + 1 := World.size_alloc _ _
  have hf0 := heap_alloc_new w (.cells #[.int .i64 0, .int .i64 0] 25)
  have hsz := mk_size L
  have HErr : Hid (∀ W', Below w.heap.size w W' → ErrR W') := fun W' hb => hr.up hb
  clear h1 h3 hrW hr
  go_enter Tryz.func8, Tryz.ntmps8
  go_wp2_with fail
  refine HS.mono ?_
  rintro e w1 ⟨_, hok, hb1⟩
  obtain ⟨tv, rfl, hown⟩ := hok toks rfl
  obtain ⟨ao, cp, rfl⟩ := row_shape hown
  have hf1 := (hb1.block w.heap.size (by omega)).trans hf0
  have hs1 : w.heap.size < w1.heap.size := (Array.getElem?_eq_some_iff.1 hf1).1
  have hownX : (w1.alloc (.cells #[.int .i64 0, .int .i64 0] 25)).ownsRow _ 84 4 (.slice ao toks.length cp) toks.length (tcs toks) := own_heap hown (fun g hg => heap_al w1 _ g (hown.lt g hg).2)
  have HPa := HP.out _ _ _ (HErr.out _ (HB.out.trans ((hb1.trans ((alB w1 _).mono hb1.size)).mono (by omega)))) hownX
  have hf2 : (w1.alloc (.cells #[.int .i64 0, .int .i64 0] 25)).heap[w.heap.size]? = some (.cells #[.int .i64 0, .int .i64 0] 25 (0, 0)) := (heap_al _ _ _ hs1).trans hf1
  have HQ : Hid (Below w.heap.size w (w1.alloc (.cells #[.int .i64 0, .int .i64 0] 25)) ∧ (w1.alloc (.cells #[.int .i64 0, .int .i64 0] 25)).heap[w.heap.size]? = some (.cells #[.int .i64 0, .int .i64 0] 25 (0, 0))) := ⟨(HB.out.trans (hb1.mono (by omega))).trans ((alB w1 _).mono (by omega)), hf2⟩
  clear hok hb1 hown hownX hf1 hf2 HP HS hf0
  go_wp2_with fail
  refine HPa.mono ?_
  rintro e w2 ⟨hbad, _, hb2⟩
  obtain rfl := hbad k z rfl
  have hf3 := (hb2.block w.heap.size (Array.getElem?_eq_some_iff.1 HQ.out.2).1).trans HQ.out.2
  have g0 : w2.cell? ⟨w.heap.size, 0, none⟩ = some (.int .i64 0) := by rw [Lib.cell_of_heap hf3]; rfl
  have g1 : w2.cell? ⟨w.heap.size, 1, none⟩ = some (.int .i64 0) := by rw [Lib.cell_of_heap hf3]; rfl
  have k0 : w2.frozen? ⟨w.heap.size, 0, none⟩ = false := Lib.frozen_of_heap hf3 0
  have k1 : w2.frozen? ⟨w.heap.size, 1, none⟩ = false := Lib.frozen_of_heap hf3 1
  have HZ : Hid (Below w.heap.size w ((w2.setCell ⟨w.heap.size, 0, none⟩ (.int .i64 (k : Int))).setCell ⟨w.heap.size, 1, none⟩ (.int .i64 (z : Int)))) := ((HQ.out.1.trans (hb2.mono HQ.out.1.size)).setCell (p := ⟨w.heap.size, 0, none⟩) (Nat.le_refl _) _).setCell (p := ⟨w.heap.size, 1, none⟩) (Nat.le_refl _) _
  clear hbad hb2 hf3 HPa HQ
  go_wp2
  refine bodyPost_ret (v := .tuple #[.slice none 0 0, .agg #[.int .i64 k, .int .i64 z]]) (by simp [results, Tryz.results8, go_sem, g0, g1]) rfl ⟨fun k' z' hz => ?_, (fun l' hl' => by cases hl'), HZ.out⟩
  cases hz
  rfl

set_option maxHeartbeats 8000000 in
set_option maxRecDepth 100000 in
theorem Parse_fine (L : List UInt8) (w : World) (hr : ErrR w) {toks : List Tk} {l : List Sm} {q : Ps} (h1 : splitA L = .ok toks) (h3 : srcF (exF 40) ⟨toks, L.length, 0, false, 0⟩ = some (.ok (l, q))) :
    Calls Tryz.prog 8 #[.string (mkB L)] w (ParP w (.ok l)) := by
  have hrW : ErrR (w.alloc (.cells #[.int .i64 0, .int .i64 0] 25)) := hr.up (alB w _)
  have HS := Split_any L (w.alloc (.cells #[.int .i64 0, .int .i64 0] 25)) hrW
  rw [h1] at HS
  have HP : Hid (∀ (V : World) (B : Nat) (tv : Value), ErrR V → V.ownsRow B 84 4 tv toks.length (tcs toks) → Calls Tryz.prog 14 #[tv, .int .i64 L.length] V (ParP V (.ok l))) := fun V B tv he hV => parse_any he L.length hV (fun P T => exF_any 40) h3
  have HB : Hid (Below w.heap.size w (w.alloc (.cells #[.int .i64 0, .int .i64 0] 25))) := alB w _
  have hs0 : (w.alloc (.cells #[.int .i64 0, .int .i64 0] 25)).heap.size = w.heap.size + 1 := World.size_alloc _ _
  have hf0 := heap_alloc_new w (.cells #[.int .i64 0, .int .i64 0] 25)
  have hsz := mk_size L
  have HErr : Hid (∀ W', Below w.heap.size w W' → ErrR W') := fun W' hb => hr.up hb
  clear h1 h3 hrW hr
  go_enter Tryz.func8, Tryz.ntmps8
  go_wp2_with fail
  refine HS.mono ?_
  rintro e w1 ⟨_, hok, hb1⟩
  obtain ⟨tv, rfl, hown⟩ := hok toks rfl
  obtain ⟨ao, cp, rfl⟩ := row_shape hown
  have hf1 := (hb1.block w.heap.size (by omega)).trans hf0
  have hs1 : w.heap.size < w1.heap.size := (Array.getElem?_eq_some_iff.1 hf1).1
  have hownX : (w1.alloc (.cells #[.int .i64 0, .int .i64 0] 25)).ownsRow _ 84 4 (.slice ao toks.length cp) toks.length (tcs toks) := own_heap hown (fun g hg => heap_al w1 _ g (hown.lt g hg).2)
  have HPa := HP.out _ _ _ (HErr.out _ (HB.out.trans ((hb1.trans ((alB w1 _).mono hb1.size)).mono (by omega)))) hownX
  have hf2 : (w1.alloc (.cells #[.int .i64 0, .int .i64 0] 25)).heap[w.heap.size]? = some (.cells #[.int .i64 0, .int .i64 0] 25 (0, 0)) := (heap_al _ _ _ hs1).trans hf1
  have HQ : Hid (Below w.heap.size w (w1.alloc (.cells #[.int .i64 0, .int .i64 0] 25)) ∧ (w1.alloc (.cells #[.int .i64 0, .int .i64 0] 25)).heap[w.heap.size]? = some (.cells #[.int .i64 0, .int .i64 0] 25 (0, 0))) := ⟨(HB.out.trans (hb1.mono (by omega))).trans ((alB w1 _).mono (by omega)), hf2⟩
  clear hok hb1 hown hownX hf1 hf2 HP HS hf0
  go_wp2_with fail
  refine HPa.mono ?_
  rintro e w2 ⟨_, hok, hb2⟩
  obtain ⟨v, vs, rfl, hrw⟩ := hok l rfl
  obtain ⟨a3, c3, rfl⟩ := row_shape hrw.row
  have hf3 := (hb2.block w.heap.size (Array.getElem?_eq_some_iff.1 HQ.out.2).1).trans HQ.out.2
  have g0 : w2.cell? ⟨w.heap.size, 0, none⟩ = some (.int .i64 0) := by rw [Lib.cell_of_heap hf3]; rfl
  have g1 : w2.cell? ⟨w.heap.size, 1, none⟩ = some (.int .i64 0) := by rw [Lib.cell_of_heap hf3]; rfl
  have k0 : w2.frozen? ⟨w.heap.size, 0, none⟩ = false := Lib.frozen_of_heap hf3 0
  have k1 : w2.frozen? ⟨w.heap.size, 1, none⟩ = false := Lib.frozen_of_heap hf3 1
  have HZ : Hid (Below w.heap.size w ((w2.setCell ⟨w.heap.size, 0, none⟩ (.int .i64 0)).setCell ⟨w.heap.size, 1, none⟩ (.int .i64 0)) ∧ RwS w.heap.size ((w2.setCell ⟨w.heap.size, 0, none⟩ (.int .i64 0)).setCell ⟨w.heap.size, 1, none⟩ (.int .i64 0)) l (.slice a3 l.length c3) vs) := by
    refine ⟨((HQ.out.1.trans (hb2.mono HQ.out.1.size)).setCell (p := ⟨w.heap.size, 0, none⟩) (Nat.le_refl _) _).setCell (p := ⟨w.heap.size, 1, none⟩) (Nat.le_refl _) _, ?_⟩
    have hsX := (Array.getElem?_eq_some_iff.1 HQ.out.2).1
    exact (hrw.keep (fun g hg _ => (Below.heap_setCell _ ⟨w.heap.size, 1, none⟩ _ g (by show ¬ g = w.heap.size; omega)).trans (Below.heap_setCell _ ⟨w.heap.size, 0, none⟩ _ g (by show ¬ g = w.heap.size; omega)))).mono (by omega)
  clear hok hb2 hrw hf3 HPa HQ
  go_wp2
  refine bodyPost_ret (v := .tuple #[.slice a3 l.length c3, .agg #[.int .i64 0, .int .i64 0]]) (by simp [results, Tryz.results8, go_sem, g0, g1]) rfl ⟨(fun k z hz => by cases hz), fun l' hl' => ?_, HZ.out.1⟩
  cases hl'
  exact ⟨_, vs, rfl, HZ.out.2⟩

theorem Parse_any (L : List UInt8) (w : World) (hr : ErrR w) {r : Except Ft (List Sm)} (h : parR L = some r) :
    Calls Tryz.prog 8 #[.string (mkB L)] w (ParP w r) := by
  rcases parR_some h with ⟨k, z, h1, hk, rfl⟩ | ⟨toks, h1, ⟨⟨k, z⟩, h3, rfl⟩ | ⟨l, q, h3, rfl⟩⟩
  · exact Parse_fault L w hr hk h1
  · exact Parse_err L w hr h1 h3
  · exact Parse_fine L w hr h1 h3
end Go.Proofs.YtcaeeackccgclaaGreatDoor

/- Where tokens stand, plain. -/
namespace Go.Proofs.YtcaeeackccgclaaGreatDoor
open Go.RowKit Go.Shelf

/-- A token stands in its source. -/
structure Std (L : List UInt8) (t : Tk) : Prop where
  plain : t.kind = 1 ∨ t.kind = 2 ∨ t.kind = 4 ∨ t.kind = 5 → t.text ≠ [] ∧ t.pos + t.text.length ≤ L.length ∧ (L.drop t.pos).take t.text.length = t.text
  quote : t.kind = 3 → t.pos < L.length ∧ (L.getD t.pos 0).toNat = 34
  none_ : 6 ≤ t.kind → t.text = []
  num : t.kind ≠ 2 → t.num = 0
  kind : 1 ≤ t.kind ∧ t.kind ≤ 8
  pos : t.pos ≤ L.length
  small : t.num ≤ 9007199254740991
def AllStd (L : List UInt8) (p : Sp) : Prop := ∀ t ∈ p.toks, Std L t

theorem AllStd.snoc {L : List UInt8} {p q : Sp} (h : AllStd L p) (t : Tk) (ht : Std L t) (hq : q.toks = p.toks ++ [t]) : AllStd L q := by
  intro x hx
  rw [hq] at hx
  rcases List.mem_append.1 hx with hx | hx
  · exact h x hx
  · rw [List.mem_singleton.1 hx]; exact ht
theorem AllStd.add {L : List UInt8} {p : Sp} (h : AllStd L p) (k : Nat) (h1 : 6 ≤ k) (h2 : k ≤ 8) (hp : p.pos ≤ L.length) : AllStd L (p.add k) :=
  h.snoc ⟨k, [], 0, p.pos⟩ ⟨fun hk => by exfalso; simp only at hk; omega, fun hk => by exfalso; simp only at hk; omega, fun _ => rfl, fun _ => rfl, ⟨by show 1 ≤ k; omega, h2⟩, hp, by show 0 ≤ _; omega⟩ rfl
theorem outF_std (L : List UInt8) (i : Nat) : ∀ (f : Nat) (p : Sp), p.pos ≤ L.length → AllStd L p → AllStd L (outF i f p) := by
  intro f
  induction f with
  | zero => intro p _ h; exact h
  | succ f ih =>
    intro p hp h
    by_cases hi : i < p.top
    · rw [outF_step i f p hi]
      exact ih _ hp (AllStd.add (p := { p with ins := p.ins.drop 1 }) h 8 (by omega) (by omega) hp)
    · rw [outF_stop i _ p hi]; exact h
theorem come_std {L : List UInt8} {p : Sp} (h : AllStd L p) (hp : p.pos ≤ L.length) (i : Nat) : AllStd L (p.come i) := by
  show AllStd L (outF i _ _)
  by_cases ht : p.top < i
  · rw [if_pos ht]
    exact outF_std L i _ _ hp (AllStd.add (p := { p with ins := i :: p.ins }) h 7 (by omega) (by omega) hp)
  · rw [if_neg ht]
    exact outF_std L i _ _ hp h
theorem tok1_std {L : List UInt8} {p q : Sp} (h : tok1 L p = .ok q) (hs : AllStd L p) (hp : p.pos < L.length) (hb : beg (L.drop p.pos) = true) (hni : isDg (L.getD p.pos 0) = true → noInt (L.drop p.pos) = false) : AllStd L q := by
  have hdl : (L.drop p.pos).length = L.length - p.pos := List.length_drop
  have hrl : 0 < (L.drop p.pos).length := by omega
  have hpl : ∀ (k n : Nat) (m : Nat), 0 < m → m ≤ (L.drop p.pos).length → (k = 1 ∨ k = 2 ∧ n ≤ 9007199254740991 ∨ k = 4 ∨ k = 5) → (k ≠ 2 → n = 0) → Std L ⟨k, (L.drop p.pos).take m, n, p.pos⟩ := by
    intro k n m hm hml hk hn
    have hl : ((L.drop p.pos).take m).length = m := by rw [List.length_take, Nat.min_eq_left hml]
    refine ⟨fun _ => ⟨fun e => ?_, ?_, ?_⟩, fun hk3 => ?_, fun hk6 => ?_, hn, ?_, Nat.le_of_lt hp, ?_⟩
    · have := congrArg List.length e
      simp only [hl] at this
      simp at this
      omega
    · simp only [hl]; omega
    · simp only [hl]
    · simp only at hk3; omega
    · simp only at hk6; omega
    · simp only; omega
    · show n ≤ _
      by_cases h2 : k = 2
      · omega
      · rw [hn h2]; omega
  unfold tok1 at h
  simp only [at_drop] at h
  split at h
  · rename_i h34
    split at h
    · cases h
    · cases h
      exact hs.snoc _ ⟨fun hk => by exfalso; simp only at hk; omega, fun _ => ⟨hp, h34⟩, fun hk => by exfalso; simp only at hk; omega, fun _ => rfl, ⟨by show 1 ≤ 3; omega, by show 3 ≤ 8; omega⟩, Nat.le_of_lt hp, by show 0 ≤ _; omega⟩ rfl
  rename_i h34
  split at h
  · rename_i hd
    have h2 : 0 < rch isDg (L.drop p.pos) := rch_pos hrl (by rw [at_drop]; exact hd)
    have hv : valD 0 ((L.drop p.pos).take (rch isDg (L.drop p.pos))) ≤ 9007199254740991 := by
      have := hni hd
      unfold noInt at this
      simp at this
      exact this.1
    cases h
    exact hs.snoc _ (hpl 2 _ _ h2 (rch_le _ _) (.inr (.inl ⟨rfl, hv⟩)) (fun e => absurd rfl e)) rfl
  rename_i hd
  split at h
  · rename_i hlt
    have h2 : 0 < rch isNm (L.drop p.pos) := rch_pos hrl (by rw [at_drop]; unfold isNm; rw [hlt]; rfl)
    cases h
    refine hs.snoc _ (hpl _ 0 _ h2 (rch_le _ _) ?_ (fun _ => rfl)) rfl
    cases isWd ((L.drop p.pos).take (rch isNm (L.drop p.pos)))
    · exact .inl rfl
    · exact .inr (.inr (.inr rfl))
  rename_i hlt
  have h2 : 0 < sgn (L.drop p.pos) := beg_sign _ hb (by rw [at_drop]; exact h34) (by rw [at_drop]; simpa using hd) (by rw [at_drop]; simpa using hlt)
  cases h
  exact hs.snoc _ (hpl 4 0 _ h2 (sgn_le _ hrl) (.inr (.inr (.inl rfl))) (fun _ => rfl)) rfl

theorem toksF_std (L : List UInt8) : ∀ (f i : Nat) (p q : Sp), SpOk L p 1 → AllStd L p → toksF L f i p = .ok q → AllStd L q := by
  intro f
  induction f with
  | zero => intro i p q _ _ h; cases h
  | succ f ih =>
    intro i p q hk hs h
    unfold toksF at h
    split at h
    · cases h; exact hs
    rename_i he
    split at h
    · cases h
    rename_i hr
    split at h
    · cases h
    rename_i t ht
    have hp : p.pos < L.length := by
      have := hk.pos
      rcases Nat.lt_or_ge p.pos L.length with h1 | h1
      · exact h1
      · exfalso; apply he; unfold endL
        rw [show decide (p.pos = L.length) = true from by simp; omega]; rfl
    have hr0 : refu L p i = 0 := by
      rcases Nat.eq_zero_or_pos (refu L p i) with e | e
      · exact e
      · exact absurd (by omega) hr
    obtain ⟨r1, r2, r3, r4, r5⟩ := refu_zero hr0
    obtain ⟨a, _⟩ := turn_ok hk hp hr0 ht
    have hc := (come_ok hk.ins i).1
    have b : AllStd L t := tok1_std ht (come_std hs hk.pos i) (by rw [hc]; exact hp) (by rw [hc]; exact r1) (by rw [hc]; exact r3)
    exact ih _ _ _ a b h
theorem lineF_std {L : List UInt8} {p q : Sp} (hk : SpOk L p 1) (hs : AllStd L p) (h : lineF L p = .ok q) : AllStd L q := by
  have hsk := skip_ok (L := L) hk.pos
  have hk1 : SpOk L (p.skip L) 1 := ⟨hsk.2, hk.ins.of rfl, hk.i31, hk.o30, by show p.toks.length + p.ins.length ≤ 4 * (p.skip L).pos + 1; have := hk.cnt; omega⟩
  unfold lineF at h
  split at h
  · cases h
  rename_i r hr
  have a := toksF_std L _ _ _ _ hk1 hs hr
  have b := (toksF_ok L _ _ _ _ hk1 hr).1
  split at h
  · cases h
  split at h
  · cases h; exact a.add 6 (by omega) (by omega) b.pos
  · cases h; exact a
theorem linesF_std (L : List UInt8) : ∀ (f : Nat) (p q : Sp), SpOk L p 1 → AllStd L p → linesF L f p = .ok q → AllStd L q := by
  intro f
  induction f with
  | zero => intro p q _ _ h; cases h
  | succ f ih =>
    intro p q hk hs h
    unfold linesF at h
    split at h
    · cases h; exact come_std hs hk.pos 0
    split at h
    · cases h
    rename_i r hr
    have a := lineF_std hk hs hr
    obtain ⟨b, c⟩ := lineF_ok hk hr
    split at h
    · cases h; exact come_std a b.pos 0
    · rename_i hne
      have := b.pos
      exact ih { r with pos := r.pos + 1 } q ⟨by show r.pos + 1 ≤ _; omega, b.ins.of rfl, b.i31, b.o30, by show r.toks.length + r.ins.length ≤ 4 * (r.pos + 1) + 1; have := b.cnt; omega⟩ a h
theorem splitL_std {L : List UInt8} {l : List Tk} (h : splitL L = .ok l) : ∀ t ∈ l, Std L t := by
  unfold splitL at h
  split at h
  · cases h
  rename_i q hq
  cases h
  exact linesF_std L _ _ _ ⟨Nat.zero_le _, ⟨by simp, rfl⟩, by decide, by decide, by decide⟩ (fun t ht => by cases ht) hq
end Go.Proofs.YtcaeeackccgclaaGreatDoor

/- How far in tokens are, plain. -/
namespace Go.Proofs.YtcaeeackccgclaaGreatDoor.Lw
open Go.RowKit Go.Shelf

def lvl (t : Tk) : Int := if t.kind = 7 then 1 else if t.kind = 8 then -1 else 0
def dep : List Tk → Int
  | [] => 0
  | t :: r => lvl t + dep r
theorem dep_snoc : ∀ (l : List Tk) (t : Tk), dep (l ++ [t]) = dep l + lvl t
  | [], t => by show lvl t + 0 = 0 + lvl t; omega
  | a :: r, t => by show lvl a + dep (r ++ [t]) = lvl a + dep r + lvl t; rw [dep_snoc r t]; omega
def lastP (l : List Tk) : Nat := match l.getLast? with | some t => t.pos | none => 0
def lastK (l : List Tk) : Nat := match l.getLast? with | some t => t.kind | none => 6
theorem lastP_snoc (l : List Tk) (t : Tk) : lastP (l ++ [t]) = t.pos := by unfold lastP; simp
theorem lastK_snoc (l : List Tk) (t : Tk) : lastK (l ++ [t]) = t.kind := by unfold lastK; simp

/-- A token may come behind these. -/
structure Nxt (n : Nat) (l : List Tk) (t : Tk) : Prop where
  rise : lastP l ≤ t.pos
  most : t.pos ≤ n
  d0 : 0 ≤ dep l + lvl t
  d30 : dep l + lvl t ≤ 30
  behind : t.kind = 7 ∨ t.kind = 8 → lastK l = 6 ∨ lastK l = 8
def AllNxt (n : Nat) (l : List Tk) : Prop := ∀ (i : Nat) (h : i < l.length), Nxt n (l.take i) l[i]
theorem AllNxt.snoc {n : Nat} {l : List Tk} (h : AllNxt n l) {t : Tk} (ht : Nxt n l t) : AllNxt n (l ++ [t]) := by
  intro i hi
  by_cases hl : i < l.length
  · have e1 : (l ++ [t]).take i = l.take i := by rw [List.take_append_of_le_length (by omega)]
    have e2 : (l ++ [t])[i] = l[i] := List.getElem_append_left hl
    rw [e1, e2]; exact h i hl
  · have hi2 : i = l.length := by simp at hi; omega
    subst hi2
    have e1 : (l ++ [t]).take l.length = l := by simp
    have e2 : (l ++ [t])[l.length] = t := by simp
    rw [e1, e2]; exact ht

/-- Nought at the bottom, and no other one. -/
def Ps (l : List Nat) : Prop := ∃ ys : List Nat, l = ys ++ [0] ∧ ∀ y ∈ ys, 0 < y
theorem Ps.pop {l : List Nat} (h : Ps l) (h2 : 2 ≤ l.length) : Ps (l.drop 1) := by
  obtain ⟨ys, rfl, hy⟩ := h
  cases ys with
  | nil => simp at h2
  | cons a r => exact ⟨r, rfl, fun y hm => hy y (List.mem_cons_of_mem _ hm)⟩
theorem Ps.push {l : List Nat} (h : Ps l) {i : Nat} (hi : 0 < i) : Ps (i :: l) := by
  obtain ⟨ys, rfl, hy⟩ := h
  refine ⟨i :: ys, rfl, fun y hm => ?_⟩
  rcases List.mem_cons.1 hm with e | e
  · rw [e]; exact hi
  · exact hy y e

structure Lv (n : Nat) (p : Sp) : Prop where
  all : AllNxt n p.toks
  deep : dep p.toks + 1 = (p.ins.length : Int)
  last : lastP p.toks ≤ p.pos
  ps : Ps p.ins

theorem Lv.snoc {n : Nat} {p q : Sp} (h : Lv n p) (t : Tk) (hq : q.toks = p.toks ++ [t]) (ht : Nxt n p.toks t) (hd : dep p.toks + lvl t + 1 = (q.ins.length : Int)) (hp : t.pos ≤ q.pos) (hps : Ps q.ins) : Lv n q :=
  ⟨by rw [hq]; exact h.all.snoc ht, by rw [hq, dep_snoc]; exact hd, by rw [hq, lastP_snoc]; exact hp, hps⟩

theorem outF_zero : ∀ (f : Nat) (p : Sp), Ps p.ins → p.ins.length ≤ f + 1 → (outF 0 f p).ins.length = 1 := by
  intro f
  induction f with
  | zero =>
    intro p h hl
    obtain ⟨ys, e, hy⟩ := h
    show p.ins.length = 1
    rw [e] at hl ⊢
    simp at hl ⊢
    exact hl
  | succ f ih =>
    intro p h hl
    by_cases hi : 0 < p.top
    · rw [outF_step 0 f p hi]
      have h2 : 2 ≤ p.ins.length := by
        obtain ⟨ys, e, hy⟩ := h
        cases ys with
        | nil => unfold Sp.top at hi; rw [e] at hi; simp at hi
        | cons a r => rw [e]; simp
      refine ih _ (h.pop h2) ?_
      show (p.ins.drop 1).length ≤ _
      rw [List.length_drop]; omega
    · rw [outF_stop 0 _ p hi]
      obtain ⟨ys, e, hy⟩ := h
      cases ys with
      | nil => rw [e]; rfl
      | cons a r =>
        exfalso; apply hi
        unfold Sp.top; rw [e]
        exact hy a List.mem_cons_self
theorem come_zero {p : Sp} (h : Ps p.ins) : (p.come 0).ins.length = 1 := by
  show (outF 0 _ (if p.top < 0 then _ else p)).ins.length = 1
  rw [if_neg (Nat.not_lt_zero _)]
  exact outF_zero _ p h (by omega)

theorem come_same (p : Sp) : p.come p.top = p := by
  show outF p.top _ (if p.top < p.top then _ else p) = p
  rw [if_neg (Nat.lt_irrefl _)]
  exact outF_stop _ _ _ (Nat.lt_irrefl _)

theorem outF_lv (n i : Nat) : ∀ (f : Nat) (p : Sp), InOk p → p.ins.length ≤ 31 → p.pos ≤ n → (lastK p.toks = 6 ∨ lastK p.toks = 8) → Lv n p → Lv n (outF i f p) ∧ p.toks.length ≤ (outF i f p).toks.length := by
  intro f
  induction f with
  | zero => intro p _ _ _ _ h; exact ⟨h, Nat.le_refl _⟩
  | succ f ih =>
    intro p hk h31 hp hl h
    by_cases hi : i < p.top
    · have h2 := hk.two i hi
      rw [outF_step i f p hi]
      have e1 : (({ p with ins := p.ins.drop 1 } : Sp).add 8).ins.length = p.ins.length - 1 := List.length_drop
      have e2 : (({ p with ins := p.ins.drop 1 } : Sp).add 8).toks.length = p.toks.length + 1 := by
        show (p.toks ++ [_]).length = _
        simp
      have hd := h.deep
      have a : Lv n (({ p with ins := p.ins.drop 1 } : Sp).add 8) := by
        refine h.snoc ⟨8, [], 0, p.pos⟩ rfl ⟨h.last, hp, ?_, ?_, fun _ => hl⟩ ?_ (Nat.le_refl _) (h.ps.pop h2)
        · show 0 ≤ dep p.toks + (-1); omega
        · show dep p.toks + (-1) ≤ 30; omega
        · show dep p.toks + (-1) + 1 = _; rw [e1]; omega
      obtain ⟨b, c⟩ := ih (({ p with ins := p.ins.drop 1 } : Sp).add 8) (hk.pop h2 _ rfl) (by omega) hp (.inr (by show lastK (p.toks ++ [_]) = 8; rw [lastK_snoc])) a
      exact ⟨b, by omega⟩
    · rw [outF_stop i _ p hi]
      exact ⟨h, Nat.le_refl _⟩
theorem come_lv {n : Nat} {p : Sp} (h : Lv n p) (hk : InOk p) (h31 : p.ins.length ≤ 31) (hp : p.pos ≤ n) (i : Nat) (h30 : p.top < i → p.ins.length ≤ 30) (hi : i = p.top ∨ lastK p.toks = 6) : Lv n (p.come i) ∧ p.toks.length ≤ (p.come i).toks.length := by
  rcases hi with rfl | hl
  · rw [come_same]; exact ⟨h, Nat.le_refl _⟩
  · show Lv n (outF i _ _) ∧ _ ≤ (outF i _ _).toks.length
    by_cases ht : p.top < i
    · rw [if_pos ht]
      rw [outF_stop i _ _ (by show ¬ i < i; exact Nat.lt_irrefl _)]
      have hd := h.deep
      have := h30 ht
      refine ⟨h.snoc ⟨7, [], 0, p.pos⟩ rfl ⟨h.last, hp, ?_, ?_, fun _ => .inl hl⟩ ?_ (Nat.le_refl _) (h.ps.push (by omega)), ?_⟩
      · show 0 ≤ dep p.toks + 1; omega
      · show dep p.toks + 1 ≤ 30; omega
      · show dep p.toks + 1 + 1 = ((i :: p.ins).length : Int); simp; omega
      · show _ ≤ (p.toks ++ [_]).length; simp
    · rw [if_neg ht]
      exact outF_lv n i _ p hk h31 hp (.inl hl) h
theorem tok1_lv {L : List UInt8} {p q : Sp} (h : tok1 L p = .ok q) (hs : Lv L.length p) (hk : p.ins.length ≤ 31) (hk1 : 1 ≤ p.ins.length) (hp : p.pos < L.length) (hpq : p.pos < q.pos) : Lv L.length q ∧ q.ins = p.ins ∧ q.toks.length = p.toks.length + 1 := by
  have hd := hs.deep
  have key : ∀ (k : Nat) (t : List UInt8) (m : Nat), 1 ≤ k → k ≤ 5 → q.toks = p.toks ++ [⟨k, t, m, p.pos⟩] → q.ins = p.ins → Lv L.length q ∧ q.ins = p.ins ∧ q.toks.length = p.toks.length + 1 := by
    intro k t m h1 h5 e ei
    have hl : lvl ⟨k, t, m, p.pos⟩ = 0 := by
      show (if k = 7 then (1 : Int) else if k = 8 then -1 else 0) = 0
      rw [if_neg (by omega), if_neg (by omega)]
    refine ⟨hs.snoc _ e ⟨hs.last, Nat.le_of_lt hp, ?_, ?_, fun hk => ?_⟩ ?_ (Nat.le_of_lt hpq) (by rw [ei]; exact hs.ps), ei, by rw [e]; simp⟩
    · rw [hl]; omega
    · rw [hl]; omega
    · exfalso; simp only at hk; omega
    · rw [hl, ei]; omega
  unfold tok1 at h
  simp only [at_drop] at h
  split at h
  · split at h
    · cases h
    · cases h; exact key 3 _ _ (by omega) (by omega) rfl rfl
  split at h
  · cases h; exact key 2 _ _ (by omega) (by omega) rfl rfl
  split at h
  · cases h
    refine key _ _ _ ?_ ?_ rfl rfl
    · cases isWd ((L.drop p.pos).take (rch isNm (L.drop p.pos))) <;> decide
    · cases isWd ((L.drop p.pos).take (rch isNm (L.drop p.pos))) <;> decide
  · cases h; exact key 4 _ _ (by omega) (by omega) rfl rfl

theorem txt_err : ∀ (f : Nat) (r said : List UInt8) (x y : Nat), txt f r said x = .error y → y ≤ x + r.length := by
  intro f
  induction f with
  | zero => intro r said x y h; cases h; omega
  | succ f ih =>
    intro r said x y h
    unfold txt at h
    by_cases h0 : r = []
    · simp only [h0, if_true] at h; cases h; omega
    simp only [h0, if_false] at h
    have hl : 0 < r.length := List.length_pos_iff.2 h0
    split at h
    · cases h
    split at h
    · split at h
      · cases h; omega
      rename_i h1
      have hl2 : 0 < (r.drop 1).length := List.length_pos_iff.2 h1
      rw [List.length_drop] at hl2
      split at h
      · have := ih _ _ _ _ h; rw [List.length_drop] at this; omega
      split at h
      · have := ih _ _ _ _ h; rw [List.length_drop] at this; omega
      split at h
      · have := ih _ _ _ _ h; rw [List.length_drop] at this; omega
      · cases h; omega
    split at h
    · cases h; omega
    · have h1 := rch_le isPl r
      have := ih _ _ _ _ h
      rw [List.length_drop] at this
      omega
theorem tok1_err {L : List UInt8} {p : Sp} {k z : Nat} (h : tok1 L p = .error (k, z)) (hp : p.pos < L.length) : z ≤ L.length := by
  unfold tok1 at h
  simp only [at_drop] at h
  split at h
  · split at h
    · rename_i y hy
      have := txt_err _ _ _ _ _ hy
      rw [List.length_drop, List.length_drop] at this
      cases h; omega
    · cases h
  split at h
  · cases h
  split at h
  · cases h
  · cases h

theorem toksF_lv (L : List UInt8) : ∀ (f i : Nat) (p : Sp), SpOk L p 1 → Lv L.length p → (i = p.top ∨ lastK p.toks = 6) →
    (∀ q, toksF L f i p = .ok q → Lv L.length q ∧ (q.toks = p.toks ∨ p.toks.length < q.toks.length)) ∧ (∀ k z, toksF L f i p = .error (k, z) → z ≤ L.length) := by
  intro f
  induction f with
  | zero => intro i p hk _ _; exact ⟨fun q h => (by cases h), fun k z h => by cases h; exact hk.pos⟩
  | succ f ih =>
    intro i p hk hs hi
    unfold toksF
    split
    · exact ⟨fun q h => by cases h; exact ⟨hs, .inl rfl⟩, fun k z h => by cases h⟩
    rename_i he
    have hp : p.pos < L.length := by
      have := hk.pos
      rcases Nat.lt_or_ge p.pos L.length with h1 | h1
      · exact h1
      · exfalso; apply he; unfold endL
        rw [show decide (p.pos = L.length) = true from by simp; omega]; rfl
    split
    · exact ⟨fun q h => (by cases h), fun k z h => by cases h; exact hk.pos⟩
    rename_i hr
    have hr0 : refu L p i = 0 := by
      rcases Nat.eq_zero_or_pos (refu L p i) with e | e
      · exact e
      · exact absurd (by omega) hr
    obtain ⟨r1, r2, r3, r4, r5⟩ := refu_zero hr0
    obtain ⟨c1, c2, c3, c4, c5⟩ := come_ok hk.ins i
    obtain ⟨v1, v2⟩ := come_lv hs hk.ins hk.i31 hk.pos i r5 hi
    have hi31 : (p.come i).ins.length ≤ 31 := by
      by_cases htp : p.top < i
      · rw [if_pos htp] at c4; have := r5 htp; omega
      · rw [if_neg htp] at c4; have := hk.i31; omega
    split
    · rename_i x hx
      refine ⟨fun q h => (by cases h), fun k z h => ?_⟩
      cases h
      exact tok1_err hx (by rw [c1]; exact hp)
    rename_i t ht
    obtain ⟨a, b⟩ := turn_ok hk hp hr0 ht
    obtain ⟨t1, t2, t3, t4, t5⟩ := tok1_ok ht (by rw [c1]; exact hp) (by rw [c1]; exact r1) (by rw [c1, c2]; intro ho; have := r4 ho; have := hk.o30; omega) (by rw [c2]; exact hk.o30)
    obtain ⟨g1, g2, g3⟩ := tok1_lv ht v1 hi31 (List.length_pos_iff.2 c3.ne) (by rw [c1]; exact hp) t1
    have g4 : Lv L.length (t.skip L) := ⟨g1.all, g1.deep, Nat.le_trans g1.last (skip_ok (L := L) t2).1, g1.ps⟩
    obtain ⟨h1, h2⟩ := ih (t.skip L).top (t.skip L) a g4 (.inl rfl)
    refine ⟨fun q hq => ?_, h2⟩
    obtain ⟨x, y⟩ := h1 q hq
    refine ⟨x, .inr ?_⟩
    rcases y with y | y
    · rw [y]; show _ < t.toks.length; omega
    · have : t.toks.length < q.toks.length := y; omega
theorem lineF_lv {L : List UInt8} {p : Sp} (hk : SpOk L p 1) (hs : Lv L.length p) (hl : lastK p.toks = 6) :
    (∀ q, lineF L p = .ok q → Lv L.length q ∧ lastK q.toks = 6) ∧ (∀ k z, lineF L p = .error (k, z) → z ≤ L.length) := by
  have hsk := skip_ok (L := L) hk.pos
  have hk1 : SpOk L (p.skip L) 1 := ⟨hsk.2, hk.ins.of rfl, hk.i31, hk.o30, by show p.toks.length + p.ins.length ≤ 4 * (p.skip L).pos + 1; have := hk.cnt; omega⟩
  have hs1 : Lv L.length (p.skip L) := ⟨hs.all, hs.deep, Nat.le_trans hs.last hsk.1, hs.ps⟩
  obtain ⟨A, B⟩ := toksF_lv L (L.length + 1) (skp p.opn L.length (L.drop p.pos)) (p.skip L) hk1 hs1 (.inr hl)
  unfold lineF
  split
  · rename_i x hx
    refine ⟨fun q h => (by cases h), fun k z h => ?_⟩
    cases h; exact B _ _ hx
  rename_i r hr
  obtain ⟨a1, a2⟩ := A r hr
  have b := (toksF_ok L _ _ _ _ hk1 hr).1
  split
  · exact ⟨fun q h => (by cases h), fun k z h => by cases h; exact b.pos⟩
  split
  · refine ⟨fun q h => ?_, fun k z h => by cases h⟩
    cases h
    have hd := a1.deep
    have h31 := b.i31
    have hne := List.length_pos_iff.2 b.ins.ne
    have hl0 : lvl ⟨6, [], 0, r.pos⟩ = 0 := rfl
    refine ⟨a1.snoc ⟨6, [], 0, r.pos⟩ rfl ⟨a1.last, b.pos, ?_, ?_, fun hk => ?_⟩ ?_ (Nat.le_refl _) a1.ps, by show lastK (r.toks ++ [_]) = 6; rw [lastK_snoc]⟩
    · rw [hl0]; omega
    · rw [hl0]; omega
    · exfalso; simp only at hk; omega
    · rw [hl0]; show dep r.toks + 0 + 1 = _; show _ = (r.ins.length : Int); omega
  · rename_i hn
    refine ⟨fun q h => ?_, fun k z h => by cases h⟩
    cases h
    rcases a2 with e | e
    · exact ⟨a1, by rw [e]; exact hl⟩
    · exact absurd e hn
theorem linesF_lv (L : List UInt8) : ∀ (f : Nat) (p : Sp), SpOk L p 1 → Lv L.length p → lastK p.toks = 6 →
    (∀ q, linesF L f p = .ok q → Lv L.length q ∧ dep q.toks = 0) ∧ (∀ k z, linesF L f p = .error (k, z) → z ≤ L.length) := by
  have fin : ∀ p : Sp, InOk p → p.ins.length ≤ 31 → p.pos ≤ L.length → Lv L.length p → lastK p.toks = 6 → Lv L.length (p.come 0) ∧ dep (p.come 0).toks = 0 := by
    intro p h1 h2 h3 h4 h5
    have a := (come_lv h4 h1 h2 h3 0 (fun h => by omega) (.inr h5)).1
    refine ⟨a, ?_⟩
    have hd := a.deep
    have : (p.come 0).ins.length = 1 := come_zero h4.ps
    omega
  intro f
  induction f with
  | zero => intro p hk _ _; exact ⟨fun q h => (by cases h), fun k z h => by cases h; exact hk.pos⟩
  | succ f ih =>
    intro p hk hs hl
    obtain ⟨A, B⟩ := lineF_lv hk hs hl
    unfold linesF
    split
    · refine ⟨fun q h => ?_, fun k z h => by cases h⟩
      cases h; exact fin p hk.ins hk.i31 hk.pos hs hl
    split
    · rename_i x hx
      refine ⟨fun q h => (by cases h), fun k z h => ?_⟩
      cases h; exact B _ _ hx
    rename_i r hr
    obtain ⟨a1, a2⟩ := A r hr
    obtain ⟨b, c⟩ := lineF_ok hk hr
    split
    · refine ⟨fun q h => ?_, fun k z h => by cases h⟩
      cases h; exact fin r b.ins b.i31 b.pos a1 a2
    · rename_i hne
      have := b.pos
      exact ih { r with pos := r.pos + 1 } ⟨by show r.pos + 1 ≤ _; omega, b.ins.of rfl, b.i31, b.o30, by show r.toks.length + r.ins.length ≤ 4 * (r.pos + 1) + 1; have := b.cnt; omega⟩ ⟨a1.all, a1.deep, by have := a1.last; show lastP r.toks ≤ r.pos + 1; omega, a1.ps⟩ a2
theorem splitL_lv (L : List UInt8) : (∀ l, splitL L = .ok l → AllNxt L.length l ∧ dep l = 0) ∧ (∀ k z, splitL L = .error (k, z) → z ≤ L.length) := by
  obtain ⟨A, B⟩ := linesF_lv L (L.length + 1) ⟨0, [], [0], 0⟩ ⟨Nat.zero_le _, ⟨by simp, rfl⟩, by decide, by decide, by decide⟩ ⟨fun i h => (by cases h), by rfl, Nat.zero_le _, ⟨[], rfl, fun y h => by cases h⟩⟩ rfl
  unfold splitL
  split
  · rename_i x hx
    refine ⟨fun q h => (by cases h), fun k z h => ?_⟩
    cases h; exact B _ _ hx
  · rename_i q hq
    obtain ⟨a, b⟩ := A q hq
    refine ⟨fun l h => ?_, fun k z h => by cases h⟩
    cases h; exact ⟨a.all, b⟩
end Go.Proofs.YtcaeeackccgclaaGreatDoor.Lw

/- What the splitter hands to the parser: few tokens, levels that are right; its faults are faults. Parse is told, whatever the source. -/
namespace Go.Proofs.YtcaeeackccgclaaGreatDoor
open Go.RowKit Go.Shelf

theorem tok1_bad {L : List UInt8} {p : Sp} {k z : Nat} (h : tok1 L p = .error (k, z)) : k ≠ 0 := by
  unfold tok1 at h
  simp only at h
  split at h
  · split at h
    · cases h; decide
    · cases h
  split at h
  · cases h
  split at h
  · cases h
  · cases h
theorem toksF_bad (L : List UInt8) : ∀ (f i : Nat) (p : Sp) (k z : Nat), SpOk L p 1 → L.length < f + p.pos → toksF L f i p = .error (k, z) → k ≠ 0 := by
  intro f
  induction f with
  | zero => intro i p k z hk hf _; have := hk.pos; omega
  | succ f ih =>
    intro i p k z hk hf h
    unfold toksF at h
    split at h
    · cases h
    rename_i he
    split at h
    · rename_i hr
      cases h
      exact hr
    rename_i hr
    have hr0 : refu L p i = 0 := by
      by_cases hz : refu L p i = 0
      · exact hz
      · exact absurd hz hr
    have hp : p.pos < L.length := by
      unfold endL at he
      simp only [Bool.or_eq_true, decide_eq_true_eq, not_or] at he
      have := hk.pos
      omega
    split at h
    · rename_i x hx
      cases h
      exact tok1_bad hx
    rename_i t ht
    obtain ⟨a, b⟩ := turn_ok hk hp hr0 ht
    exact ih _ _ _ _ a (by omega) h
theorem lineF_bad {L : List UInt8} {p : Sp} {k z : Nat} (hk : SpOk L p 1) (h : lineF L p = .error (k, z)) : k ≠ 0 := by
  have hsk := skip_ok (L := L) hk.pos
  have hk1 : SpOk L (p.skip L) 1 := ⟨hsk.2, hk.ins.of rfl, hk.i31, hk.o30, by show p.toks.length + p.ins.length ≤ 4 * (p.skip L).pos + 1; have := hk.cnt; omega⟩
  unfold lineF at h
  split at h
  · rename_i x hx
    cases h
    exact toksF_bad L _ _ _ _ _ hk1 (by omega) hx
  split at h
  · cases h; decide
  split at h
  · cases h
  · cases h
theorem linesF_bad (L : List UInt8) : ∀ (f : Nat) (p : Sp) (k z : Nat), SpOk L p 1 → L.length < f + p.pos → linesF L f p = .error (k, z) → k ≠ 0 := by
  intro f
  induction f with
  | zero => intro p k z hk hf _; have := hk.pos; omega
  | succ f ih =>
    intro p k z hk hf h
    unfold linesF at h
    split at h
    · cases h
    split at h
    · rename_i x hx
      cases h
      exact lineF_bad hk hx
    rename_i r hr
    obtain ⟨b, c⟩ := lineF_ok hk hr
    split at h
    · cases h
    · rename_i hne
      have := b.pos
      exact ih { r with pos := r.pos + 1 } k z ⟨by show r.pos + 1 ≤ _; omega, b.ins.of rfl, b.i31, b.o30, by show r.toks.length + r.ins.length ≤ 4 * (r.pos + 1) + 1; have := b.cnt; omega⟩ (by show L.length < f + (r.pos + 1); omega) h
theorem splitL_bad {L : List UInt8} {k z : Nat} (h : splitL L = .error (k, z)) : k ≠ 0 := by
  unfold splitL at h
  split at h
  · rename_i x hx
    cases h
    exact linesF_bad L _ _ _ _ ⟨Nat.zero_le _, ⟨by simp, rfl⟩, by decide, by decide, by decide⟩ (by show L.length < L.length + 1 + 0; omega) hx
  · cases h
theorem linesF_few (L : List UInt8) : ∀ (f : Nat) (p q : Sp), SpOk L p 1 → linesF L f p = .ok q → q.toks.length ≤ 4 * L.length + 4 := by
  intro f
  induction f with
  | zero => intro p q _ h; cases h
  | succ f ih =>
    intro p q hk h
    have hend : ∀ r : Sp, SpOk L r 2 → (r.come 0).toks.length ≤ 4 * L.length + 4 := fun r hr => by
      obtain ⟨_, _, _, _, c5⟩ := come_ok hr.ins 0
      have h1 := hr.cnt
      have h2 := hr.pos
      omega
    unfold linesF at h
    split at h
    · cases h
      exact hend p ⟨hk.pos, hk.ins, hk.i31, hk.o30, Nat.le_succ_of_le hk.cnt⟩
    split at h
    · cases h
    rename_i r hr
    obtain ⟨b, c⟩ := lineF_ok hk hr
    split at h
    · cases h
      exact hend r b
    · rename_i hne
      have := b.pos
      exact ih { r with pos := r.pos + 1 } q ⟨by show r.pos + 1 ≤ _; omega, b.ins.of rfl, b.i31, b.o30, by show r.toks.length + r.ins.length ≤ 4 * (r.pos + 1) + 1; have := b.cnt; omega⟩ h
theorem splitL_few {L : List UInt8} {l : List Tk} (h : splitL L = .ok l) : l.length ≤ 4 * L.length + 4 := by
  unfold splitL at h
  split at h
  · cases h
  rename_i q hq
  cases h
  exact linesF_few L _ _ _ ⟨Nat.zero_le _, ⟨by simp, rfl⟩, by decide, by decide, by decide⟩ hq
theorem lvT_of {n : Nat} (l : List Tk) (h : Lw.AllNxt n l) : ∀ (r u : List Tk) (d : Nat), l = u ++ r → Lw.dep u = (d : Int) → lvT d r
  | [], _, _, _, _ => trivial
  | t :: r, u, d, e, hd => by
    have hl : u.length < l.length := by rw [e]; simp
    have hx := h u.length hl
    have e1 : l.take u.length = u := by rw [e]; simp
    have e2 : l[u.length] = t := by simp [e]
    rw [e1, e2] at hx
    have h0 := hx.d0
    have h30 := hx.d30
    have hs := Lw.dep_snoc u t
    rw [hd] at h0 h30 hs
    unfold Lw.lvl at h0 h30 hs
    unfold lvT
    by_cases h7 : t.kind = 7
    · rw [if_pos h7] at h0 h30 hs
      rw [if_pos h7]
      exact ⟨by omega, lvT_of l h r (u ++ [t]) (d + 1) (by rw [e]; simp) (by rw [hs]; omega)⟩
    · rw [if_neg h7] at h0 h30 hs
      rw [if_neg h7]
      by_cases h8 : t.kind = 8
      · rw [if_pos h8] at h0 h30 hs
        rw [if_pos h8]
        exact ⟨by omega, lvT_of l h r (u ++ [t]) (d - 1) (by rw [e]; simp) (by rw [hs]; omega)⟩
      · rw [if_neg h8] at h0 h30 hs
        rw [if_neg h8]
        exact lvT_of l h r (u ++ [t]) d (by rw [e]; simp) (by rw [hs]; omega)
theorem split_si {L : List UInt8} {l : List Tk} (h : splitA L = .ok l) : SI ⟨l, L.length, 0, false, 0⟩ := by
  unfold splitA at h
  by_cases hL : L.length ≤ 6000
  · rw [if_pos hL] at h
    have hf := splitL_few h
    exact ⟨rfl, by show l.length ≤ 50000; omega, lvT_of l ((Lw.splitL_lv L).1 l h).1 l [] 0 rfl rfl, Nat.zero_le _⟩
  · rw [if_neg hL] at h
    cases h
theorem splitA_bad {L : List UInt8} {k z : Nat} (h : splitA L = .error (k, z)) : k ≠ 0 := by
  unfold splitA at h
  by_cases hL : L.length ≤ 6000
  · rw [if_pos hL] at h; exact splitL_bad h
  · rw [if_neg hL] at h; cases h; decide
/-- What Parse comes to. -/
def parT (L : List UInt8) : Except Ft (List Sm) := match splitA L with
  | .error x => .error x
  | .ok toks => match srcF (exF 40) ⟨toks, L.length, 0, false, 0⟩ with
    | none => .error (0, 0)
    | some (.error x) => .error x
    | some (.ok (l, _)) => .ok l
theorem parR_told (L : List UInt8) : parR L = some (parT L) := by
  unfold parR parT
  match hs : splitA L with
  | .error (k, z) =>
    have hk := splitA_bad hs
    show (bif k == 0 then none else some (Except.error (k, z))) = some (Except.error (k, z))
    rw [show (k == 0) = false by simpa using hk]
    rfl
  | .ok toks =>
    obtain ⟨z, e, _⟩ := srcF_ts (split_si hs)
    simp only [e]
    match z with
    | .error x => rfl
    | .ok (l, q) => rfl
theorem Parse_told (L : List UInt8) (w : World) (hr : ErrR w) : Calls Tryz.prog 8 #[.string (mkB L)] w (ParP w (parT L)) := Parse_any L w hr (parR_told L)
end Go.Proofs.YtcaeeackccgclaaGreatDoor

/- The parser's faults are faults, plain. -/
namespace Go.Proofs.YtcaeeackccgclaaGreatDoor

/-- Where it is a fault, it is one. -/
def Ne {α : Type} (m : Px α) : Prop := ∀ x, m = some (.error x) → x.1 ≠ 0
section
variable {α β σ : Type}
theorem ne_bnd {m : Px α} {f : α → Ps → Px β} (h : Ne m) (g : ∀ a q, Ne (f a q)) : Ne (bnd m f) := fun x e => by
  rcases bnd_some e with ⟨y, h1, hx⟩ | ⟨a, q, _, h2⟩
  · cases hx
    exact h _ h1
  · exact g a q x h2
theorem ne_ok (a : α) (p : Ps) : Ne (ok a p) := fun x e => by cases e
theorem ne_gu (p : Ps) {k : Nat} (h : k ≠ 0) : Ne (gu p k : Px α) := fun x e => by cases e; exact h
theorem ne_bif {b : Bool} {m m' : Px α} (h : Ne m) (h' : Ne m') : Ne (bif b then m else m') := by cases b <;> assumption
theorem ne_iff {b : Bool} {m : Px α} (h : Ne m) : Ne (iff b m) := fun x e => h x (iff_some e).2
theorem ne_none : Ne (none : Px α) := fun x e => by cases e
theorem ne_guIf (b : Bool) {k : Nat} (p : Ps) (h : k ≠ 0) : Ne (guIf b k p) := ne_bif (ne_gu p h) (ne_ok _ _)
theorem ne_tkS (x : List UInt8) (p : Ps) : Ne (tkS x p) := ne_bif (ne_ok _ _) (ne_gu p (by decide))
theorem ne_tkK (k : Nat) (p : Ps) : Ne (tkK k p) := ne_bif (ne_ok _ _) (ne_gu p (by decide))
theorem ne_tkN (l : List (List UInt8)) (p : Ps) : Ne (tkN l p) := ne_bif (ne_gu p (by decide)) (ne_bnd (ne_tkK 1 p) fun _ _ => ne_ok _ _)
theorem ne_rfD (l : List (List UInt8)) (p : Ps) : Ne (rfD l p) := ne_guIf _ p (by decide)
theorem ne_inner {m : Ps → Px Ex} (h : ∀ p, Ne (m p)) (p : Ps) : Ne (inner m p) := ne_iff (ne_bnd (h _) fun _ _ => ne_iff (ne_ok _ _))
theorem ne_lsL {c : List UInt8} {each : σ → Ps → Px σ} (h : ∀ s p, Ne (each s p)) : ∀ (f : Nat) (b : Bool) (s : σ) (p : Ps), Ne (lsL c each f b s p)
  | 0, _, _, _ => ne_none
  | f + 1, _, _, _ => ne_bif (ne_ok _ _) (ne_bnd (ne_bif (ne_ok _ _) (ne_tkS _ _)) fun _ _ => ne_bnd (h _ _) fun _ _ => ne_iff (ne_lsL h f _ _ _))
theorem ne_jnL {part : Ps → Px Ex} {l : List (List UInt8)} (h : ∀ p, Ne (part p)) : ∀ (f : Nat) (e : Ex) (p : Ps), Ne (jnL part l f e p)
  | 0, _, _ => ne_none
  | f + 1, _, _ => ne_bif (ne_bnd (h _) fun _ _ => ne_iff (ne_jnL h f _ _)) (ne_ok _ _)
theorem ne_jn {part : Ps → Px Ex} {l : List (List UInt8)} (h : ∀ p, Ne (part p)) (p : Ps) : Ne (jn part l p) := ne_bnd (h p) fun _ _ => ne_jnL h _ _ _
end
section
variable {E : Ps → Px Ex}
theorem ne_kdE (hE : ∀ p, Ne (E p)) (s : Ex) (p : Ps) : Ne (kdE E s p) := ne_bnd (hE p) fun _ _ => ne_ok _ _
theorem ne_caE (hE : ∀ p, Ne (E p)) (s : Ex) (p : Ps) : Ne (caE E s p) := ne_iff (ne_bif (ne_bnd (ne_tkN _ _) fun _ _ => ne_bnd (ne_tkS _ _) fun _ _ => ne_kdE hE _ _) (ne_bnd (ne_guIf _ p (by decide)) fun _ _ => ne_kdE hE _ _))
theorem ne_eaR (s : Ex) (p : Ps) : Ne (eaR s p) := ne_bnd (ne_guIf _ p (by decide)) fun _ _ => ne_ok _ _
theorem ne_eaF (hE : ∀ p, Ne (E p)) (s : Ex) (p : Ps) : Ne (eaF E s p) := ne_bif (ne_bnd (ne_kdE hE _ _) fun _ _ => ne_eaR _ _) (ne_eaR _ _)
theorem ne_eaE (hE : ∀ p, Ne (E p)) (s : Ex) (p : Ps) : Ne (eaE E s p) := ne_bnd (ne_tkK 1 p) fun _ _ => ne_bnd (ne_tkS _ _) fun _ _ => ne_bnd (ne_kdE hE _ _) fun _ _ => ne_eaF hE _ _
theorem ne_liE (hE : ∀ p, Ne (E p)) (s : Ex) (p : Ps) : Ne (liE E s p) := ne_iff (ne_bnd (ne_kdE hE _ _) fun _ _ => ne_bif (ne_eaE hE _ _) (ne_ok _ _))
theorem ne_diE (hE : ∀ p, Ne (E p)) (s : Ex) (p : Ps) : Ne (diE E s p) := ne_iff (ne_bnd (ne_kdE hE _ _) fun _ _ => ne_bnd (ne_tkS _ _) fun _ _ => ne_kdE hE _ _)
theorem ne_sgA (hE : ∀ p, Ne (E p)) (p : Ps) : Ne (sgA E p) := ne_bif (ne_ok _ _) (ne_bif (ne_ok _ _) (ne_bif (ne_ok _ _) (ne_bif (ne_lsL (ne_liE hE) _ _ _ _) (ne_bif (ne_lsL (ne_diE hE) _ _ _ _) (ne_bnd (ne_tkS _ _) fun _ _ => ne_bnd (hE _) fun _ _ => ne_bnd (ne_tkS _ _) fun _ _ => ne_ok _ _)))))
theorem ne_atm (hE : ∀ p, Ne (E p)) (p : Ps) : Ne (atm E p) := ne_bif (ne_ok _ _) (ne_bif (ne_ok _ _) (ne_bif (ne_ok _ _) (ne_sgA hE p)))
theorem ne_psL (hE : ∀ p, Ne (E p)) : ∀ (f : Nat) (e : Ex) (p : Ps), Ne (psL E f e p)
  | 0, _, _ => ne_none
  | f + 1, _, _ => ne_bif (ne_bnd (ne_lsL (ne_caE hE) _ _ _ _) fun _ _ => ne_iff (ne_psL hE f _ _)) (ne_bif (ne_bnd (hE _) fun _ _ => ne_bnd (ne_tkS _ _) fun _ _ => ne_iff (ne_psL hE f _ _)) (ne_ok _ _))
theorem ne_pst (hE : ∀ p, Ne (E p)) (p : Ps) : Ne (pst E p) := ne_bnd (ne_atm hE p) fun _ _ => ne_psL hE _ _ _
theorem ne_unL (hE : ∀ p, Ne (E p)) : ∀ (f : Nat) (p : Ps), Ne (unL E f p)
  | 0, _ => ne_none
  | f + 1, p => ne_bif (ne_bnd (ne_rfD _ _) fun _ q => ne_bnd (ne_inner (ne_unL hE f) q) fun _ _ => ne_ok _ _) (ne_pst hE p)
theorem ne_sum (hE : ∀ p, Ne (E p)) (p : Ps) : Ne (sum E p) := ne_jn (fun p => ne_jn (fun p => ne_unL hE _ p) p) p
theorem ne_cmp (hE : ∀ p, Ne (E p)) (p : Ps) : Ne (cmp E p) := ne_bnd (ne_sum hE p) fun _ _ => ne_bif (ne_bnd (ne_sum hE _) fun _ _ => ne_ok _ _) (ne_ok _ _)
theorem ne_ngL (hE : ∀ p, Ne (E p)) : ∀ (f : Nat) (p : Ps), Ne (ngL E f p)
  | 0, _ => ne_none
  | f + 1, p => ne_bif (ne_bnd (ne_rfD _ _) fun _ q => ne_bnd (ne_inner (ne_ngL hE f) q) fun _ _ => ne_ok _ _) (ne_cmp hE p)
theorem ne_orE (hE : ∀ p, Ne (E p)) (p : Ps) : Ne (orE E p) := ne_jn (fun p => ne_jn (fun p => ne_ngL hE _ p) p) p
theorem ne_givS (hE : ∀ p, Ne (E p)) (p : Ps) : Ne (givS E p) := ne_bnd (ne_guIf _ p (by decide)) fun _ _ => ne_bnd (ne_tkS _ _) fun _ _ => ne_bif (ne_ok _ _) (ne_bnd (hE _) fun _ _ => ne_ok _ _)
theorem ne_setS (hE : ∀ p, Ne (E p)) (p : Ps) : Ne (setS E p) := ne_bnd (ne_tkK _ _) fun _ _ => ne_bnd (ne_tkS _ _) fun _ _ => ne_bnd (hE _) fun _ _ => ne_ok _ _
theorem ne_ldL : ∀ (f : Nat) (l : List (List UInt8)) (p : Ps), Ne (ldL f l p)
  | 0, _, _ => ne_none
  | f + 1, _, _ => ne_bif (ne_ok _ _) (ne_iff (ne_bnd (ne_tkS _ _) fun _ q => ne_bnd (ne_guIf _ q (by decide)) fun _ _ => ne_bnd (ne_tkK _ _) fun _ _ => ne_iff (ne_ldL f _ _)))
theorem ne_loadS (p : Ps) : Ne (loadS p) := ne_bnd (ne_guIf _ p (by decide)) fun _ _ => ne_bnd (ne_tkS _ _) fun _ _ => ne_bnd (ne_tkS _ _) fun _ _ => ne_bnd (ne_tkK _ _) fun _ _ => ne_bnd (ne_ldL _ _ _) fun _ _ => ne_bnd (ne_tkS _ _) fun _ _ => ne_ok _ _
theorem ne_smlF (hE : ∀ p, Ne (E p)) (p : Ps) : Ne (smlF E p) := ne_bif (ne_ok _ _) (ne_bif (ne_givS hE p) (ne_bif (ne_loadS p) (ne_bif (ne_setS hE p) (ne_bnd (hE p) fun _ _ => ne_ok _ _))))
end
theorem ne_exF : ∀ (n : Nat) (p : Ps), Ne (exF n p)
  | 0, _ => ne_none
  | n + 1, p => ne_bnd (ne_rfD _ p) fun _ q => ne_inner (ne_orE (ne_exF n)) q
theorem ne_blL {St : Ps → Px Sm} (h : ∀ p, Ne (St p)) : ∀ (f : Nat) (l : List Sm) (p : Ps), Ne (blL St f l p)
  | 0, _, _ => ne_none
  | f + 1, _, p => ne_bif (ne_ok _ _) (ne_iff (ne_bnd (h p) fun _ _ => ne_iff (ne_blL h f _ _)))
theorem ne_blF {St : Ps → Px Sm} (h : ∀ p, Ne (St p)) (p : Ps) : Ne (blF St p) := ne_bnd (ne_tkS _ _) fun _ _ => ne_bnd (ne_tkK _ _) fun _ _ => ne_bnd (ne_tkK _ _) fun _ _ => ne_iff (ne_bnd (ne_blL h _ _ _) fun _ _ => ne_iff (ne_bnd (ne_tkK _ _) fun _ _ => ne_ok _ _))
theorem ne_stmF {E : Ps → Px Ex} {B : Ps → Px (List Sm)} (hE : ∀ p, Ne (E p)) (hB : ∀ p, Ne (B p)) (p : Ps) : Ne (stmF E B p) :=
  ne_bif (ne_bnd (ne_tkS _ _) fun _ _ => ne_bnd (hE _) fun _ _ => ne_bnd (hB _) fun _ _ => ne_bif (ne_bnd (hB _) fun _ _ => ne_ok _ _) (ne_ok _ _))
    (ne_bif (ne_bnd (ne_tkS _ _) fun _ _ => ne_bnd (ne_tkK _ _) fun _ _ => ne_bnd (ne_tkS _ _) fun _ _ => ne_bnd (hE _) fun _ _ => ne_bnd (hB _) fun _ _ => ne_ok _ _)
      (ne_bif (ne_bnd (ne_guIf _ p (by decide)) fun _ _ => ne_bnd (ne_tkS _ _) fun _ _ => ne_bnd (ne_tkK _ _) fun _ _ => ne_bnd (ne_tkS _ _) fun _ _ => ne_bnd (ne_lsL (fun l p => ne_iff (ne_bnd (ne_tkN l p) fun _ _ => ne_ok _ _)) _ _ _ _) fun _ _ => ne_bnd (hB _) fun _ _ => ne_ok _ _)
        (ne_bnd (ne_smlF hE p) fun _ _ => ne_bnd (ne_tkK _ _) fun _ _ => ne_ok _ _)))
theorem ne_stD {E : Ps → Px Ex} (hE : ∀ p, Ne (E p)) : ∀ (n : Nat) (p : Ps), Ne (stD E n p)
  | 0, _ => ne_none
  | n + 1, p => ne_stmF hE (ne_blF (ne_stD hE n)) p
theorem ne_srcL {St : Ps → Px Sm} (h : ∀ p, Ne (St p)) : ∀ (f : Nat) (l : List Sm) (p : Ps), Ne (srcL St f l p)
  | 0, _, _ => ne_none
  | f + 1, _, p => ne_bif (ne_ok _ _) (ne_iff (ne_bnd (h p) fun _ _ => ne_iff (ne_srcL h f _ _)))
theorem parT_bad {L : List UInt8} {k z : Nat} (h : parT L = .error (k, z)) : k ≠ 0 := by
  unfold parT at h
  split at h
  · rename_i x hx
    cases h
    exact splitA_bad hx
  rename_i toks hs
  obtain ⟨z2, e, _⟩ := srcF_ts (split_si hs)
  rw [e] at h
  match z2, h with
  | .error x, h =>
    cases h
    exact ne_srcL (ne_stD (ne_exF 40) 40) _ _ _ _ e
end Go.Proofs.YtcaeeackccgclaaGreatDoor

/- Statements, the one row behind the other; Parse in one form. -/
namespace Go.Proofs.YtcaeeackccgclaaGreatDoor
open Go.RowKit Go.Shelf

def appZ (ats : Array TypeId) (ty : TypeId) (args : Array Value) : Sem Value := Builtin.append_ ats ty args
theorem appZ_eq (ats : Array TypeId) (ty : TypeId) (args : Array Value) : Builtin.append_ ats ty args = appZ ats ty args := rfl
theorem fa_one {w : World} {S : Nat → Prop} : ∀ {l : List Sm} {vs : List (List Value)}, Fa (SmA w S) l vs → ∀ u ∈ vs.flatten, u.oneCell' = true
  | [], [], _ => by simp
  | a :: l, b :: m, f => fun u hu => by
    rw [List.flatten_cons] at hu
    rcases List.mem_append.1 hu with h | h
    · exact f.1.one u h
    · exact fa_one f.2 u h
theorem app_st {B B2 : Nat} {w : World} {v u : Value} {n m : Nat} {xs ys : List Value} (h1 : w.ownsRow B 40 10 v n xs) (h2 : w.ownsRow B2 40 10 u m ys) (ho : ∀ z ∈ ys, z.oneCell' = true) (hb : n + m ≤ 1000000) (hB : B ≤ w.heap.size) :
    ∃ v' w', (appZ #[28, 28] 28 #[v, u]).run Tryz.prog w = .ok v' w' ∧ w'.ownsRow B 40 10 v' (n + m) (xs ++ ys) ∧ Below B w w' := by
  obtain ⟨i0, hi, hz0, hz1, hz2⟩ := info_p infSt
  rcases h2.2 with ⟨rfl, rfl⟩ | ⟨g, cap, cur, rfl, _, _, _, _, _, _⟩
  · have hy : ys = [] := List.length_eq_zero_iff.1 (by have := h2.1; omega)
    subst hy
    exact ⟨v, w, run_append_owned_none (P := Tryz.prog) (w := w) B 28 28 40 i0 10 Tryz.underlying28 hi v n xs h1, by rw [Nat.add_zero, List.append_nil]; exact h1, Below.refl _ _⟩
  · obtain ⟨v', w', hr, hown, hg, _⟩ := run_append_own (P := Tryz.prog) w B 28 28 40 i0 _ 10 176 Tryz.underlying28 hi hz0 hz1 hz2 rfl (by decide) v n xs h1 ⟨g, 0, none⟩ m cap ys h2.1 (h2.cells rfl) ho (by unfold maxLen; omega) (by omega) hB
    exact ⟨v', w', hr, hown, (Below.refl _ _).grown hg hB fun k hk => (h1.lt k hk).1⟩
/-- Parse, in one form. -/
def ParU (w : World) (r : Except Ft (List Sm)) (e : Ending) (w' : World) : Prop := ∃ sa sn sc, ∃ kk zz : Int, e = .returned (.tuple #[.slice sa sn sc, .agg #[.int .i64 kk, .int .i64 zz]]) ∧ Hid (Below w.heap.size w w' ∧ ((∃ k z, r = .error (k, z) ∧ kk ≠ 0) ∨ ∃ l vs, r = .ok l ∧ kk = 0 ∧ RwS w.heap.size w' l (.slice sa sn sc) vs))
theorem Parse_u (s : ByteArray) (w : World) (hr : ErrR w) : Calls Tryz.prog 8 #[.string s] w (ParU w (parT s.data.toList)) := by
  have hs : mkB s.data.toList = s := (mk_self s).symm
  have h := Parse_told s.data.toList w hr
  rw [hs] at h
  refine h.mono ?_
  rintro e w' ⟨h1, h2, h3⟩
  match hp : parT s.data.toList with
  | .error (k, z) =>
    rw [hp] at h1
    refine ⟨none, 0, 0, k, z, h1 k z rfl, h3, .inl ⟨k, z, rfl, ?_⟩⟩
    have := parT_bad hp
    omega
  | .ok l =>
    rw [hp] at h2
    obtain ⟨v, vs, e1, hrw⟩ := h2 l rfl
    obtain ⟨a, c, rfl⟩ := row_shape hrw.row
    exact ⟨a, l.length, c, 0, 0, e1, h3, .inr ⟨l, vs, rfl, rfl, hrw⟩⟩
theorem srcL_len {St : Ps → Px Sm} : ∀ (f : Nat) (a : List Sm) (p : Ps) (m : List Sm) (q : Ps), srcL St f a p = some (.ok (m, q)) → m.length ≤ a.length + p.toks.length
  | 0, _, _, _, _, e => by cases e
  | f + 1, a, p, m, q, e => by
    unfold srcL at e
    cases hz : decide (p.toks.length = 0) with
    | true => rw [hz] at e; cases e; omega
    | false =>
      rw [hz] at e
      obtain ⟨_, e2⟩ := iff_some e
      rcases bnd_some e2 with ⟨x, _, hx⟩ | ⟨s, r, _, h2⟩
      · cases hx
      obtain ⟨hls, h3⟩ := iff_some h2
      have h4 := srcL_len f _ r m q h3
      unfold less at hls
      rw [decide_eq_true_eq] at hls
      rw [List.length_append, List.length_singleton] at h4
      omega
theorem parT_len {L : List UInt8} {l : List Sm} (h : parT L = .ok l) : l.length ≤ 50000 := by
  unfold parT at h
  split at h
  · cases h
  rename_i toks hs
  split at h
  · cases h
  · cases h
  rename_i l1 q hq
  cases h
  have h1 := srcL_len _ _ _ _ _ hq
  have h2 : toks.length ≤ 50000 := (split_si hs).few
  simp only [List.length_nil] at h1
  omega
theorem Fa.app {α β : Type} {R : α → β → Prop} : ∀ {l : List α} {m : List β} {l2 : List α} {m2 : List β}, Fa R l m → Fa R l2 m2 → Fa R (l ++ l2) (m ++ m2)
  | [], [], _, _, _, h => h
  | _ :: _, _ :: _, _, _, f, h => ⟨f.1, Fa.app f.2 h⟩
theorem RwS.at_slice {n : Nat} {w : World} {l : List Sm} {sa : Option Addr} {sn sc : Nat} {vs : List (List Value)} (h : RwS n w l (.slice sa sn sc) vs) : sn = l.length := by
  obtain ⟨a, c, e⟩ := row_shape h.row
  injection e
/-- Two rows of statements, the one behind the other in a new row. -/
theorem two_rows {B0 B1 : Nat} {W0 : World} {l m : List Sm} {va vb : Value} {vs us : List (List Value)} (h1 : RwS B0 W0 l va vs) (h2 : RwS B1 W0 m vb us) (hl : l.length ≤ 50000) (hm : m.length ≤ 50000) :
    ∃ v1 W1 v2 W2, (appZ #[28, 28] 28 #[.slice (some ⟨W0.heap.size, 0, none⟩) 0 0, va]).run Tryz.prog (W0.alloc (.cells #[] 40)) = .ok v1 W1 ∧
      (appZ #[28, 28] 28 #[v1, vb]).run Tryz.prog W1 = .ok v2 W2 ∧ Below W0.heap.size W0 W2 ∧ ∃ n, StW W2 n v2 (l ++ m) := by
  have hown0 : (W0.alloc (.cells #[] 40)).ownsRow W0.heap.size 40 10 (.slice (some ⟨W0.heap.size, 0, none⟩) 0 0) 0 [] :=
    ⟨rfl, .inr ⟨W0.heap.size, 0, #[], rfl, Nat.le_refl _, heap_alloc_new W0 _, Nat.le_refl _, by decide, rfl, rfl⟩⟩
  have hb0 : Below W0.heap.size W0 (W0.alloc (.cells #[] 40)) := alB W0 _
  have k1 := h1.keep (w' := W0.alloc (.cells #[] 40)) fun g _ hg => heap_al W0 _ g hg
  obtain ⟨v1, W1, r1, o1, b1⟩ := app_st hown0 k1.row (fa_one k1.fa) (by omega) hb0.size
  have hb1 : Below W0.heap.size W0 W1 := hb0.trans b1
  have k2 := h2.keep (w' := W1) fun g _ hg => hb1.block g hg
  obtain ⟨v2, W2, r2, o2, b2⟩ := app_st o1 k2.row (fa_one k2.fa) (by omega) hb1.size
  have hb2 : Below W0.heap.size W0 W2 := hb1.trans b2
  refine ⟨v1, W1, v2, W2, r1, r2, hb2, ?_⟩
  obtain ⟨n1, f1⟩ := fa_allS ((h1.keep (w' := W2) fun g _ hg => hb2.block g hg).fa.mono fun _ _ f => f.mono (Q := fun _ => True) fun _ _ _ => trivial)
  obtain ⟨n2, f2⟩ := fa_allS ((h2.keep (w' := W2) fun g _ hg => hb2.block g hg).fa.mono fun _ _ f => f.mono (Q := fun _ => True) fun _ _ _ => trivial)
  refine ⟨max n1 n2, vs ++ us, ?_, (f1.mono fun _ _ f => f.le _ (Nat.le_max_left _ _)).app (f2.mono fun _ _ f => f.le _ (Nat.le_max_right _ _))⟩
  have h3 := row_at o2
  rw [Nat.zero_add, List.nil_append] at h3
  rw [List.length_append, List.flatten_append]
  exact h3
end Go.Proofs.YtcaeeackccgclaaGreatDoor

/- Whether a byte stands in a text, as the laws ask it. -/
namespace Go.Proofs.YtcaeeackccgclaaGreatDoor
open Go.RowKit Go.Shelf

theorem ext1 (s : ByteArray) (k : Nat) (hk : k < s.data.toList.length) : (s.extract k (k + 1)).toList = [s.data.toList[k]] := by
  rw [Lib.toList_data, ByteArray.data_extract]
  apply List.ext_getElem
  · simp at hk ⊢
    omega
  · intro i h1 h2
    have : i = 0 := by simp at h2; omega
    subst this
    simp

set_option maxHeartbeats 4000000 in
set_option maxRecDepth 100000 in
theorem isin_any (c : UInt8) (b : Bool) (s : ByteArray) (w : World) (hs : s.size ≤ 1048576) (hb : b = s.data.toList.contains c) :
    Calls Tryz.prog 10 #[.string ⟨#[c]⟩, .string s] w fun e w' => e = .returned (.bool b) ∧ w' = w := by
  have hsi : (s.size : Int) ≤ 1048576 := by omega
  have HB : Hid (b = s.data.toList.contains c) := hb
  clear hb
  go_enter Tryz.func10, Tryz.ntmps10
  go_wp2
  go_loopw [5] (fun i wr => ∃ k : Nat, k ≤ s.size ∧ i = .int .i64 k ∧ wr = w ∧ Hid (∀ x ∈ s.data.toList.take k, x ≠ c)) (fun i _ => s.size - (intOf i).toNat)
  case atStart => exact ⟨0, Nat.zero_le _, rfl, rfl, by show ∀ x ∈ s.data.toList.take 0, _; simp⟩
  case round =>
    obtain ⟨k, hk, rfl, rfl, HK⟩ := hrel
    by_cases hlt : k < s.size
    · have hki : (k : Int) + 1 ≤ (s.size : Int) := by omega
      have hkl : k < s.data.toList.length := by simpa using hlt
      have he := ext1 s k hkl
      by_cases hc : s.data.toList[k] = c
      · have hr : ((s.extract k (k + 1)).toList == [c]) = true := by rw [he, hc]; simp
        have HT : Hid (b = true) := by rw [show Hid (b = true) = (b = true) from rfl, HB.out, ← hc]; simp
        clear he hc
        go_wp2
        go_ret
        exact ⟨by rw [HT.out]; rfl, rfl⟩
      · have hr : ((s.extract k (k + 1)).toList == [c]) = false := by rw [he]; simpa using hc
        have HN : Hid (∀ x ∈ s.data.toList.take (k + 1), x ≠ c) := by
          show ∀ x ∈ s.data.toList.take (k + 1), x ≠ c
          rw [List.take_succ_eq_append_getElem hkl]
          intro x hx
          rcases List.mem_append.1 hx with h | h
          · exact HK.out x h
          · rw [List.mem_singleton.1 h]; exact hc
        clear he hc
        go_wp2
        exact ⟨⟨k + 1, by omega, by go_num, trivial, HN⟩, by simp [intOf]; omega⟩
    · obtain rfl : k = s.size := by omega
      have hki : ¬ (s.size : Int) + 1 ≤ (s.size : Int) := by omega
      have hall : s.data.toList.contains c = false := by
        have := HK.out
        rw [List.take_of_length_le (by simp)] at this
        cases hc : s.data.toList.contains c with
        | false => rfl
        | true => exact absurd rfl (this c (by simpa using hc))
      have HA : Hid (b = false) := by rw [show Hid (b = false) = (b = false) from rfl, HB.out, hall]
      clear hall
      go_wp2
      go_ret
      exact ⟨by rw [HA.out]; rfl, rfl⟩
end Go.Proofs.YtcaeeackccgclaaGreatDoor
