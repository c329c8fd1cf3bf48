/- A store in memory: its map, its line, its numbers. -/
import Derived.Test.YtoceglbdnbnjpaaDoorRows
import Derived.WalkKit
import Derived.WalkSpells
import Derived.WalkLawsBesides
import Derived.Lib.Strings
import Derived.Lib.Builder
import Derived.StillTailTactics
import Derived.Shelf.Strconv.Clone
import Derived.StillTail
import Derived.OrdersIn
import Derived.TacticsIn
import Derived.Test.YtoceglbdnbnjpaaDoorChecked
import Derived.ProofKit
import Derived.Below
import Derived.Deep.RegionHeld3
import Derived.Deep.MidRow
import Derived.Test.YtoceglbdnbnjpaaDoorTq1
namespace Go.Proofs.YtoceglbdnbnjpaaDoor
open Go.RowKit Go.Shelf Go.Maps Go.WideMaps

theorem lawS : Keyed Tryd.prog 9 := string_keyed Tryd.underlying9
/-- How a pointer to a text that is kept reads: by its block. -/
def ptrE (v : Value) : Option (DataW Unit × List MemPlace) := match v with
  | .pointer (some ⟨b, 0, none⟩) => some (.lit (.int .i64 (b : Int)), [])
  | .pointer none => some (.lit (.int .i64 (-1)), [])
  | _ => none
theorem zeroP (w : World) : (zeroValue 70).run Tryd.prog w = .ok (.pointer none) w := by kernel_rfl
theorem ptrE_inv {v : Value} {d : DataW Unit} {ps : List MemPlace} (h : ptrE v = some (d, ps)) : (v = .pointer none ∧ d = .lit (.int .i64 (-1))) ∨ ∃ b : Nat, v = .pointer (some ⟨b, 0, none⟩) ∧ d = .lit (.int .i64 (b : Int)) := by
  unfold ptrE at h
  split at h
  · injection h with h; injection h with h1 h2; exact .inr ⟨_, rfl, h1.symm⟩
  · injection h with h; injection h with h1 h2; exact .inl ⟨rfl, h1.symm⟩
  · cases h
theorem lit_inj {a b : Int} (h : (DataW.lit (.int .i64 a) : DataW Unit) = .lit (.int .i64 b)) : a = b := by
  injection h with h
  injection h
theorem mapNe1 (M : Nat) (w : World) : (binOp BinOp.eql 58 (.map (some M)) (.map none)).run Tryd.prog w = .ok (.bool false) w := by kernel_rfl
theorem ownsMap_heap {H : Type} {w w' : World} {P : Program} {k : TypeId} {R : Value → Option (DataW H × List MemPlace)} {b n : Nat} {D : DataW H} (h : w.ownsMap P k R b n D) (hh : w'.heap[b]? = w.heap[b]?) : w'.ownsMap P k R b n D := by
  obtain ⟨es, clock, hb, rest⟩ := h
  exact ⟨es, clock, hh.trans hb, rest⟩
theorem own_heap {w w' : World} {base : Nat} {e : TypeId} {size : Nat} {v : Value} {n : Nat} {xs : List Value} (h : w.ownsRow base e size v n xs) (hh : ∀ g, v.ownBlock = some g → w'.heap[g]? = w.heap[g]?) : w'.ownsRow base e size v n xs := by
  refine ⟨h.1, ?_⟩
  rcases h.2 with hn | ⟨g, cap, cur, rfl, hb, hgg, rest⟩
  · exact .inl hn
  · exact .inr ⟨g, cap, cur, rfl, hb, (hh g rfl).trans hgg, rest⟩

abbrev kl (d : ByteArray) : Lit := .string d.data.toList
theorem kl_inj {a b : ByteArray} (h : kl a = kl b) : a = b := by
  injection h with h
  cases a; cases b
  rename_i x y
  have : x = y := Array.toList_inj.1 h
  rw [this]
/-- A map of the texts that are kept, by their digests. -/
def MapV (w : World) (M : Nat) (E : List Ent) : Prop := ∃ D : DataW Unit, w.ownsMap Tryd.prog 9 ptrE M E.length D ∧ (∀ d : ByteArray, Maps.has D (kl d) = true ↔ ∃ e ∈ E, e.dg = d) ∧ (∀ e ∈ E, D.atKey (kl e.dg) (.lit (.int .i64 (-1))) = .lit (.int .i64 (e.blk : Int))) ∧ Maps.size D = E.length
theorem MapV.keep {w w' : World} {M : Nat} {E : List Ent} (h : MapV w M E) (hh : w'.heap[M]? = w.heap[M]?) : MapV w' M E := by
  obtain ⟨D, h1, h2⟩ := h
  exact ⟨D, ownsMap_heap h1 hh, h2⟩
theorem MapV.lt {w : World} {M : Nat} {E : List Ent} (h : MapV w M E) : M < w.heap.size := by
  obtain ⟨D, h1, _⟩ := h
  exact h1.lt
theorem MapV.perm {w : World} {M : Nat} {E E' : List Ent} (h : MapV w M E) (hl : E'.length = E.length) (hm : ∀ e' ∈ E', ∃ e ∈ E, e.dg = e'.dg ∧ e.blk = e'.blk) (hm2 : ∀ e ∈ E, ∃ e' ∈ E', e'.dg = e.dg) : MapV w M E' := by
  obtain ⟨D, h1, h2, h3, h4⟩ := h
  refine ⟨D, by rw [hl]; exact h1, fun d => ?_, fun e' he' => ?_, by rw [hl]; exact h4⟩
  · rw [h2]
    constructor
    · rintro ⟨e, he, rfl⟩
      obtain ⟨e', he', q⟩ := hm2 e he
      exact ⟨e', he', q⟩
    · rintro ⟨e', he', rfl⟩
      obtain ⟨e, he, q, _⟩ := hm e' he'
      exact ⟨e, he, q⟩
  · obtain ⟨e, he, q1, q2⟩ := hm e' he'
    rw [← q1, ← q2]
    exact h3 e he
theorem MapV.look_yes {w : World} {M : Nat} {E : List Ent} (h : MapV w M E) {e : Ent} (he : e ∈ E) (hs : e.dg.size ≤ maxLen) : (Instr.lookup 58 (.map (some M)) (.string e.dg) true).run Tryd.prog w = .ok (.tuple #[kp e.blk, .bool true]) w := by
  obtain ⟨D, h1, h2, h3, h4⟩ := h
  obtain ⟨v, ps, hrun, hv⟩ := h1.look_ok lawS Tryd.underlying58 (zeroP w) (zd := .lit (.int .i64 (-1))) (zp := []) rfl (keyOf_string_mk Tryd.underlying9 hs)
  rw [show Maps.has D (.string e.dg.data.toList) = true from (h2 e.dg).2 ⟨e, he, rfl⟩] at hrun
  rw [show D.atKey (.string e.dg.data.toList) (.lit (.int .i64 (-1))) = _ from h3 e he] at hv
  rcases ptrE_inv hv with ⟨_, hd⟩ | ⟨b, rfl, hd⟩
  · have := lit_inj hd; omega
  · have := lit_inj hd
    have : b = e.blk := by omega
    subst this
    exact hrun
theorem MapV.look_no {w : World} {M : Nat} {E : List Ent} (h : MapV w M E) {d : ByteArray} (hd : ∀ e ∈ E, e.dg ≠ d) (hs : d.size ≤ maxLen) : (Instr.lookup 58 (.map (some M)) (.string d) true).run Tryd.prog w = .ok (.tuple #[.pointer none, .bool false]) w := by
  obtain ⟨D, h1, h2, h3, h4⟩ := h
  obtain ⟨v, ps, hrun, hv⟩ := h1.look_ok lawS Tryd.underlying58 (zeroP w) (zd := .lit (.int .i64 (-1))) (zp := []) rfl (keyOf_string_mk Tryd.underlying9 hs)
  have hh : Maps.has D (.string d.data.toList) = false := by
    cases hq : Maps.has D (.string d.data.toList) with
    | false => rfl
    | true =>
      obtain ⟨e, he, q⟩ := (h2 d).1 hq
      exact absurd q (hd e he)
  rw [hh] at hrun
  rw [atKey_of_not_has hh] at hv
  rcases ptrE_inv hv with ⟨rfl, _⟩ | ⟨b, rfl, hd⟩
  · exact hrun
  · have := lit_inj hd; omega
theorem MapV.put {w w' : World} {M : Nat} {E : List Ent} {D : DataW Unit} {e : Ent} (h0 : w.ownsMap Tryd.prog 9 ptrE M E.length D) (h2 : ∀ d : ByteArray, Maps.has D (kl d) = true ↔ ∃ e ∈ E, e.dg = d) (h3 : ∀ e ∈ E, D.atKey (kl e.dg) (.lit (.int .i64 (-1))) = .lit (.int .i64 (e.blk : Int))) (h4 : Maps.size D = E.length)
    (h : w'.ownsMap Tryd.prog 9 ptrE M (E.length + 1) (D.put (kl e.dg) (.lit (.int .i64 (e.blk : Int))))) (hn : ∀ y ∈ E, y.dg ≠ e.dg) : MapV w' M (E ++ [e]) := by
  have hk : WideAt.IsKeyLit (kl e.dg) := trivial
  have hhas : Maps.has D (kl e.dg) = false := by
    cases hq : Maps.has D (kl e.dg) with
    | false => rfl
    | true =>
      obtain ⟨y, hy, q⟩ := (h2 _).1 hq
      exact absurd q (hn y hy)
  refine ⟨_, by rw [List.length_append]; exact h, fun d => ?_, fun y hy => ?_, ?_⟩
  · by_cases hd : d = e.dg
    · subst hd
      rw [has_put_same h0.isMap hk]
      exact ⟨fun _ => ⟨e, by simp, rfl⟩, fun _ => rfl⟩
    · rw [has_put_other (fun q => hd (kl_inj q)), h2]
      constructor
      · rintro ⟨y, hy, q⟩; exact ⟨y, by simp [hy], q⟩
      · rintro ⟨y, hy, q⟩
        rcases List.mem_append.1 hy with hy | hy
        · exact ⟨y, hy, q⟩
        · rw [List.mem_singleton] at hy
          exact absurd (by rw [← q, hy]) hd
  · rcases List.mem_append.1 hy with hy | hy
    · rw [atKey_put_other (fun q => hn y hy (kl_inj q))]
      exact h3 y hy
    · rw [List.mem_singleton] at hy
      subst hy
      exact atKey_put_same h0.isMap hk _ _
  · rw [size_put (h0.tidy lawS), hhas, if_neg (by decide), h4, List.length_append]; rfl
theorem MapV.del {w w' : World} {M : Nat} {E1 E2 : List Ent} {D : DataW Unit} {e : Ent} (h0 : w.ownsMap Tryd.prog 9 ptrE M (E1 ++ e :: E2).length D) (h2 : ∀ d : ByteArray, Maps.has D (kl d) = true ↔ ∃ y ∈ E1 ++ e :: E2, y.dg = d) (h3 : ∀ y ∈ E1 ++ e :: E2, D.atKey (kl y.dg) (.lit (.int .i64 (-1))) = .lit (.int .i64 (y.blk : Int))) (h4 : Maps.size D = (E1 ++ e :: E2).length)
    (h : w'.ownsMap Tryd.prog 9 ptrE M (E1 ++ e :: E2).length (D.del (kl e.dg))) (hn : ∀ y ∈ E1 ++ E2, y.dg ≠ e.dg) : MapV w' M (E1 ++ E2) := by
  have hhas : Maps.has D (kl e.dg) = true := (h2 _).2 ⟨e, by simp, rfl⟩
  have hsz : Maps.size (D.del (kl e.dg)) = (E1 ++ E2).length := by
    have := size_del (k := kl e.dg) (h0.tidy lawS)
    rw [hhas, if_pos rfl, h4] at this
    simp at this ⊢
    omega
  have hmem : ∀ y ∈ E1 ++ E2, y ∈ E1 ++ e :: E2 := fun y hy => by
    rcases List.mem_append.1 hy with hy | hy
    · simp [hy]
    · simp [hy]
  refine ⟨_, ?_, fun d => ?_, fun y hy => ?_, hsz⟩
  · obtain ⟨es, clock, hb, F, hs, hD⟩ := h
    refine ⟨es, clock, hb, F, ?_, hD⟩
    rw [← hsz, hD]
    show es.size ≤ List.length _
    rw [length_read]
    exact Nat.le_refl _
  · by_cases hd : d = e.dg
    · subst hd
      rw [has_del_same]
      refine ⟨fun q => absurd q (by decide), ?_⟩
      rintro ⟨y, hy, q⟩
      exact absurd q (hn y hy)
    · rw [has_del_other (fun q => hd (kl_inj q)), h2]
      constructor
      · rintro ⟨y, hy, q⟩
        rcases List.mem_append.1 hy with hy | hy
        · exact ⟨y, by simp [hy], q⟩
        · rcases List.mem_cons.1 hy with rfl | hy
          · exact absurd q.symm hd
          · exact ⟨y, by simp [hy], q⟩
      · rintro ⟨y, hy, q⟩; exact ⟨y, hmem y hy, q⟩
  · rw [atKey_del_other (fun q => hn y hy (kl_inj q))]
    exact h3 y (hmem y hy)

/-- How many bytes are kept; and pinned. -/
def byE (E : List Ent) : Nat := (E.map fun e => e.tx.size).sum
def piE (E : List Ent) : Nat := (E.map fun e => if e.pins = 0 then 0 else e.tx.size).sum
/-- A store's numbers, its texts in the order in which they were used. -/
structure PlE (rm tn : Nat) (E : List Ent) : Prop where
  up : E.Pairwise fun a b => a.turn < b.turn
  dn : E.Pairwise fun a b => a.dg ≠ b.dg
  tl : ∀ e ∈ E, e.turn ≤ tn
  sz : ∀ e ∈ E, e.tx.size ≤ 100000
  dz : ∀ e ∈ E, e.dg.size = 64
  pi : ∀ e ∈ E, e.pins ≤ 1000000
  len : E.length ≤ tn
  rl : rm ≤ 9007199254740991
  fit : byE E ≤ rm
structure CI (B P M : Nat) (rm tn : Nat) (v : Value) (E : List Ent) (L : List Nat) (w : World) : Prop where
  ln : Ln B P ⟨rm, byE E, piE E, tn, M⟩ v E L w
  hp : Hp (tlt E) L L.length
  mp : MapV w M E
  lo : B ≤ P
  loM : B ≤ M
  loE : ∀ e ∈ E, B ≤ e.blk
  lse : ∀ e ∈ E, e.blk ∈ L ↔ e.pins = 0
  pl : PlE rm tn E
/-- A store's blocks. -/
def cids (P M : Nat) (v : Value) (E : List Ent) : List Nat := P :: M :: (v.ownBlock.toList ++ E.map Ent.blk)
/-- Of all blocks that were there these alone may have turned; all that is its own now was, or is new. -/
structure Upd (I I' : List Nat) (w w' : World) : Prop where
  os : w'.os = w.os
  tape : w'.tape = w.tape
  output : w'.output = w.output
  size : w.heap.size ≤ w'.heap.size
  block : ∀ g : Nat, g < w.heap.size → g ∉ I → w'.heap[g]? = w.heap[g]?
  new : ∀ g ∈ I', g ∈ I ∨ w.heap.size ≤ g
theorem Upd.refl (I : List Nat) (w : World) : Upd I I w w := ⟨rfl, rfl, rfl, Nat.le_refl _, fun _ _ _ => rfl, fun _ h => .inl h⟩
theorem Upd.trans {I J K : List Nat} {a b c : World} (h : Upd I J a b) (k : Upd J K b c) : Upd I K a c :=
  ⟨k.os.trans h.os, k.tape.trans h.tape, k.output.trans h.output, Nat.le_trans h.size k.size,
   fun g hg hn => (k.block g (Nat.lt_of_lt_of_le hg h.size) fun hj => by
      rcases h.new g hj with e | e
      · exact hn e
      · omega).trans (h.block g hg hn),
   fun g hg => by
      rcases k.new g hg with e | e
      · exact h.new g e
      · exact .inr (Nat.le_trans h.size e)⟩
theorem Upd.of_below {I : List Nat} {w w' : World} (h : Below w.heap.size w w') : Upd I I w w' := ⟨h.os, h.tape, h.output, h.size, fun g hg _ => h.block g hg, fun _ h => .inl h⟩
theorem Upd.below {I I' : List Nat} {w w' : World} {B : Nat} (h : Upd I I' w w') (hB : ∀ g ∈ I, B ≤ g) (hw : B ≤ w.heap.size) : Below B w w' :=
  ⟨h.os, h.tape, h.output, h.size, fun g hg => h.block g (by omega) fun hi => by have := hB g hi; omega⟩
theorem Upd.drewN {I I' : List Nat} {w w' : World} (h : Upd I I' w w') (n : Nat) : Upd I I' w (w'.drewN n) := ⟨h.os, h.tape, h.output, h.size, h.block, h.new⟩
/-- A store that can be met. -/
def CS (B P M : Nat) (rm tn : Nat) (E : List Ent) (I : List Nat) (w : World) : Prop := ∃ v L, CI B P M rm tn v E L w ∧ I = cids P M v E

section
variable {B P M rm tn : Nat} {v : Value} {E : List Ent} {L I : List Nat} {w w' : World}
theorem Ln.keep {x : Sx} (h : Ln B P x v E L w) (hP : w'.heap[P]? = w.heap[P]?) (hr : ∀ g, v.ownBlock = some g → w'.heap[g]? = w.heap[g]?) (he : ∀ e ∈ E, w'.heap[e.blk]? = w.heap[e.blk]?) : Ln B P x v E L w' :=
  ⟨hP.trans h.box, own_heap h.row hr, fun e hE => by
    obtain ⟨p, hp, hq⟩ := h.ent e hE
    exact ⟨p, (he e hE).trans hp, hq⟩, h.sub, h.nd, h.en⟩
theorem CI.keep (h : CI B P M rm tn v E L w) (hh : ∀ g ∈ cids P M v E, w'.heap[g]? = w.heap[g]?) : CI B P M rm tn v E L w' :=
  ⟨h.ln.keep (hh P (by simp [cids])) (fun g hg => hh g (by simp [cids, hg])) (fun e he => hh _ (by simp only [cids, List.mem_cons, List.mem_append]; exact .inr (.inr (.inr (List.mem_map_of_mem he))))), h.hp, h.mp.keep (hh M (by simp [cids])), h.lo, h.loM, h.loE, h.lse, h.pl⟩
theorem CS.keep (h : CS B P M rm tn E I w) (hh : ∀ g ∈ I, w'.heap[g]? = w.heap[g]?) : CS B P M rm tn E I w' := by
  obtain ⟨v, L, h1, rfl⟩ := h
  exact ⟨v, L, h1.keep hh, rfl⟩
theorem CI.lt (h : CI B P M rm tn v E L w) : ∀ g ∈ cids P M v E, B ≤ g ∧ g < w.heap.size := by
  intro g hg
  simp only [cids, List.mem_cons, List.mem_append] at hg
  rcases hg with rfl | rfl | hg | hg
  · exact ⟨h.lo, (Array.getElem?_eq_some_iff.1 h.ln.box).1⟩
  · exact ⟨h.loM, h.mp.lt⟩
  · exact h.ln.row.lt g (by simpa using hg)
  · obtain ⟨e, he, rfl⟩ := List.mem_map.1 hg
    obtain ⟨p, hp, _⟩ := h.ln.ent e he
    exact ⟨h.loE e he, (Array.getElem?_eq_some_iff.1 hp).1⟩
theorem CS.lt (h : CS B P M rm tn E I w) : ∀ g ∈ I, B ≤ g ∧ g < w.heap.size := by
  obtain ⟨v, L, h1, rfl⟩ := h
  exact h1.lt
theorem CS.up (h : CS B P M rm tn E I w) (hb : Below w.heap.size w w') : CS B P M rm tn E I w' := h.keep fun g hg => hb.block g (h.lt g hg).2
theorem CS.drewN (h : CS B P M rm tn E I w) (n : Nat) : CS B P M rm tn E I (w.drewN n) := h.keep fun _ _ => rfl
theorem CI.neM (h : CI B P M rm tn v E L w) : ∀ g, LnS P v E g → g ≠ M := by
  obtain ⟨D, ⟨es, clock, hb, _⟩, _⟩ := h.mp
  intro g hg e
  subst e
  rcases hg with rfl | hg | ⟨y, hy, hg⟩
  · rw [h.ln.box] at hb; injection hb with hb; cases hb
  · rcases h.ln.row.2 with ⟨e, _⟩ | ⟨g', c', cur, e, _, hc, _⟩
    · rw [e] at hg; cases hg
    · rw [e] at hg
      have : g' = g := by simpa [Value.ownBlock] using hg
      subst this
      rw [hc] at hb; injection hb with hb; cases hb
  · obtain ⟨p, hp, _⟩ := h.ln.ent y hy
    rw [hg, hb] at hp; injection hp with hp; cases hp
theorem ids_of_LnS (g : Nat) (h : LnS P v E g) : g ∈ cids P M v E := by
  simp only [cids, List.mem_cons, List.mem_append]
  rcases h with rfl | h | ⟨y, hy, h⟩
  · exact .inl rfl
  · exact .inr (.inr (.inl (by simp [h])))
  · exact .inr (.inr (.inr (List.mem_map.2 ⟨y, hy, h⟩)))
/-- An entry's line in memory is turned, and the box. -/
theorem Ln.turn {x x' : Sx} {E' : List Ent} (h : Ln B P x v E L w) (hbox : w'.heap[P]? = some (.cells (scells x' v) 62 (0, 0))) (hrow : ∀ g, v.ownBlock = some g → w'.heap[g]? = w.heap[g]?)
    (hent : ∀ e ∈ E', ∃ e0 ∈ E, e0.blk = e.blk ∧ ∀ p, w.heap[e0.blk]? = some (.cells (kcells e0 p) 82 (0, 0)) → w'.heap[e.blk]? = some (.cells (kcells e p) 82 (0, 0))) (hsub : ∀ b ∈ L, ∃ e ∈ E', e.blk = b) (hen : (E'.map Ent.blk).Nodup) : Ln B P x' v E' L w' :=
  ⟨hbox, own_heap h.row hrow, fun e he => by
    obtain ⟨e0, h0, hb, hc⟩ := hent e he
    obtain ⟨p, hp, hq⟩ := h.ent e0 h0
    exact ⟨p, hc p hp, fun k hk hkk => hq k hk (hkk.trans hb.symm)⟩, hsub, h.nd, hen⟩
end
end Go.Proofs.YtoceglbdnbnjpaaDoor

/- What Is answers (of digests), the program's and the document's own. -/
namespace Go.Proofs.YtoceglbdnbnjpaaDoor
open Go.RowKit

theorem d_size {s : ByteArray} {l : List UInt8} (h : s.data.toList = l) : s.size = l.length := by rw [← h]; exact Array.length_toList.symm
theorem d_bytes {s : ByteArray} {l : List UInt8} (h : s.data.toList = l) : s = ⟨l.toArray⟩ := by
  subst h
  cases s
  simp
theorem d_get (s : ByteArray) (k : Nat) (h : k < s.size) : s.toList[k]? = some s[k] := by
  rw [Lib.toList_data]
  have : k < s.data.toList.length := by rw [← d_size (s := s) rfl]; exact h
  rw [List.getElem?_eq_getElem this]
  rfl
theorem d_all_false (s : ByteArray) (k : Nat) (h : k < s.size) (f : UInt8 → Bool) (hf : f s[k] = false) : s.toList.all f = false := by
  rw [List.all_eq_false]
  exact ⟨s[k], List.mem_of_getElem? (d_get s k h), by simp [hf]⟩
theorem d_all_true (s : ByteArray) (f : UInt8 → Bool) (hf : ∀ j (hj : j < s.size), f s[j] = true) : s.toList.all f = true := by
  rw [List.all_eq_true]
  intro c hc
  obtain ⟨j, hj, rfl⟩ := List.getElem_of_mem hc
  have hj' : j < s.size := by rw [Lib.toList_data] at hj; rw [d_size (s := s) rfl]; exact hj
  have := d_get s j hj'
  rw [List.getElem?_eq_getElem hj] at this
  rw [Option.some.inj this]
  exact hf j hj'

def digB (c : Int) : Bool := decide (48 ≤ c ∧ c ≤ 57) || decide (97 ≤ c ∧ c ≤ 102)
def digOk (s : ByteArray) : Bool := decide (s.size = 64) && s.toList.all fun c => digB c.toNat

theorem dig_cls (c : Int) : (digB c = true ∧ 48 ≤ c ∧ c ≤ 57) ∨ (digB c = true ∧ decide (c ≤ 57) = false ∧ 97 ≤ c ∧ c ≤ 102) ∨ (digB c = false ∧ c < 48) ∨ (digB c = false ∧ 48 ≤ c ∧ decide (c ≤ 57) = false ∧ c < 97) ∨ (digB c = false ∧ 97 ≤ c ∧ decide (c ≤ 57) = false ∧ decide (c ≤ 102) = false) := by
  simp [digB]
  omega

set_option maxHeartbeats 1000000 in
theorem isDigit_any (c : Int) (w : World) : Calls Tryd.prog 68 #[.int .u8 c] w fun e w' => e = .returned (.bool (digB c)) ∧ w' = w := by
  rcases dig_cls c with ⟨h, c1, c2⟩ | ⟨h, c1, c2, c3⟩ | ⟨h, c1⟩ | ⟨h, c1, c2, c3⟩ | ⟨h, c1, c2, c3⟩
  all_goals
    have H : Hid _ := h
    clear h
    go_enter Tryd.func68, Tryd.ntmps68
    go_wp2
    go_ret
    exact ⟨by rw [H.out]; rfl, rfl⟩

set_option maxHeartbeats 1000000 in
set_option maxRecDepth 100000 in
theorem Is_any (s : ByteArray) (w : World) : Calls Tryd.prog 65 #[.string s] w fun e w' => e = .returned (.bool (digOk s)) ∧ w' = w := by
  by_cases h : s.size = 64
  · have hz : ((s.size : Int) != 64) = false := by simp; omega
    have hz1 : (s.size : Int) ≤ 64 := by omega
    have HN : Hid (digOk s = s.toList.all fun c => digB c.toNat) := by show _ = _; simp [digOk, h]
    have HZ : Hid _ := h
    clear h
    go_enter Tryd.func65, Tryd.ntmps65
    go_wp2
    go_loop [9] (fun i => ∃ k : Nat, k ≤ s.size ∧ i = .int .i64 k ∧ ∀ j (hj : j < s.size), j < k → digB s[j].toNat = true) (fun i => s.size - (intOf i).toNat)
    case atStart => exact ⟨0, Nat.zero_le _, rfl, by omega⟩
    case round =>
      obtain ⟨k, hk, rfl, hlo⟩ := hrel
      have HL : Hid _ := hlo
      clear hlo
      by_cases hlt : k < s.size
      · by_cases hb : digB s[k].toNat = true
        · go_wp2_with (go_at_call 68; refine (isDigit_any _ _).mono ?_; rintro e w' ⟨rfl, rfl⟩; rw [hb])
          refine ⟨⟨k + 1, by omega, by go_num, fun j hj hjk => ?_⟩, by simp [intOf]; omega⟩
          by_cases h : j < k
          · exact HL.out j hj h
          · obtain rfl : j = k := by omega
            exact hb
        · have hb' : digB s[k].toNat = false := by simpa using hb
          clear hb
          have HF : Hid (digOk s = false) := by show _ = _; rw [HN.out]; exact d_all_false s k hlt _ hb'
          go_wp2_with (go_at_call 68; refine (isDigit_any _ _).mono ?_; rintro e w' ⟨rfl, rfl⟩; rw [hb'])
          go_ret
          exact ⟨by rw [HF.out]; rfl, rfl⟩
      · have HF : Hid (digOk s = true) := by show _ = _; rw [HN.out]; exact d_all_true s _ (fun j hj => HL.out j hj (by omega))
        go_wp2
        go_ret
        exact ⟨by rw [HF.out]; rfl, rfl⟩
  · have hz : ((s.size : Int) != 64) = true := by rw [bne_iff_ne]; omega
    have HF : Hid (digOk s = false) := by show _ = _; simp [digOk, h]
    clear h
    go_enter Tryd.func65, Tryd.ntmps65
    go_wp2
    go_ret
    exact ⟨by rw [HF.out]; rfl, rfl⟩

def hexd (n : Nat) : Nat := if n < 10 then 48 + n else 87 + n
def hexI (c : Int) : Int := if 48 ≤ c ∧ c ≤ 57 then c - 48 else if 97 ≤ c ∧ c ≤ 102 then c - 87 else -1
theorem hex_at (k : Nat) (hk : k < 16) : hexI (hexd k) = k := by
  unfold hexd hexI
  split <;> split <;> (try split) <;> omega
theorem hex_no (c : Nat) (h : ∀ k, k < 16 → hexd k ≠ c) : hexI c = -1 := by
  unfold hexI
  split
  · have := h (c - 48) (by omega)
    unfold hexd at this
    rw [if_pos (by omega)] at this
    omega
  · split
    · have := h (c - 87) (by omega)
      unfold hexd at this
      rw [if_neg (by omega)] at this
      omega
    · rfl
theorem hexI_neg (c : Int) : decide (hexI c < 0) = !digB c := by
  unfold hexI digB
  by_cases h1 : 48 ≤ c ∧ c ≤ 57
  · rw [if_pos h1]; simp [h1]
  · rw [if_neg h1]
    by_cases h2 : 97 ≤ c ∧ c ≤ 102
    · rw [if_pos h2]; simp [h2]; omega
    · rw [if_neg h2]; simp [h1, h2]
theorem hex_digits : ∀ n, n < 16 → (ByteArray.extract ⟨#[48, 49, 50, 51, 52, 53, 54, 55, 56, 57, 97, 98, 99, 100, 101, 102]⟩ n (n + 1)).data.toList = [UInt8.ofNat (hexd n)] := by
  intro n hn
  rw [Lib.extract_data]
  revert n
  decide

set_option maxHeartbeats 1000000 in
theorem hexDigit_any (n : Nat) (w : World) (h : n < 16) : Calls Tryd.prog 34 #[.int .i64 n] w fun e w' => e = .returned (.string ⟨#[UInt8.ofNat (hexd n)]⟩) ∧ w' = w := by
  have HE : Hid _ := d_bytes (hex_digits n h)
  have h1 : (n : Int) < 16 := by omega
  clear h
  go_enter Tryd.func34, Tryd.ntmps34
  go_wp2
  go_ret
  exact ⟨by rw [show (⟨#[UInt8.ofNat (hexd n)]⟩ : ByteArray) = ⟨[UInt8.ofNat (hexd n)].toArray⟩ from rfl, ← HE.out]; rfl, rfl⟩

set_option maxHeartbeats 1000000 in
set_option maxRecDepth 100000 in
theorem hexOf_any (c : Nat) (w : World) (_hc : c < 256) : Calls Tryd.prog 35 #[.int .u8 c] w fun e w' => e = .returned (.int .i64 (hexI c)) ∧ w' = w := by
  go_enter Tryd.func35, Tryd.ntmps35
  go_wp2
  go_loop [3] (fun i => ∃ k : Nat, k ≤ 16 ∧ i = .int .i64 k ∧ ∀ j, j < k → hexd j ≠ c) (fun i => 16 - (intOf i).toNat)
  case atStart => exact ⟨0, Nat.zero_le _, rfl, by omega⟩
  case round =>
    obtain ⟨k, hk, rfl, hlo⟩ := hrel
    have HL : Hid _ := hlo
    clear hlo
    by_cases hlt : k < 16
    · have hlt1 : (k : Int) < 16 := by omega
      have hx : (UInt8.ofNat (hexd k)).toNat = hexd k := by
        have : hexd k < 256 := by unfold hexd; split <;> omega
        simp [UInt8.toNat_ofNat']; omega
      by_cases he : hexd k = c
      · have hb : ((((⟨#[UInt8.ofNat (hexd k)]⟩ : ByteArray)[0]'(by show 0 < 1; decide)).toNat : Int) == (c : Int)) = true := by show (((UInt8.ofNat (hexd k)).toNat : Int) == (c : Int)) = true; rw [hx, he]; simp
        have HR : Hid (hexI c = (k : Int)) := by show _ = _; rw [← he]; exact hex_at k hlt
        clear he hx
        go_wp2_with (go_at_call 34; refine (hexDigit_any _ _ hlt).mono ?_; rintro e w' ⟨rfl, rfl⟩)
        go_ret
        exact ⟨by rw [HR.out]; rfl, rfl⟩
      · have hb : ((((⟨#[UInt8.ofNat (hexd k)]⟩ : ByteArray)[0]'(by show 0 < 1; decide)).toNat : Int) == (c : Int)) = false := by show (((UInt8.ofNat (hexd k)).toNat : Int) == (c : Int)) = false; rw [hx, beq_eq_false_iff_ne]; omega
        have HE : Hid (hexd k ≠ c) := he
        clear he hx
        go_wp2_with (go_at_call 34; refine (hexDigit_any _ _ hlt).mono ?_; rintro e w' ⟨rfl, rfl⟩)
        refine ⟨⟨k + 1, by omega, by go_num, fun j hj => ?_⟩, by simp [intOf]; omega⟩
        by_cases h : j < k
        · exact HL.out j h
        · obtain rfl : j = k := by omega
          exact HE.out
    · have HR : Hid (hexI c = -1) := hex_no c (fun j hj => HL.out j (by omega))
      go_wp2
      go_ret
      exact ⟨by rw [HR.out]; rfl, rfl⟩

set_option maxHeartbeats 1000000 in
set_option maxRecDepth 100000 in
theorem RIsDigest_any (s : ByteArray) (w : World) (hs : s.size ≤ maxLen) : Calls Tryd.prog 12 #[.string s] w fun e w' => e = .returned (.bool (digOk s)) ∧ w' = w := by
  have hsz : (s.size : Int) ≤ 9223372036854775807 := by unfold maxLen at hs; omega
  have HA : Hid (s.toList.all (fun c => digB c.toNat) = false → digOk s = false) := fun h => by simp [digOk, h]
  have HB : Hid (s.toList.all (fun c => digB c.toNat) = true → digOk s = ((s.size : Int) == 64)) := fun h => by
    rw [digOk, h, Bool.and_true]
    by_cases e : s.size = 64
    · simp [e]
    · have : ¬ (s.size : Int) = 64 := by omega
      simp [e, this]
  clear hs
  go_enter Tryd.func12, Tryd.ntmps12
  go_wp2
  go_loop [3] (fun i => ∃ k : Nat, k ≤ s.size ∧ i = .int .i64 k ∧ ∀ j (hj : j < s.size), j < k → digB s[j].toNat = true) (fun i => s.size - (intOf i).toNat)
  case atStart => exact ⟨0, Nat.zero_le _, rfl, by omega⟩
  case round =>
    obtain ⟨k, hk, rfl, hlo⟩ := hrel
    have HL : Hid _ := hlo
    clear hlo
    by_cases hlt : k < s.size
    · have hx := hexI_neg (s[k].toNat : Int)
      by_cases hb : digB s[k].toNat = true
      · rw [hb] at hx
        have hx' : ¬ hexI (s[k].toNat : Int) < 0 := by simpa using hx
        have HN : Hid _ := hb
        clear hx hb
        go_wp2_with (go_at_call 35; refine (hexOf_any _ _ s[k].toNat_lt).mono ?_; rintro e w' ⟨rfl, rfl⟩)
        refine ⟨⟨k + 1, by omega, by go_num, fun j hj hjk => ?_⟩, by simp [intOf]; omega⟩
        by_cases h : j < k
        · exact HL.out j hj h
        · obtain rfl : j = k := by omega
          exact HN.out
      · have hb' : digB s[k].toNat = false := by simpa using hb
        rw [hb'] at hx
        have hx' : hexI (s[k].toNat : Int) < 0 := by simpa using hx
        have HF : Hid (digOk s = false) := HA.out (d_all_false s k hlt _ hb')
        clear hx hb hb'
        go_wp2_with (go_at_call 35; refine (hexOf_any _ _ s[k].toNat_lt).mono ?_; rintro e w' ⟨rfl, rfl⟩)
        go_ret
        exact ⟨by rw [HF.out]; rfl, rfl⟩
    · have HF : Hid _ := HB.out (d_all_true s _ (fun j hj => HL.out j hj (by omega)))
      go_wp2
      go_ret
      exact ⟨by rw [HF.out]; rfl, rfl⟩
end Go.Proofs.YtoceglbdnbnjpaaDoor

/- A store: is there one; a text is looked for; it is used. -/
namespace Go.Proofs.YtoceglbdnbnjpaaDoor
open Go.RowKit Go.Shelf Go.Maps Go.WideMaps

set_option maxHeartbeats 1000000 in
set_option maxRecDepth 100000 in
theorem isNone_any {P M : Nat} {w : World} (c4 : w.cell? ⟨P, 4, none⟩ = some (.map (some M))) :
    Calls Tryd.prog 36 #[kp P] w fun e w' => e = .returned (.bool false) ∧ w' = w := by
  have hm := mapNe1 M
  go_enter Tryd.func36, Tryd.ntmps36
  go_wp2
  go_ret
  exact ⟨rfl, rfl⟩

set_option maxHeartbeats 1000000 in
theorem isNo_any (d : ByteArray) (w : World) : Calls Tryd.prog 57 #[.string d] w fun e w' => e = .returned (.bool (!digOk d)) ∧ w' = w := by
  have HI : Hid (Calls Tryd.prog 65 #[.string d] w fun e w' => e = .returned (.bool (digOk d)) ∧ w' = w) := Is_any d w
  generalize digOk d = b at *
  go_enter Tryd.func57, Tryd.ntmps57
  go_wp2_with (first
    | (go_at_call 65; refine HI.out.mono ?_; rintro e w1 ⟨rfl, rfl⟩)
    | go_in)
  go_ret
  exact ⟨rfl, rfl⟩
theorem Ln.c4 {B P : Nat} {x : Sx} {v : Value} {E : List Ent} {L : List Nat} {w : World} (h : Ln B P x v E L w) : w.cell? ⟨P, 4, none⟩ = some (.map (some x.M)) := by rw [Lib.cell_of_heap h.box]; rfl
theorem Ln.c0 {B P : Nat} {x : Sx} {v : Value} {E : List Ent} {L : List Nat} {w : World} (h : Ln B P x v E L w) : w.cell? ⟨P, 0, none⟩ = some (.int .i64 x.rm) := by rw [Lib.cell_of_heap h.box]; rfl
theorem Ln.c1 {B P : Nat} {x : Sx} {v : Value} {E : List Ent} {L : List Nat} {w : World} (h : Ln B P x v E L w) : w.cell? ⟨P, 1, none⟩ = some (.int .i64 x.bt) := by rw [Lib.cell_of_heap h.box]; rfl
theorem Ln.c2 {B P : Nat} {x : Sx} {v : Value} {E : List Ent} {L : List Nat} {w : World} (h : Ln B P x v E L w) : w.cell? ⟨P, 2, none⟩ = some (.int .i64 x.pn) := by rw [Lib.cell_of_heap h.box]; rfl
theorem Ln.c3 {B P : Nat} {x : Sx} {v : Value} {E : List Ent} {L : List Nat} {w : World} (h : Ln B P x v E L w) : w.cell? ⟨P, 3, none⟩ = some (.int .i64 x.tn) := by rw [Lib.cell_of_heap h.box]; rfl
theorem dig_size {d : ByteArray} (h : digOk d = true) : d.size = 64 := by
  unfold digOk at h
  rw [Bool.and_eq_true, decide_eq_true_eq] at h
  exact h.1

set_option maxHeartbeats 1000000 in
set_option maxRecDepth 100000 in
theorem look_bad {P : Nat} {w : World} (d : ByteArray) (hd : digOk d = false) :
    Calls Tryd.prog 42 #[kp P, .string d] w fun e w' => e = .returned (.tuple #[.pointer none, .int .i64 1]) ∧ w' = w := by
  have HN : Hid (Calls Tryd.prog 57 #[.string d] w fun e w' => e = .returned (.bool true) ∧ w' = w) := by
    have := isNo_any d w
    rw [hd] at this
    exact this
  clear hd
  go_enter Tryd.func42, Tryd.ntmps42
  go_wp2_with (first
    | (go_at_call 57; refine HN.out.mono ?_; rintro e w1 ⟨rfl, rfl⟩)
    | go_in)
  go_ret2
  exact ⟨rfl, rfl⟩

set_option maxHeartbeats 1000000 in
set_option maxRecDepth 100000 in
theorem look_run {B P M rm tn : Nat} {v : Value} {E : List Ent} {L : List Nat} {w : World} (h : CI B P M rm tn v E L w) (d : ByteArray) (hd : digOk d = true) (u : Value) (b : Bool) (k : Int) (hk : k = if b then 0 else 5) (hu : b = false → u = .pointer none) (hr : (Instr.lookup 58 (.map (some M)) (.string d) true).run Tryd.prog w = .ok (.tuple #[u, .bool b]) w) :
    Calls Tryd.prog 42 #[kp P, .string d] w fun e w' => e = .returned (.tuple #[u, .int .i64 k]) ∧ w' = w := by
  have HN : Hid (Calls Tryd.prog 57 #[.string d] w fun e w' => e = .returned (.bool false) ∧ w' = w) := by
    have := isNo_any d w
    rw [hd] at this
    exact this
  have c4 := h.ln.c4
  have HI : Hid (Calls Tryd.prog 36 #[kp P] w fun e w' => e = .returned (.bool false) ∧ w' = w) := isNone_any c4
  clear hd h
  cases b with
  | false =>
    obtain rfl := hu rfl
    obtain rfl : k = 5 := hk
    clear hu
    go_enter Tryd.func42, Tryd.ntmps42
    go_wp2_with (first
      | (go_at_call 57; refine HN.out.mono ?_; rintro e w1 ⟨rfl, rfl⟩)
      | (go_at_call 36; refine HI.out.mono ?_; rintro e w1 ⟨rfl, rfl⟩)
      | go_in)
    go_ret2
    exact ⟨rfl, rfl⟩
  | true =>
    obtain rfl : k = 0 := hk
    clear hu
    go_enter Tryd.func42, Tryd.ntmps42
    go_wp2_with (first
      | (go_at_call 57; refine HN.out.mono ?_; rintro e w1 ⟨rfl, rfl⟩)
      | (go_at_call 36; refine HI.out.mono ?_; rintro e w1 ⟨rfl, rfl⟩)
      | go_in)
    go_ret2
    exact ⟨rfl, rfl⟩
theorem look_yes {B P M rm tn : Nat} {E : List Ent} {I : List Nat} {w : World} (h : CS B P M rm tn E I w) {e : Ent} (he : e ∈ E) (hd : digOk e.dg = true) :
    Calls Tryd.prog 42 #[kp P, .string e.dg] w fun r w' => r = .returned (.tuple #[kp e.blk, .int .i64 0]) ∧ w' = w := by
  obtain ⟨v, L, h1, _⟩ := h
  exact look_run h1 e.dg hd _ true 0 rfl (fun q => by cases q) (h1.mp.look_yes he (by rw [h1.pl.dz e he]; decide))
theorem look_no {B P M rm tn : Nat} {E : List Ent} {I : List Nat} {w : World} (h : CS B P M rm tn E I w) {d : ByteArray} (hn : ∀ e ∈ E, e.dg ≠ d) (hd : digOk d = true) :
    Calls Tryd.prog 42 #[kp P, .string d] w fun r w' => r = .returned (.tuple #[.pointer none, .int .i64 5]) ∧ w' = w := by
  obtain ⟨v, L, h1, _⟩ := h
  exact look_run h1 d hd _ false 5 rfl (fun _ => rfl) (h1.mp.look_no hn (by rw [dig_size hd]; decide))
end Go.Proofs.YtoceglbdnbnjpaaDoor

/- A store: a text is used. -/
namespace Go.Proofs.YtoceglbdnbnjpaaDoor
open Go.RowKit Go.Shelf Go.Maps Go.WideMaps

theorem nodup_len : ∀ (L M : List Nat), L.Nodup → (∀ b ∈ L, b ∈ M) → L.length ≤ M.length
  | [], _, _, _ => Nat.zero_le _
  | a :: r, M, hn, hs => by
    rw [List.nodup_cons] at hn
    have ha : a ∈ M := hs a (by simp)
    have := nodup_len r (M.erase a) hn.2 (fun b hb => (List.mem_erase_of_ne (fun e => hn.1 (by rw [← e]; exact hb))).2 (hs b (by simp [hb])))
    rw [List.length_erase_of_mem ha] at this
    have h0 : 0 < M.length := List.length_pos_of_mem ha
    rw [List.length_cons]
    omega
section
variable {E E1 E2 : List Ent} {e e' : Ent}
theorem byE_mid : byE (E1 ++ e :: E2) = e.tx.size + byE (E1 ++ E2) := by
  unfold byE; simp [List.sum_append]; omega
theorem piE_mid : piE (E1 ++ e :: E2) = (if e.pins = 0 then 0 else e.tx.size) + piE (E1 ++ E2) := by
  unfold piE; simp [List.sum_append]; omega
theorem byE_snoc : byE (E ++ [e]) = byE E + e.tx.size := by
  unfold byE; simp [List.sum_append]
theorem piE_snoc : piE (E ++ [e]) = piE E + (if e.pins = 0 then 0 else e.tx.size) := by
  unfold piE; simp [List.sum_append]
theorem piE_le : ∀ E : List Ent, piE E ≤ byE E
  | [] => Nat.le_refl _
  | e :: r => by
    have := piE_le r
    unfold piE byE at *
    simp only [List.map_cons, List.sum_cons]
    split <;> omega
theorem tnE_out {b : Nat} (h : e.blk ≠ b) (h' : e'.blk ≠ b) : tnE (E1 ++ E2 ++ [e']) b = tnE (E1 ++ e :: E2) b := by
  unfold tnE
  have q1 : (e.blk == b) = false := beq_eq_false_iff_ne.2 h
  have q2 : (e'.blk == b) = false := beq_eq_false_iff_ne.2 h'
  simp [List.find?_append, q1, q2]
theorem mid_perm (E1 E2 : List Ent) (e : Ent) : (E1 ++ E2 ++ [e]).Perm (E1 ++ e :: E2) := by
  rw [List.append_assoc]
  exact List.Perm.append_left E1 (List.perm_append_comm (l₁ := E2) (l₂ := [e]))
theorem mid_mem {y : Ent} : y ∈ E1 ++ e :: E2 ↔ y = e ∨ y ∈ E1 ++ E2 := by
  simp only [List.mem_append, List.mem_cons]
  constructor
  · rintro (h | h | h)
    · exact .inr (.inl h)
    · exact .inl h
    · exact .inr (.inr h)
  · rintro (h | h | h)
    · exact .inr (.inl h)
    · exact .inl h
    · exact .inr (.inr h)
theorem mid_blk (hn : ((E1 ++ e :: E2).map Ent.blk).Nodup) : ∀ y ∈ E1 ++ E2, y.blk ≠ e.blk := by
  intro y hy hb
  have hp : ((e :: (E1 ++ E2)).map Ent.blk).Nodup := ((List.perm_middle (l₁ := E1) (l₂ := E2) (a := e)).map Ent.blk).nodup_iff.1 hn
  rw [List.map_cons, List.nodup_cons] at hp
  exact hp.1 (hb ▸ List.mem_map_of_mem hy)
theorem mid_nodup (hn : ((E1 ++ e :: E2).map Ent.blk).Nodup) : ((E1 ++ E2).map Ent.blk).Nodup := by
  have hp : ((e :: (E1 ++ E2)).map Ent.blk).Nodup := ((List.perm_middle (l₁ := E1) (l₂ := E2) (a := e)).map Ent.blk).nodup_iff.1 hn
  rw [List.map_cons, List.nodup_cons] at hp
  exact hp.2
theorem mid_sub : (E1 ++ E2).Sublist (E1 ++ e :: E2) := List.Sublist.append_left (List.sublist_cons_self e E2) E1
theorem mid_dg (h : (E1 ++ e :: E2).Pairwise fun a b => a.dg ≠ b.dg) : ∀ y ∈ E1 ++ E2, y.dg ≠ e.dg := by
  rw [List.pairwise_append, List.pairwise_cons] at h
  obtain ⟨h1, ⟨h2, h3⟩, h4⟩ := h
  intro y hy
  rcases List.mem_append.1 hy with hy | hy
  · exact h4 y hy e (by simp)
  · exact fun q => h2 y hy q.symm
/-- One of them is used: it is the last. -/
def usE (E1 E2 : List Ent) (e : Ent) (tn : Nat) : List Ent := E1 ++ E2 ++ [{ e with turn := tn + 1 }]
/-- One of them is another one, and the last. -/
theorem PlE.used {rm tn : Nat} (h : PlE rm tn (E1 ++ e :: E2)) : PlE rm (tn + 1) (E1 ++ E2 ++ [{ e with turn := tn + 1 }]) := by
  have hm : ∀ y ∈ E1 ++ E2 ++ [{ e with turn := tn + 1 }], y ∈ E1 ++ E2 ∨ y = { e with turn := tn + 1 } := fun y hy => by simpa [or_assoc] using hy
  have hs : ∀ y ∈ E1 ++ E2, y ∈ E1 ++ e :: E2 := fun y hy => mid_sub.subset hy
  have he : e ∈ E1 ++ e :: E2 := by simp
  refine ⟨?_, ?_, fun y hy => ?_, fun y hy => ?_, fun y hy => ?_, fun y hy => ?_, ?_, h.rl, ?_⟩
  · refine List.pairwise_append.2 ⟨h.up.sublist mid_sub, by simp, fun a ha b hb => ?_⟩
    rw [List.mem_singleton] at hb
    subst hb
    have := h.tl a (hs a ha)
    show a.turn < tn + 1
    omega
  · refine List.pairwise_append.2 ⟨h.dn.sublist mid_sub, by simp, fun a ha b hb => ?_⟩
    rw [List.mem_singleton] at hb
    subst hb
    exact mid_dg h.dn a ha
  · rcases hm y hy with hy | rfl
    · have := h.tl y (hs y hy); omega
    · exact Nat.le_refl _
  · rcases hm y hy with hy | rfl
    · exact h.sz y (hs y hy)
    · exact h.sz e he
  · rcases hm y hy with hy | rfl
    · exact h.dz y (hs y hy)
    · exact h.dz e he
  · rcases hm y hy with hy | rfl
    · have := h.pi y (hs y hy); omega
    · have := h.pi e he; show e.pins ≤ _; omega
  · have := h.len
    simp at this ⊢
    omega
  · have := h.fit
    rw [byE_mid] at this
    rw [byE_snoc]
    show _ + e.tx.size ≤ rm
    omega
end
theorem sc_set3 (x : Sx) (v : Value) (a : Int) : (scells x v).setIfInBounds 3 (.int .i64 a) = scells { x with tn := a } v := by rfl
theorem kc_set3 (e : Ent) (p q : Nat) : (kcells e p).setIfInBounds 3 (.int .i64 (q : Int)) = kcells { e with turn := q } p := by rfl
theorem upd_oth {P M : Nat} {v v2 : Value} {E E' : List Ent} {w w' : World} (h : Oth (LnS P v E) w w') (hn : NewB v v2 w) (hE : ∀ y ∈ E', (∃ z ∈ E, z.blk = y.blk) ∨ w.heap.size ≤ y.blk) : Upd (cids P M v E) (cids P M v2 E') w w' :=
  ⟨h.os, h.tape, h.output, h.size, fun g hg hgn => h.block g hg fun hh => hgn (ids_of_LnS g hh), fun g hg => by
    simp only [cids, List.mem_cons, List.mem_append] at hg ⊢
    rcases hg with rfl | rfl | hg | hg
    · exact .inl (.inl rfl)
    · exact .inl (.inr (.inl rfl))
    · rcases hn g (by simpa using hg) with hg | hg
      · exact .inl (.inr (.inr (.inl (by simp [hg]))))
      · exact .inr hg
    · obtain ⟨y, hy, rfl⟩ := List.mem_map.1 hg
      rcases hE y hy with ⟨z, hz, q⟩ | q
      · exact .inl (.inr (.inr (.inr (List.mem_map.2 ⟨z, hz, q⟩))))
      · exact .inr q⟩

set_option maxHeartbeats 4000000 in
set_option maxRecDepth 100000 in
theorem use_any (B P M rm tn : Nat) (E1 E2 : List Ent) (e : Ent) (I : List Nat) (w : World) (h : CS B P M rm tn (E1 ++ e :: E2) I w) (ht : tn ≤ 10000) :
    Calls Tryd.prog 37 #[kp P, kp e.blk] w fun r w' => r = .returned (.tuple #[]) ∧ ∃ I', CS B P M rm (tn + 1) (usE E1 E2 e tn) I' w' ∧ Upd I I' w w' := by
  obtain ⟨v, L, h, rfl⟩ := h
  have he : e ∈ E1 ++ e :: E2 := by simp
  obtain ⟨p, hp, hq⟩ := h.ln.ent e he
  have hbP := h.ln.neB he
  obtain ⟨V, hV⟩ : ∃ V, V = w.setCell ⟨P, 3, none⟩ (.int .i64 ((tn + 1 : Nat) : Int)) := ⟨_, rfl⟩
  obtain ⟨W, hW⟩ : ∃ W, W = V.setCell ⟨e.blk, 3, none⟩ (.int .i64 ((tn + 1 : Nat) : Int)) := ⟨_, rfl⟩
  have hVb : V.heap[e.blk]? = some (.cells (kcells e p) 82 (0, 0)) := by rw [hV, Below.heap_setCell _ _ _ _ hbP]; exact hp
  have hWb : W.heap[e.blk]? = some (.cells (kcells { e with turn := tn + 1 } p) 82 (0, 0)) := by rw [hW, Go.Joins.block_setCell hVb, kc_set3]
  have hWP : W.heap[P]? = some (.cells (scells ⟨rm, byE (E1 ++ E2 ++ [{ e with turn := tn + 1 }]), piE (E1 ++ E2 ++ [{ e with turn := tn + 1 }]), ((tn + 1 : Nat) : Int), M⟩ v) 62 (0, 0)) := by
    rw [hW, Below.heap_setCell _ _ _ _ (Ne.symm hbP), hV, Go.Joins.block_setCell h.ln.box, sc_set3]
    have q1 : byE (E1 ++ E2 ++ [{ e with turn := tn + 1 }]) = byE (E1 ++ e :: E2) := by rw [byE_snoc, byE_mid]; exact Nat.add_comm _ _
    have q2 : piE (E1 ++ E2 ++ [{ e with turn := tn + 1 }]) = piE (E1 ++ e :: E2) := by rw [piE_snoc, piE_mid]; exact Nat.add_comm _ _
    rw [q1, q2]
  have hWo : ∀ g, g ≠ P → g ≠ e.blk → W.heap[g]? = w.heap[g]? := fun g h1 h2 => by rw [hW, Below.heap_setCell _ _ _ _ h2, hV, Below.heap_setCell _ _ _ _ h1]
  have hmb := mid_blk h.ln.en
  have hperm := (mid_perm E1 E2 { e with turn := tn + 1 })
  have hen : ((E1 ++ E2 ++ [{ e with turn := tn + 1 }]).map Ent.blk).Nodup := by
    have := (hperm.map Ent.blk).nodup_iff.2
    refine this ?_
    have q := h.ln.en
    simp only [List.map_append, List.map_cons] at q ⊢
    exact q
  have hcase : ∀ y ∈ E1 ++ E2 ++ [{ e with turn := tn + 1 }], y ∈ E1 ++ E2 ∨ y = { e with turn := tn + 1 } := fun y hy => by simpa [or_assoc] using hy
  have hln : Ln B P ⟨rm, byE (E1 ++ E2 ++ [{ e with turn := tn + 1 }]), piE (E1 ++ E2 ++ [{ e with turn := tn + 1 }]), ((tn + 1 : Nat) : Int), M⟩ v (E1 ++ E2 ++ [{ e with turn := tn + 1 }]) L W := by
    refine h.ln.turn hWP (fun g hg => hWo g (fun q => h.ln.neP (by rw [hg, q])) (fun q => h.ln.neE he (by rw [hg, q]))) (fun y hy => ?_) (fun b hb => ?_) hen
    · rcases hcase y hy with hy | rfl
      · exact ⟨y, mid_sub.subset hy, rfl, fun p hp => (hWo _ (h.ln.neB (mid_sub.subset hy)) (hmb y hy)).trans hp⟩
      · exact ⟨e, he, rfl, fun p2 hp2 => by
          rw [hp] at hp2
          injection hp2 with hp2
          injection hp2 with hp2
          have : (kcells e p)[4]? = (kcells e p2)[4]? := by rw [hp2]
          have hpp : p = p2 := by
            have e1 : (kcells e p)[4]? = some (.int .i64 (p : Int)) := rfl
            have e2 : (kcells e p2)[4]? = some (.int .i64 (p2 : Int)) := rfl
            rw [e1, e2] at this
            injection this with this
            injection this with _ this
            omega
          rw [← hpp]
          exact hWb⟩
    · obtain ⟨y, hy, q⟩ := h.ln.sub b hb
      rcases mid_mem.1 hy with rfl | hy
      · exact ⟨{ y with turn := tn + 1 }, by simp, q⟩
      · exact ⟨y, List.mem_append_left _ hy, q⟩
  have hmp : ∀ W2 : World, W2.heap[M]? = w.heap[M]? → MapV W2 M (E1 ++ E2 ++ [{ e with turn := tn + 1 }]) := fun W2 hh => (h.mp.keep hh).perm (by simp) (fun y hy => by
    rcases hcase y hy with hy | rfl
    · exact ⟨y, mid_sub.subset hy, rfl, rfl⟩
    · exact ⟨e, he, rfl, rfl⟩) (fun y hy => by
    rcases mid_mem.1 hy with rfl | hy
    · exact ⟨{ y with turn := tn + 1 }, by simp, rfl⟩
    · exact ⟨y, List.mem_append_left _ hy, rfl⟩)
  have hlse : ∀ L2 : List Nat, (∀ b, b ∈ L2 ↔ b ∈ L) → ∀ y ∈ E1 ++ E2 ++ [{ e with turn := tn + 1 }], y.blk ∈ L2 ↔ y.pins = 0 := fun L2 hL2 y hy => by
    rw [hL2]
    rcases hcase y hy with hy | rfl
    · exact h.lse y (mid_sub.subset hy)
    · exact h.lse e he
  have hloE : ∀ y ∈ E1 ++ E2 ++ [{ e with turn := tn + 1 }], B ≤ y.blk := fun y hy => by
    rcases hcase y hy with hy | rfl
    · exact h.loE y (mid_sub.subset hy)
    · exact h.loE e he
  have hpl := h.pl.used
  have hot : Oth (LnS P v (E1 ++ e :: E2)) w W := by rw [hW, hV]; exact (Oth.set w P 3 _ (.inl rfl)).trans (Oth.set _ e.blk 3 _ (.inr (.inr ⟨e, he, rfl⟩)))
  have hneM : M ≠ P ∧ M ≠ e.blk ∧ v.ownBlock ≠ some M := ⟨fun q => h.neM P (.inl rfl) q.symm, fun q => h.neM e.blk (.inr (.inr ⟨e, he, rfl⟩)) q.symm, fun q => h.neM M (.inr (.inl q)) rfl⟩
  have hMlt := h.mp.lt
  have hLS : ∀ g, LnS P v (E1 ++ E2 ++ [{ e with turn := tn + 1 }]) g → LnS P v (E1 ++ e :: E2) g := fun g hg => by
    rcases hg with hg | hg | ⟨y, hy, hg⟩
    · exact .inl hg
    · exact .inr (.inl hg)
    · rcases hcase y hy with hy | rfl
      · exact .inr (.inr ⟨y, mid_sub.subset hy, hg⟩)
      · exact .inr (.inr ⟨e, he, hg⟩)
  have hEb : ∀ y ∈ E1 ++ E2 ++ [{ e with turn := tn + 1 }], (∃ z ∈ E1 ++ e :: E2, z.blk = y.blk) ∨ w.heap.size ≤ y.blk := fun y hy => by
    rcases hcase y hy with hy | rfl
    · exact .inl ⟨y, mid_sub.subset hy, rfl⟩
    · exact .inl ⟨e, he, rfl⟩
  have c3 := h.ln.c3
  have f3 := h.ln.fzP 3
  have c3V : V.cell? ⟨P, 3, none⟩ = some (.int .i64 ((tn + 1 : Nat) : Int)) := by rw [hV]; exact World.cell?_setCell_same _ _ _ c3
  have cb : V.cell? ⟨e.blk, 3, none⟩ = some (.int .i64 (e.turn : Int)) := by rw [Lib.cell_of_heap hVb]; rfl
  have fb : V.frozen? ⟨e.blk, 3, none⟩ = false := Lib.frozen_of_heap hVb 3
  have cpn : W.cell? ⟨e.blk, 2, none⟩ = some (.int .i64 (e.pins : Int)) := by rw [Lib.cell_of_heap hWb]; rfl
  have cpl : W.cell? ⟨e.blk, 4, none⟩ = some (.int .i64 (p : Int)) := by rw [Lib.cell_of_heap hWb]; rfl
  have k1 : (tn : Int) + 1 = ((tn + 1 : Nat) : Int) := by omega
  have k2 : IntKind.i64.wrap ((tn + 1 : Nat) : Int) = ((tn + 1 : Nat) : Int) := by rw [IntKind.wrap_i64]; omega
  by_cases hpin : e.pins = 0
  · have hin : e.blk ∈ L := (h.lse e he).2 hpin
    obtain ⟨i, hi, hib⟩ := List.mem_iff_getElem.1 hin
    have hgi : L.getD i default = e.blk := by rw [List.getD_eq_getElem?_getD, List.getElem?_eq_getElem hi]; exact hib
    obtain rfl : p = i := hq i hi hgi
    have hpi : (e.pins : Int) = 0 := by omega
    rw [hpi] at cpn
    have hex : HpEx (tlt (E1 ++ E2 ++ [{ e with turn := tn + 1 }])) L L.length p := by
      have hsame : ∀ k, k < L.length → k ≠ p → tnE (E1 ++ E2 ++ [{ e with turn := tn + 1 }]) (L.getD k default) = tnE (E1 ++ e :: E2) (L.getD k default) := fun k hk hkp => tnE_out (fun q => hkp (getD_inj h.ln.nd hk hi (q.symm.trans hgi.symm))) (fun q => hkp (getD_inj h.ln.nd hk hi (q.symm.trans hgi.symm)))
      refine ⟨fun k hk hkn h1 h2 => ?_, fun k hk hkn h1 h2 => ?_⟩
      · have := h.hp k hk hkn
        unfold tlt at this ⊢
        rw [hsame k hkn h1, hsame _ (by omega) h2]
        exact this
      · have a1 := h.hp k hk hkn
        rw [h1] at a1
        have a2 := h.hp p h2 hi
        have := (tlt_wk _).trn _ _ _ a1 a2
        unfold tlt at this ⊢
        rw [hsame k hkn (by omega), hsame _ (by omega) (by omega)]
        exact this
    have hLl : L.length ≤ 100000 := by
      have q1 : L.length ≤ (E1 ++ e :: E2).length := by
        have := nodup_len L ((E1 ++ e :: E2).map Ent.blk) h.ln.nd (fun b hb => by
          obtain ⟨y, hy, q⟩ := h.ln.sub b hb
          exact List.mem_map.2 ⟨y, hy, q⟩)
        simpa using this
      have := h.pl.len
      omega
    have HFx : Hid (∀ m, Calls Tryd.prog 54 #[lnI P, .int .i64 (p : Int)] (W.drewN m) fun r w' => r = .returned (.tuple #[]) ∧ Hid (∃ I', CS B P M rm (tn + 1) (usE E1 E2 e tn) I' w' ∧ Upd (cids P M v (E1 ++ e :: E2)) I' w w')) := fun m =>
      (HFix_any B P p _ v _ L (W.drewN m) (hln.drewN m) hex hi hLl).mono fun r w' ⟨q1, L2, q2, q3, q4, q5⟩ => by
        have ho : Oth (LnS P v (E1 ++ e :: E2)) w w' := (hot.trans (Oth.drewN _ _ m)).trans (q5.mono fun g _ => hLS g)
        refine ⟨q1, _, ⟨v, L2, ⟨q2, q3, hmp w' (ho.block M hMlt (fun hh => h.neM M hh rfl)), h.lo, h.loM, hloE, hlse L2 fun b => q4.mem_iff, hpl⟩, rfl⟩, upd_oth ho (NewB.refl _ _) hEb⟩
    rw [hW, hV] at cpn cpl HFx
    rw [hV] at c3V cb fb
    clear hln hmp hlse hloE hpl hot hneM hMlt hLS hEb hex hLl hin hgi hi hib hpin hpi hen hcase hperm hmb hWo hWP hWb hVb hW hV h hq hp he hbP
    generalize hb : e.blk = b at *
    generalize hn1 : ((tn + 1 : Nat) : Int) = t1 at *
    clear hb hn1
    go_enter Tryd.func37, Tryd.ntmps37
    go_wp2
    go_region_with (go_at_call 54; refine (HFx.out 1).mono ?_; rintro r w1 ⟨rfl, H1⟩)
    all_goals
      go_wp2
      go_end0
      exact ⟨rfl, H1.out⟩
  · have hni : e.blk ∉ L := fun q => hpin ((h.lse e he).1 q)
    have hpi : ¬ (e.pins : Int) = 0 := by omega
    have hhp : Hp (tlt (E1 ++ E2 ++ [{ e with turn := tn + 1 }])) L L.length := fun k hk hkn => by
      have hsame : ∀ k, k < L.length → tnE (E1 ++ E2 ++ [{ e with turn := tn + 1 }]) (L.getD k default) = tnE (E1 ++ e :: E2) (L.getD k default) := fun k hk => tnE_out (fun q => hni (q ▸ getD_mem hk)) (fun q => hni (by rw [show e.blk = _ from q]; exact getD_mem hk))
      have := h.hp k hk hkn
      unfold tlt at this ⊢
      rw [hsame k hkn, hsame _ (by omega)]
      exact this
    have HF : Hid (∃ I', CS B P M rm (tn + 1) (usE E1 E2 e tn) I' W ∧ Upd (cids P M v (E1 ++ e :: E2)) I' w W) :=
      ⟨_, ⟨v, L, ⟨hln, hhp, hmp W (hot.block M hMlt (fun hh => h.neM M hh rfl)), h.lo, h.loM, hloE, hlse L fun b => Iff.rfl, hpl⟩, rfl⟩, upd_oth hot (NewB.refl _ _) hEb⟩
    rw [hW, hV] at cpn cpl HF
    rw [hV] at c3V cb fb
    clear hln hmp hlse hloE hpl hot hneM hMlt hLS hEb hni hpin hen hcase hperm hmb hWo hWP hWb hVb hW hV h hq hp he hbP hhp
    generalize hb : e.blk = b at *
    generalize hn1 : ((tn + 1 : Nat) : Int) = t1 at *
    generalize hn2 : (e.pins : Int) = t2 at *
    clear hb hn1 hn2
    go_enter Tryd.func37, Tryd.ntmps37
    go_wp2
    go_end0
    exact ⟨rfl, HF.out⟩
end Go.Proofs.YtoceglbdnbnjpaaDoor

/- A store: a text goes. -/
namespace Go.Proofs.YtoceglbdnbnjpaaDoor
open Go.RowKit Go.Shelf Go.Maps Go.WideMaps

section
variable {E E1 E2 : List Ent} {e : Ent}
theorem tnE_del {b : Nat} (h : e.blk ≠ b) : tnE (E1 ++ E2) b = tnE (E1 ++ e :: E2) b := by
  unfold tnE
  have q1 : (e.blk == b) = false := beq_eq_false_iff_ne.2 h
  simp [List.find?_append, q1]
theorem hp_del {L : List Nat} (h : Hp (tlt (E1 ++ e :: E2)) L L.length) (hn : e.blk ∉ L) : Hp (tlt (E1 ++ E2)) L L.length := by
  intro k hk hkn
  have hsame : ∀ k, k < L.length → tnE (E1 ++ E2) (L.getD k default) = tnE (E1 ++ e :: E2) (L.getD k default) := fun k hk => tnE_del (fun q => hn (q ▸ getD_mem hk))
  have := h k hk hkn
  unfold tlt at this ⊢
  rw [hsame k hkn, hsame _ (by omega)]
  exact this
theorem PlE.gone {rm tn : Nat} (h : PlE rm tn (E1 ++ e :: E2)) : PlE rm tn (E1 ++ E2) := by
  have hs : ∀ y ∈ E1 ++ E2, y ∈ E1 ++ e :: E2 := fun y hy => mid_sub.subset hy
  refine ⟨h.up.sublist mid_sub, h.dn.sublist mid_sub, fun y hy => h.tl y (hs y hy), fun y hy => h.sz y (hs y hy), fun y hy => h.dz y (hs y hy), fun y hy => h.pi y (hs y hy), ?_, h.rl, ?_⟩
  · have := h.len
    simp at this ⊢
    omega
  · have := h.fit
    rw [byE_mid] at this
    omega
end
theorem sc_set1 (x : Sx) (v : Value) (a : Int) : (scells x v).setIfInBounds 1 (.int .i64 a) = scells { x with bt := a } v := by rfl
theorem CI.llen {B P M rm tn : Nat} {v : Value} {E : List Ent} {L : List Nat} {w : World} (h : CI B P M rm tn v E L w) : L.length ≤ tn := by
  have q1 : L.length ≤ E.length := by
    have := nodup_len L (E.map Ent.blk) h.ln.nd (fun b hb => by
      obtain ⟨y, hy, q⟩ := h.ln.sub b hb
      exact List.mem_map.2 ⟨y, hy, q⟩)
    simpa using this
  exact Nat.le_trans q1 h.pl.len
/-- What is in a line, at its place. -/
theorem CI.place {B P M rm tn : Nat} {v : Value} {E : List Ent} {L : List Nat} {w : World} (h : CI B P M rm tn v E L w) {e : Ent} (he : e ∈ E) (h0 : e.pins = 0) : ∃ p, p < L.length ∧ L.getD p default = e.blk ∧ w.heap[e.blk]? = some (.cells (kcells e p) 82 (0, 0)) := by
  obtain ⟨p, hp, hq⟩ := h.ln.ent e he
  obtain ⟨i, hi, hib⟩ := List.mem_iff_getElem.1 ((h.lse e he).2 h0)
  have hgi : L.getD i default = e.blk := by rw [List.getD_eq_getElem?_getD, List.getElem?_eq_getElem hi]; exact hib
  obtain rfl : p = i := hq i hi hgi
  exact ⟨p, hi, hgi, hp⟩
/-- Where a map alone has turned. -/
theorem oth_map {M : Nat} {w w' : World} (h : w.grownBy w' (some M)) : Oth (fun g => g = M) w w' := ⟨h.os, h.tape, h.output, h.size, fun g hg hn => h.block g hg (fun e => hn (by injection e))⟩

set_option maxHeartbeats 4000000 in
set_option maxRecDepth 100000 in
theorem drop_any (B P M rm tn : Nat) (E1 E2 : List Ent) (e : Ent) (I : List Nat) (w : World) (h : CS B P M rm tn (E1 ++ e :: E2) I w) (h0 : e.pins = 0) (ht : tn ≤ 10000) :
    Calls Tryd.prog 39 #[kp P, kp e.blk] w fun r w' => r = .returned (.tuple #[]) ∧ ∃ I', CS B P M rm tn (E1 ++ E2) I' w' ∧ Upd I I' w w' := by
  obtain ⟨v, L, h, rfl⟩ := h
  have he : e ∈ E1 ++ e :: E2 := by simp
  obtain ⟨p, hp, hgp, hb⟩ := h.place he h0
  have cpl : w.cell? ⟨e.blk, 4, none⟩ = some (.int .i64 (p : Int)) := by rw [Lib.cell_of_heap hb]; rfl
  have hperm := rem_perm (tlt (E1 ++ e :: E2)) L p hp
  rw [hgp] at hperm
  have hnd : (e.blk :: remH (tlt (E1 ++ e :: E2)) L p).Nodup := hperm.nodup_iff.2 h.ln.nd
  rw [List.nodup_cons] at hnd
  obtain ⟨L2, hL2⟩ : ∃ L2, L2 = remH (tlt (E1 ++ e :: E2)) L p := ⟨_, rfl⟩
  rw [← hL2] at hperm hnd
  have HR : Hid (∀ m, Calls Tryd.prog 43 #[lnI P, .int .i64 (p : Int)] (w.drewN m) fun r w' => (∃ u, r = .returned u) ∧ Hid (∃ v2, Ln B P ⟨rm, byE (E1 ++ e :: E2), piE (E1 ++ e :: E2), tn, M⟩ v2 (E1 ++ e :: E2) L2 w' ∧ Hp (tlt (E1 ++ e :: E2)) L2 L2.length ∧ NewB v v2 w ∧ Oth (LnS P v (E1 ++ e :: E2)) w w')) := fun m => by
    have := HRemove_any B P p _ v _ L (w.drewN m) (h.ln.drewN m) h.hp hp (by have := h.llen; omega)
    rw [← hL2] at this
    exact this.mono fun r w' ⟨q1, v2, q2, q3, q4, q5⟩ => ⟨q1, v2, q2, q3, q4, (Oth.drewN _ _ m).trans q5⟩
  have hfit : byE (E1 ++ e :: E2) ≤ rm := h.pl.fit
  have hrl := h.pl.rl
  have hsz := h.pl.sz e he
  have hbm : byE (E1 ++ e :: E2) = e.tx.size + byE (E1 ++ E2) := byE_mid
  have hpm : piE (E1 ++ e :: E2) = piE (E1 ++ E2) := by rw [piE_mid, if_pos h0, Nat.zero_add]
  obtain ⟨nb, hnb⟩ : ∃ nb, nb = byE (E1 ++ E2) := ⟨_, rfl⟩
  obtain ⟨ob, hob⟩ : ∃ ob, ob = byE (E1 ++ e :: E2) := ⟨_, rfl⟩
  have k1 : (ob : Int) - (e.tx.size : Int) = (nb : Int) := by omega
  have k2 : IntKind.i64.wrap (nb : Int) = (nb : Int) := by rw [IntKind.wrap_i64]; omega
  have hdm := mid_dg h.pl.dn
  have hbm2 := mid_blk h.ln.en
  have HX : Hid (∀ w1, Hid (∃ v2, Ln B P ⟨rm, byE (E1 ++ e :: E2), piE (E1 ++ e :: E2), tn, M⟩ v2 (E1 ++ e :: E2) L2 w1 ∧ Hp (tlt (E1 ++ e :: E2)) L2 L2.length ∧ NewB v v2 w ∧ Oth (LnS P v (E1 ++ e :: E2)) w w1) → w1.cell? ⟨P, 4, none⟩ = some (.map (some M)) ∧ w1.cell? ⟨e.blk, 0, none⟩ = some (.string e.dg) ∧
      ∃ w2, (Builtin.delete_ #[58, 9] 0 #[.map (some M), .string e.dg]).run Tryd.prog w1.drew = .ok (.tuple #[]) w2 ∧ w2.cell? ⟨P, 1, none⟩ = some (.int .i64 (ob : Int)) ∧ w2.cell? ⟨e.blk, 1, none⟩ = some (.string e.tx) ∧ w2.frozen? ⟨P, 1, none⟩ = false ∧
        Hid (∀ m, ∃ I', CS B P M rm tn (E1 ++ E2) I' ((w2.setCell ⟨P, 1, none⟩ (.int .i64 (nb : Int))).drewN m) ∧ Upd (cids P M v (E1 ++ e :: E2)) I' w ((w2.setCell ⟨P, 1, none⟩ (.int .i64 (nb : Int))).drewN m))) := fun w1 hw1 => by
    obtain ⟨v2, q1, q2, q3, q4⟩ := hw1.out
    obtain ⟨p1, hp1, _⟩ := q1.ent e he
    have hM1 : w1.heap[M]? = w.heap[M]? := q4.block M h.mp.lt (fun hh => h.neM M hh rfl)
    obtain ⟨D, m1, m2, m3, m4⟩ := h.mp.keep (w' := w1.drew) hM1
    obtain ⟨w2, r1, r2, r3⟩ := m1.drop lawS Tryd.underlying58 (keyOf_string_mk (s := e.dg) Tryd.underlying9 (by rw [h.pl.dz e he]; decide)) 0
    have hg := oth_map r3.grown
    have hMn : ∀ g, LnS P v2 (E1 ++ e :: E2) g → g ≠ M := by
      have hc : CI B P M rm tn v (E1 ++ e :: E2) L w := h
      obtain ⟨es, clock, hbM, _⟩ := m1
      intro g hg2 eM
      subst eM
      rcases hg2 with rfl | hg2 | ⟨y, hy, hg2⟩
      · rw [show w1.drew.heap[g]? = w1.heap[g]? from rfl, q1.box] at hbM; injection hbM with hbM; cases hbM
      · rcases q1.row.2 with ⟨e2, _⟩ | ⟨g', c', cur, e2, _, hc2, _⟩
        · rw [e2] at hg2; cases hg2
        · rw [e2] at hg2
          have : g' = g := by simpa [Value.ownBlock] using hg2
          subst this
          rw [show w1.drew.heap[g']? = w1.heap[g']? from rfl, hc2] at hbM; injection hbM with hbM; cases hbM
      · obtain ⟨p2, hp2, _⟩ := q1.ent y hy
        rw [hg2, show w1.heap[g]? = w1.drew.heap[g]? from rfl, hbM] at hp2; injection hp2 with hp2; cases hp2
    have hk : ∀ g, LnS P v2 (E1 ++ e :: E2) g → g < w1.heap.size → w2.heap[g]? = w1.heap[g]? := fun g h1 h2 => hg.block g h2 (hMn g h1)
    have hPlt : P < w1.heap.size := (Array.getElem?_eq_some_iff.1 q1.box).1
    have hblt : e.blk < w1.heap.size := (Array.getElem?_eq_some_iff.1 hp1).1
    have hP2 : w2.heap[P]? = some (.cells (scells ⟨rm, byE (E1 ++ e :: E2), piE (E1 ++ e :: E2), tn, M⟩ v2) 62 (0, 0)) := (hk P (.inl rfl) hPlt).trans q1.box
    have hb2 : w2.heap[e.blk]? = some (.cells (kcells e p1) 82 (0, 0)) := (hk e.blk (.inr (.inr ⟨e, he, rfl⟩)) hblt).trans hp1
    refine ⟨q1.c4, by rw [Lib.cell_of_heap hp1]; rfl, w2, r1, by rw [Lib.cell_of_heap hP2, hob]; rfl, by rw [Lib.cell_of_heap hb2]; rfl, Lib.frozen_of_heap hP2 1, fun m => ?_⟩
    obtain ⟨W, hW⟩ : ∃ W, W = (w2.setCell ⟨P, 1, none⟩ (.int .i64 (nb : Int))).drewN m := ⟨_, rfl⟩
    rw [← hW]
    have hWP : W.heap[P]? = some (.cells (scells ⟨rm, byE (E1 ++ E2), piE (E1 ++ E2), tn, M⟩ v2) 62 (0, 0)) := by
      rw [hW]
      show (w2.setCell ⟨P, 1, none⟩ (.int .i64 (nb : Int))).heap[P]? = _
      rw [Go.Joins.block_setCell hP2, sc_set1, hpm, hnb]
    have hWo : ∀ g, g ≠ P → W.heap[g]? = w2.heap[g]? := fun g hgP => by
      rw [hW]
      exact Below.heap_setCell w2 ⟨P, 1, none⟩ _ g hgP
    have hln : Ln B P ⟨rm, byE (E1 ++ E2), piE (E1 ++ E2), tn, M⟩ v2 (E1 ++ E2) L2 W := by
      refine q1.turn hWP (fun g hg2 => (hWo g (fun q => q1.neP (by rw [hg2, q]))).trans (hk g (.inr (.inl hg2)) (q1.row.lt g hg2).2)) (fun y hy => ?_) (fun b2 hbL => ?_) (mid_nodup q1.en)
      · have hy2 : y ∈ E1 ++ e :: E2 := mid_sub.subset hy
        exact ⟨y, hy2, rfl, fun p2 hp2 => ((hWo _ (q1.neB hy2)).trans (hk _ (.inr (.inr ⟨y, hy2, rfl⟩)) (Array.getElem?_eq_some_iff.1 hp2).1)).trans hp2⟩
      · obtain ⟨y, hy, q⟩ := q1.sub b2 hbL
        rcases mid_mem.1 hy with rfl | hy
        · exact absurd (by rw [q]; exact hbL) hnd.1
        · exact ⟨y, hy, q⟩
    have hMW : W.heap[M]? = w2.heap[M]? := hWo M (fun q => hMn P (.inl rfl) q.symm)
    have hsz1 : w.heap.size ≤ w1.heap.size := q4.size
    have ho : Upd (cids P M v (E1 ++ e :: E2)) (cids P M v2 (E1 ++ E2)) w W := by
      refine ⟨?_, ?_, ?_, ?_, fun g hg1 hg2 => ?_, fun g hg1 => ?_⟩
      · rw [hW]; exact hg.os.trans q4.os
      · rw [hW]; exact hg.tape.trans q4.tape
      · rw [hW]; exact hg.output.trans q4.output
      · have : W.heap.size = w2.heap.size := by rw [hW]; simp [World.setCell, World.drewN]
        have h3 := hg.size
        have h4 : w1.drew.heap.size = w1.heap.size := rfl
        omega
      · rw [hWo g (fun q => hg2 (by simp [cids, q]))]
        have h4 : w1.drew.heap.size = w1.heap.size := rfl
        refine (hg.block g (by omega) (fun q => hg2 (by simp [cids, q]))).trans ?_
        exact q4.block g hg1 fun hh => hg2 (ids_of_LnS g hh)
      · simp only [cids, List.mem_cons, List.mem_append] at hg1 ⊢
        rcases hg1 with rfl | rfl | hg1 | hg1
        · exact .inl (.inl rfl)
        · exact .inl (.inr (.inl rfl))
        · rcases q3 g (by simpa using hg1) with hg1 | hg1
          · exact .inl (.inr (.inr (.inl (by simp [hg1]))))
          · exact .inr hg1
        · obtain ⟨y, hy, rfl⟩ := List.mem_map.1 hg1
          exact .inl (.inr (.inr (.inr (List.mem_map.2 ⟨y, mid_sub.subset hy, rfl⟩))))
    refine ⟨_, ⟨v2, L2, ⟨hln, hp_del q2 hnd.1, (MapV.del m1 m2 m3 m4 r2 hdm).keep hMW, h.lo, h.loM, fun y hy => h.loE y (mid_sub.subset hy), fun y hy => ?_, h.pl.gone⟩, rfl⟩, ho⟩
    rw [← h.lse y (mid_sub.subset hy)]
    constructor
    · intro hh
      exact hperm.mem_iff.1 (List.mem_cons_of_mem _ hh)
    · intro hh
      rcases List.mem_cons.1 (hperm.mem_iff.2 hh) with q | q
      · exact absurd q (hbm2 y hy)
      · exact q
  clear h hp hgp hb hperm hnd hL2 hfit hrl hsz hbm hpm hnb hob hdm hbm2 he h0 ht
  generalize hbb : e.blk = b at *
  generalize htx : e.tx = tx at *
  generalize hdg : e.dg = dg at *
  generalize E1 ++ e :: E2 = E at *
  generalize E1 ++ E2 = E' at *
  clear hbb htx hdg e E1 E2
  go_enter Tryd.func39, Tryd.ntmps39
  go_wp2
  go_region_with (go_at_call 43; refine (HR.out 1).mono ?_; rintro r w1 ⟨⟨u, rfl⟩, H1⟩)
  obtain ⟨a1, a2, w2, a3, a4, a5, a6, H2⟩ := HX.out w1 H1
  clear HX HR H1
  go_wp2
  go_region
  go_wp2
  go_region
  all_goals
    go_wp2
    go_end0
    exact ⟨rfl, H2.out 1⟩
end Go.Proofs.YtoceglbdnbnjpaaDoor

/- A text is cloned. -/
namespace Go.Proofs.YtoceglbdnbnjpaaDoor
open Go.RowKit Go.Shelf

/-- The shelf's contract for Clone, laid at this program. -/
def laysCl_ren : Ren := ⟨fun | 316 => 64 | n => n, fun | 9 => 9 | 3 => 3 | 4 => 4 | 37 => 56 | 0 => 0 | 127 => 113 | 5 => 5 | n => n, fun | n => n⟩
theorem laysCl : Go.Proofs.LaysM.n316 Tryd.prog laysCl_ren := {
  mixed := by kernel_rfl
  f316 := Tryd.func64.trans (congrArg some (by kernel_rfl))
  t0 := Tryd.underlying0
  a0 := Tryd.isAgg0
  z0 := Tryd.sizeOf0
  v0 := Tryd.zeroValue0
  t3 := Tryd.underlying3
  a3 := Tryd.isAgg3
  z3 := Tryd.sizeOf3
  v3 := Tryd.zeroValue3
  t4 := Tryd.underlying4
  a4 := Tryd.isAgg4
  z4 := Tryd.sizeOf4
  v4 := Tryd.zeroValue4
  t9 := Tryd.underlying9
  a9 := Tryd.isAgg9
  z9 := Tryd.sizeOf9
  v9 := Tryd.zeroValue9
  t37 := Tryd.underlying56
  a37 := Tryd.isAgg56
  z37 := Tryd.sizeOf56
  v37 := Tryd.zeroValue56
  t127 := Tryd.underlying113
  a127 := Tryd.isAgg113
  z127 := Tryd.sizeOf113
  v127 := Tryd.zeroValue113
  t5 := Tryd.underlying5
  a5 := Tryd.isAgg5
  z5 := Tryd.sizeOf5
  v5 := Tryd.zeroValue5
  i0 := by kernel_rfl
  i3 := by kernel_rfl
  i4 := by kernel_rfl
  i5 := by kernel_rfl
  i9 := by kernel_rfl
  i37 := by kernel_rfl
  i127 := by kernel_rfl }
theorem cloneLite (s : ByteArray) (w : World) (hlim : s.size ≤ 281474976710656) :
    Calls Tryd.prog 64 #[.string s] w fun e w' => e = .returned (.string s) ∧ Below w.heap.size w w' := Any.stringslite_Clone laysCl s w hlim
theorem clone_any (s : ByteArray) (w : World) (hlim : s.size ≤ 281474976710656) :
    Calls Tryd.prog 56 #[.string s] w fun e w' => e = .returned (.string s) ∧ Below w.heap.size w w' := by
  go_enter Tryd.func56, Tryd.ntmps56
  go_wp2_with (go_at_call 64; refine (cloneLite s _ hlim).mono ?_; rintro e w' ⟨rfl, hb⟩)
  go_ret
  exact ⟨rfl, hb⟩
end Go.Proofs.YtoceglbdnbnjpaaDoor

/- A store: a text is kept. -/
namespace Go.Proofs.YtoceglbdnbnjpaaDoor
open Go.RowKit Go.Shelf Go.Maps Go.WideMaps

section
variable {E : List Ent} {e : Ent}
theorem tnE_app {b : Nat} (h : e.blk ≠ b) : tnE (E ++ [e]) b = tnE E b := by
  unfold tnE
  have q1 : (e.blk == b) = false := beq_eq_false_iff_ne.2 h
  simp [List.find?_append, q1]
theorem hp_app {L : List Nat} (h : Hp (tlt E) L L.length) (hn : e.blk ∉ L) : Hp (tlt (E ++ [e])) L L.length := by
  intro k hk hkn
  have hsame : ∀ k, k < L.length → tnE (E ++ [e]) (L.getD k default) = tnE E (L.getD k default) := fun k hk => tnE_app (fun q => hn (q ▸ getD_mem hk))
  have := h k hk hkn
  unfold tlt at this ⊢
  rw [hsame k hkn, hsame _ (by omega)]
  exact this
theorem PlE.kept {rm tn : Nat} (h : PlE rm tn E) (hd : ∀ y ∈ E, y.dg ≠ e.dg) (hz : e.dg.size = 64) (hs : e.tx.size ≤ 100000) (hf : byE E + e.tx.size ≤ rm) (ht : e.turn = tn + 1) (hp : e.pins = 0) : PlE rm (tn + 1) (E ++ [e]) := by
  have hm : ∀ y ∈ E ++ [e], y ∈ E ∨ y = e := fun y hy => by simpa using hy
  refine ⟨?_, ?_, fun y hy => ?_, fun y hy => ?_, fun y hy => ?_, fun y hy => ?_, ?_, h.rl, by rw [byE_snoc]; exact hf⟩
  · refine List.pairwise_append.2 ⟨h.up, by simp, fun a ha b hb => ?_⟩
    rw [List.mem_singleton] at hb
    subst hb
    have := h.tl a ha
    omega
  · refine List.pairwise_append.2 ⟨h.dn, by simp, fun a ha b hb => ?_⟩
    rw [List.mem_singleton] at hb
    subst hb
    exact hd a ha
  · rcases hm y hy with hy | rfl
    · have := h.tl y hy; omega
    · omega
  · rcases hm y hy with hy | rfl
    · exact h.sz y hy
    · exact hs
  · rcases hm y hy with hy | rfl
    · exact h.dz y hy
    · exact hz
  · rcases hm y hy with hy | rfl
    · have := h.pi y hy; omega
    · omega
  · have := h.len
    simp
    omega
end

set_option maxHeartbeats 4000000 in
set_option maxRecDepth 100000 in
theorem keep_any (B P M rm tn : Nat) (E : List Ent) (d tx : ByteArray) (I : List Nat) (w : World) (h : CS B P M rm tn E I w) (hB : B ≤ w.heap.size) (hd : ∀ y ∈ E, y.dg ≠ d) (hz : d.size = 64) (hs : tx.size ≤ 100000) (hf : byE E + tx.size ≤ rm) (ht : tn ≤ 10000) :
    Calls Tryd.prog 40 #[kp P, .string d, .string tx] w fun r w' => r = .returned (.tuple #[]) ∧ ∃ b I', CS B P M rm (tn + 1) (E ++ [⟨d, tx, 0, tn + 1, b⟩]) I' w' ∧ Upd I I' w w' := by
  obtain ⟨v, L, h, rfl⟩ := h
  obtain ⟨V, hV⟩ : ∃ V, V = w.setCell ⟨P, 3, none⟩ (.int .i64 ((tn + 1 : Nat) : Int)) := ⟨_, rfl⟩
  have hVs : V.heap.size = w.heap.size := by rw [hV]; simp [World.setCell]
  have hVP : V.heap[P]? = some (.cells (scells ⟨rm, byE E, piE E, ((tn + 1 : Nat) : Int), M⟩ v) 62 (0, 0)) := by rw [hV, Go.Joins.block_setCell h.ln.box, sc_set3]
  have hVo : ∀ g, g ≠ P → V.heap[g]? = w.heap[g]? := fun g hg => by rw [hV]; exact Below.heap_setCell _ _ _ _ hg
  have hPlt : P < w.heap.size := (Array.getElem?_eq_some_iff.1 h.ln.box).1
  have hrl := h.pl.rl
  have hll := h.llen
  obtain ⟨ob, hob⟩ : ∃ ob, ob = byE E := ⟨_, rfl⟩
  obtain ⟨nb, hnb⟩ : ∃ nb, nb = byE E + tx.size := ⟨_, rfl⟩
  have k1 : (tn : Int) + 1 = ((tn + 1 : Nat) : Int) := by omega
  have k2 : IntKind.i64.wrap ((tn + 1 : Nat) : Int) = ((tn + 1 : Nat) : Int) := by rw [IntKind.wrap_i64]; omega
  have k3 : (ob : Int) + (tx.size : Int) = (nb : Int) := by omega
  have k4 : IntKind.i64.wrap (nb : Int) = (nb : Int) := by rw [IntKind.wrap_i64]; omega
  have HC : Hid (∀ W, Calls Tryd.prog 56 #[.string tx] W fun e w' => e = .returned (.string tx) ∧ Below W.heap.size W w') := fun W => clone_any tx W (by omega)
  have HX : Hid (∀ W1 : World, Below V.heap.size V.drew W1 → (W1.alloc (.cells #[.string d, .string tx, .int .i64 0, .int .i64 ((tn + 1 : Nat) : Int), .int .i64 0] 82)).cell? ⟨P, 4, none⟩ = some (.map (some M)) ∧
      ∃ W3, (Instr.mapUpdate 58 (.map (some M)) (.string d) (kp W1.heap.size)).run Tryd.prog (W1.alloc (.cells #[.string d, .string tx, .int .i64 0, .int .i64 ((tn + 1 : Nat) : Int), .int .i64 0] 82)) = .ok () W3 ∧ W3.cell? ⟨P, 1, none⟩ = some (.int .i64 (ob : Int)) ∧ W3.frozen? ⟨P, 1, none⟩ = false ∧
        Hid (∀ (m : Nat), Calls Tryd.prog 44 #[lnI P, .iface 70 (kp W1.heap.size)] ((W3.setCell ⟨P, 1, none⟩ (.int .i64 (nb : Int))).drewN m) fun r w' => r = .returned (.tuple #[]) ∧ Hid (∃ b I', CS B P M rm (tn + 1) (E ++ [⟨d, tx, 0, tn + 1, b⟩]) I' w' ∧ Upd (cids P M v E) I' w w'))) := fun W1 hb1 => by
    obtain ⟨b, hb⟩ : ∃ b, b = W1.heap.size := ⟨_, rfl⟩
    rw [← hb]
    obtain ⟨e, hee⟩ : ∃ e : Ent, e = ⟨d, tx, 0, tn + 1, b⟩ := ⟨_, rfl⟩
    obtain ⟨W2, hW2⟩ : ∃ W2, W2 = W1.alloc (.cells #[.string d, .string tx, .int .i64 0, .int .i64 ((tn + 1 : Nat) : Int), .int .i64 0] 82) := ⟨_, rfl⟩
    rw [← hW2]
    have hb2 : Below V.heap.size V.drew W2 := by rw [hW2]; exact hb1.alloc hb1.size _
    have hnew : W2.heap[b]? = some (.cells (kcells e 0) 82 (0, 0)) := by rw [hW2, hb, hee]; exact heap_alloc_new W1 _
    have hle : w.heap.size ≤ b := by rw [hb, ← hVs]; exact hb1.size
    have hW2o : ∀ g, g < w.heap.size → g ≠ P → W2.heap[g]? = w.heap[g]? := fun g hg hgP => (hb2.block g (by rw [hVs]; exact hg)).trans (hVo g hgP)
    have hW2P : W2.heap[P]? = some (.cells (scells ⟨rm, byE E, piE E, ((tn + 1 : Nat) : Int), M⟩ v) 62 (0, 0)) := (hb2.block P (by rw [hVs]; exact hPlt)).trans hVP
    have hMP : M ≠ P := fun q => h.neM P (.inl rfl) q.symm
    obtain ⟨D, m1, m2, m3, m4⟩ := h.mp.keep (w' := W2) (hW2o M h.mp.lt hMP)
    have hlen := h.pl.len
    obtain ⟨W3, r1, r2, r3⟩ := m1.store lawS Tryd.underlying58 (by unfold maxLen; omega) (keyOf_string_mk (s := d) Tryd.underlying9 (by rw [hz]; decide)) (show ptrE (kp b) = some (.lit (.int .i64 (b : Int)), []) from rfl)
    have hg := oth_map r3.grown
    have hsz2 : b < W2.heap.size := (Array.getElem?_eq_some_iff.1 hnew).1
    have hW3o : ∀ g, g < W2.heap.size → g ≠ M → W3.heap[g]? = W2.heap[g]? := fun g h1 h2 => hg.block g h1 h2
    have hMlt := h.mp.lt
    have hW3P := (hW3o P (by omega) (Ne.symm hMP)).trans hW2P
    refine ⟨by rw [Lib.cell_of_heap hW2P]; rfl, W3, r1, by rw [Lib.cell_of_heap hW3P, hob]; rfl, Lib.frozen_of_heap hW3P 1, fun m => ?_⟩
    obtain ⟨W, hW⟩ : ∃ W, W = (W3.setCell ⟨P, 1, none⟩ (.int .i64 (nb : Int))).drewN m := ⟨_, rfl⟩
    rw [← hW]
    have hWo : ∀ g, g ≠ P → W.heap[g]? = W3.heap[g]? := fun g hgP => by rw [hW]; exact Below.heap_setCell W3 ⟨P, 1, none⟩ _ g hgP
    have hWs : W.heap.size = W3.heap.size := by rw [hW]; simp [World.setCell, World.drewN]
    have hWP : W.heap[P]? = some (.cells (scells ⟨rm, byE (E ++ [e]), piE (E ++ [e]), ((tn + 1 : Nat) : Int), M⟩ v) 62 (0, 0)) := by
      rw [hW]
      show (W3.setCell ⟨P, 1, none⟩ (.int .i64 (nb : Int))).heap[P]? = _
      rw [Go.Joins.block_setCell hW3P, sc_set1, byE_snoc, piE_snoc, hee, hnb]
      rfl
    have hWold : ∀ g, g < w.heap.size → g ≠ P → g ≠ M → W.heap[g]? = w.heap[g]? := fun g h1 h2 h3 => ((hWo g h2).trans (hW3o g (by omega) h3)).trans (hW2o g h1 h2)
    have hWb : W.heap[b]? = some (.cells (kcells e 0) 82 (0, 0)) := ((hWo b (by omega)).trans (hW3o b hsz2 (by omega))).trans hnew
    have hcase : ∀ y ∈ E ++ [e], y ∈ E ∨ y = e := fun y hy => by simpa using hy
    have heb : e.blk = b := by rw [hee]
    have hbE : ∀ y ∈ E, y.blk < w.heap.size := fun y hy => by
      obtain ⟨p, hp, _⟩ := h.ln.ent y hy
      exact (Array.getElem?_eq_some_iff.1 hp).1
    have hnL : e.blk ∉ L := fun hh => by
      obtain ⟨y, hy, q⟩ := h.ln.sub _ hh
      have := hbE y hy
      omega
    have hln : Ln B P ⟨rm, byE (E ++ [e]), piE (E ++ [e]), ((tn + 1 : Nat) : Int), M⟩ v (E ++ [e]) L W := by
      refine ⟨hWP, own_heap h.ln.row (fun g hg2 => hWold g (h.ln.row.lt g hg2).2 (fun q => h.ln.neP (by rw [hg2, q])) (fun q => h.neM g (.inr (.inl hg2)) q)), fun y hy => ?_, fun x hx => ?_, h.ln.nd, ?_⟩
      · rcases hcase y hy with hy | rfl
        · obtain ⟨p, hp, hq⟩ := h.ln.ent y hy
          exact ⟨p, (hWold _ (hbE y hy) (h.ln.neB hy) (h.neM _ (.inr (.inr ⟨y, hy, rfl⟩)))).trans hp, hq⟩
        · exact ⟨0, by rw [heb]; exact hWb, fun k hk hkk => absurd (by rw [← hkk]; exact getD_mem hk) hnL⟩
      · obtain ⟨y, hy, q⟩ := h.ln.sub x hx
        exact ⟨y, List.mem_append_left _ hy, q⟩
      · rw [List.map_append, List.nodup_append]
        refine ⟨h.ln.en, by simp, fun a ha c hc q => ?_⟩
        obtain ⟨y, hy, rfl⟩ := List.mem_map.1 ha
        have := hbE y hy
        have : c = b := by simpa [heb] using hc
        omega
    have hp2 := HPush_any B P _ v (E ++ [e]) L e W hln (hp_app h.hp hnL) (by simp) hnL (by have := hg.size; have := hb2.size; rw [hWs]; have : V.drew.heap.size = w.heap.size := hVs; omega) (by omega)
    rw [heb] at hp2
    refine hp2.mono fun r w' ⟨q1, v2, L2, q2, q3, q4, q5, q6⟩ => ⟨q1, ?_⟩
    have hsz3 : w.heap.size ≤ W.heap.size := by have := hg.size; have := hb2.size; rw [hWs]; have : V.drew.heap.size = w.heap.size := hVs; omega
    have hbW : b < W.heap.size := (Array.getElem?_eq_some_iff.1 hWb).1
    refine ⟨b, cids P M v2 (E ++ [e]), ?_, ?_⟩
    · rw [← hee]
      refine ⟨v2, L2, ⟨q2, q3, ?_, h.lo, h.loM, fun y hy => ?_, fun y hy => ?_, h.pl.kept (by rw [hee]; exact hd) (by rw [hee]; exact hz) (by rw [hee]; exact hs) (by rw [hee]; exact hf) (by rw [hee]) (by rw [hee])⟩, rfl⟩
      · have hMV : MapV W3 M (E ++ [e]) := MapV.put m1 m2 m3 m4 (by rw [heb, hee]; exact r2) (by rw [hee]; exact hd)
        refine hMV.keep ((q6.block M (by omega) ?_).trans (hWo M hMP))
        rintro (hh | hh | ⟨y, hy, hh⟩)
        · exact hMP hh
        · exact h.neM M (.inr (.inl hh)) rfl
        · rcases hcase y hy with hy | rfl
          · exact h.neM M (.inr (.inr ⟨y, hy, hh⟩)) rfl
          · omega
      · rcases hcase y hy with hy | rfl
        · exact h.loE y hy
        · omega
      · rw [q4.mem_iff]
        rcases hcase y hy with hy | rfl
        · rw [← h.lse y hy]
          have := hbE y hy
          constructor
          · intro hh
            rcases List.mem_cons.1 hh with hh | hh
            · omega
            · exact hh
          · exact fun hh => List.mem_cons_of_mem _ hh
        · exact ⟨fun _ => by rw [hee], fun _ => by rw [heb]; simp⟩
    · refine ⟨?_, ?_, ?_, Nat.le_trans hsz3 q6.size, fun g hg1 hg2 => ?_, fun g hg1 => ?_⟩
      · rw [q6.os, hW]; exact hg.os.trans (hb2.os.trans (by rw [hV]; rfl))
      · rw [q6.tape, hW]; exact hg.tape.trans (hb2.tape.trans (by rw [hV]; rfl))
      · rw [q6.output, hW]; exact hg.output.trans (hb2.output.trans (by rw [hV]; rfl))
      · have hn1 : g ≠ P := fun q => hg2 (by simp [cids, q])
        have hn2 : g ≠ M := fun q => hg2 (by simp [cids, q])
        refine (q6.block g (by omega) ?_).trans (hWold g hg1 hn1 hn2)
        rintro (hh | hh | ⟨y, hy, hh⟩)
        · exact hn1 hh
        · exact hg2 (by simp [cids, hh])
        · rcases hcase y hy with hy | rfl
          · exact hg2 (ids_of_LnS g (.inr (.inr ⟨y, hy, hh⟩)))
          · omega
      · simp only [cids, List.mem_cons, List.mem_append] at hg1 ⊢
        rcases hg1 with rfl | rfl | hg1 | hg1
        · exact .inl (.inl rfl)
        · exact .inl (.inr (.inl rfl))
        · rcases q5 g (by simpa using hg1) with hg1 | hg1
          · exact .inl (.inr (.inr (.inl (by simp [hg1]))))
          · exact .inr (by omega)
        · obtain ⟨y, hy, rfl⟩ := List.mem_map.1 hg1
          rcases hcase y hy with hy | rfl
          · exact .inl (.inr (.inr (.inr (List.mem_map.2 ⟨y, hy, rfl⟩))))
          · exact .inr (by omega)
  have c3 := h.ln.c3
  have f3 := h.ln.fzP 3
  have c3V : V.cell? ⟨P, 3, none⟩ = some (.int .i64 ((tn + 1 : Nat) : Int)) := by rw [Lib.cell_of_heap hVP]; rfl
  have HV3 : Hid (∀ W1 : World, Below V.heap.size V.drew W1 → W1.cell? ⟨P, 3, none⟩ = some (.int .i64 ((tn + 1 : Nat) : Int))) := fun W1 hb => by
    rw [Lib.cell_of_heap ((hb.block P (by rw [hVs]; exact hPlt)).trans hVP)]; rfl
  clear h hd hz hs hf ht hVP hVo hPlt hrl hob hnb hB hll
  generalize hn1 : ((tn + 1 : Nat) : Int) = t1 at *
  clear hn1
  go_enter Tryd.func40, Tryd.ntmps40
  go_wp2
  rw [← hV]
  have c3d : V.drew.cell? ⟨P, 3, none⟩ = some (.int .i64 t1) := c3V
  clear c3 f3 c3V k1 k2 hV hVs
  go_region_held3 (fun W => W.cell? ⟨P, 3, none⟩ = some (.int .i64 t1)) (first | assumption | go_keep) (first
    | (go_at_call 56; refine (HC.out V.drew).mono ?_; rintro e w1 ⟨rfl, hb⟩; have y0 := HV3.out w1 hb; obtain ⟨y1, W3, y2, y3, y4, H4⟩ := HX.out w1 hb)
    | fail)
  all_goals
    go_wp2_with (first
      | (go_at_call 44; refine (H4.out 0).mono ?_; rintro e w5 ⟨rfl, H5⟩)
      | go_in)
    go_end0
    exact ⟨rfl, H5.out⟩
end Go.Proofs.YtoceglbdnbnjpaaDoor

/- A region that draws its order, in which all is still but its end, inside the wide fence. -/
namespace Go.Proofs.YtoceglbdnbnjpaaDoor
open Go.RowKit Go.Shelf

section
variable {P : Program} {ops : Array Oper} {md : Region.Mode} {w : World} {m : Nat} {Q : Exit → Act → World → Prop}
theorem opIn_of_still {i : Nat} {K : Act → World → Prop} {K' : Act → Prop} {a : Act} (hK : ∀ a', K' a' → K a' w) (h : stOp P ops w i K' a) : wpOpIn Fence.wide m P ops Q i K a w := by
  unfold wpOpIn
  cases hi : ops[i]? with
  | none =>
    unfold stOp at h
    simp only [hi] at h
    exact hK a h
  | some o =>
    obtain ⟨v, hy, hk⟩ := yieldsAt_of_stOp hi h
    simp only []
    rcases hy with ⟨hw, hv | ⟨hv, rfl⟩ | ⟨f, args, hv, hc⟩⟩ | ⟨hw, rfl⟩
    · rw [if_pos hw]
      refine ⟨fun _ _ => trivial, ?_⟩
      show o.uponIn Fence.wide m P a K Q ((execOp a.eval o).run P w)
      rw [hv]
      exact hK _ hk
    · rw [if_pos hw]
      refine ⟨fun _ _ => trivial, ?_⟩
      show o.uponIn Fence.wide m P a K Q ((execOp a.eval o).run P w)
      rw [hv]
      exact hK _ hk
    · rw [if_pos hw]
      refine ⟨fun _ _ => trivial, ?_⟩
      show o.uponIn Fence.wide m P a K Q ((execOp a.eval o).run P w)
      rw [hv]
      refine ⟨fun h => (by cases h), (callsIn_wide.2 hc).mono ?_⟩
      rintro e w' ⟨rfl, rfl⟩
      exact hK _ hk
    · rw [if_neg (by rw [hw]; decide)]
      exact ⟨fun _ _ => trivial, hK _ hk⟩
theorem anyIn_of_head {n g : Nat} {L : Array Bool → Act → Prop} (hL : ∀ listed a, L listed a → wpAnyIn Fence.wide m P md ops Q g listed a w) :
    ∀ (f : Nat) (listed : Array Bool) (a : Act), wpAnyL P md ops w n L f listed a → wpAnyIn Fence.wide m P md ops Q (f + g) listed a w
  | 0, listed, a, h => by rw [Nat.zero_add]; exact hL _ _ h
  | f + 1, listed, a, h => by
    rw [show f + 1 + g = (f + g) + 1 by omega]
    exact ⟨fun h0 => absurd h0 h.1, fun i hi => opIn_of_still (fun a' h' => anyIn_of_head hL f _ a' h') (h.2 i hi).2⟩
theorem anyIn_of_seq : ∀ (l : List Oper) (k : Nat) (listed : Array Bool) (a : Act) (w : World), (∀ j, l[j]? = ops[k + j]?) →
    Region.seqB md ops l.length k listed = true → wpListIn Fence.wide m P ops Q l a w → wpAnyIn Fence.wide m P md ops Q l.length listed a w
  | [], _, _, _, _, _, hB, h => ⟨by simpa [Region.seqB] using hB, h⟩
  | o :: l, k, listed, a, w, hl, hB, h => by
    have h0 : ops[k]? = some o := by simpa using (hl 0).symm
    simp only [List.length_cons, Region.seqB, Bool.and_eq_true, decide_eq_true_eq] at hB
    refine ⟨fun h1 => (by rw [hB.1] at h1; cases h1), fun i hi => ?_⟩
    rw [hB.1] at hi
    have hik : i = k := by simpa using hi
    subst hik
    have hw : wpOpIn Fence.wide m P ops Q i (wpListIn Fence.wide m P ops Q l) a w := by unfold wpOpIn; simp only [h0]; exact h
    exact wpOpIn_mono (fun a' w' h' => anyIn_of_seq l (i + 1) _ a' w' (fun j => by have := hl (j + 1); simpa [Nat.add_assoc, Nat.add_comm 1 j] using this) hB.2 h') hw
theorem regionIn_still_tail {id : Nat} {a : Act} {l : List Oper} (n : Nat) (hm : P.follows .mixedOrders = true) (hB : Region.lexTailB .any l.toArray n = true)
    (h : wpStill P l.toArray w.drew (fun a' => wpListIn Fence.wide m P l.toArray Q (l.drop n) a' w.drew) (l.take n) a) : (Code.region id l.toArray true).wpIn Fence.wide m P Q a w := by
  simp only [Region.lexTailB, Bool.and_eq_true, decide_eq_true_eq] at hB
  obtain ⟨⟨⟨⟨hsel, hn⟩, hs⟩, hc⟩, hlex⟩ := hB
  have hn' : n < l.length := by simpa using hn
  have htl : (l.take n).length = n := by simp; omega
  have hdl : (l.drop n).length = l.toArray.size - n := by simp
  have inv0 : HeadInv .any l.toArray n (Array.replicate l.toArray.size false) :=
    ⟨by simp, fun j oj _ hl => (by rw [getD_replicate_false] at hl; cases hl), fun t _ ht => getD_in (by simpa using ht) (getD_replicate_false _ _)⟩
  have H := wpAnyL_lex (md := .any) (g := l.toArray.size - n) hsel hs hc hn (l.take n) 0 _ a (fun j hj => by
    have hj' : j < n := by rw [htl] at hj; exact hj
    simp [hj']) (by simpa using htl) inv0 (by rw [htl]; exact hlex) h
  refine wpIn_region_any hm ?_
  have := anyIn_of_head (Q := Q) (m := m) (g := l.toArray.size - n) (fun listed a' hL => by
    have := anyIn_of_seq (md := .any) (Q := Q) (m := m) (l.drop n) n listed a' w.drew (fun j => by simp [List.getElem?_drop]) (by rw [hdl]; exact hL.1) hL.2
    rwa [hdl] at this) _ _ _ H
  rw [htl, show n + (l.toArray.size - n) = l.toArray.size by omega] at this
  exact this
end
end Go.Proofs.YtoceglbdnbnjpaaDoor

/- Arrays of numbers, as they lie in blocks. -/
namespace Go.Proofs.YtoceglbdnbnjpaaDoor
open Go.RowKit

/-- An array of these numbers. -/
def nums (l : List Int) : List Value := l.map (Value.int .u32)
def arr (l : List Int) : Value := .agg (nums l).toArray
/-- It lies whole in block b, which is of type T. -/
def ArrAt (w : World) (b : Nat) (T : TypeId) (l : List Int) : Prop := w.heap[b]? = some (.cells (nums l).toArray T (0, 0))

theorem ArrAt.set {w : World} {b : Nat} {T : TypeId} {l : List Int} (h : ArrAt w b T l) (k : Nat) (v : Int) : ArrAt (w.setCell ⟨b, k, none⟩ (.int .u32 v)) b T (l.set k v) := by
  have := heap_setCell_same w b k _ T (.int .u32 v) h
  unfold ArrAt nums at *
  rw [this]
  congr 2
  apply Array.toList_inj.1
  simp [List.map_set]
theorem ArrAt.other {w : World} {b b' : Nat} {T : TypeId} {l : List Int} (h : ArrAt w b T l) (k : Nat) (v : Value) (hb : b ≠ b') : ArrAt (w.setCell ⟨b', k, none⟩ v) b T l := by
  unfold ArrAt at *
  rw [Below.heap_setCell w ⟨b', k, none⟩ v b hb]
  exact h
theorem ArrAt.cell {w : World} {b : Nat} {T : TypeId} {l : List Int} (h : ArrAt w b T l) (k : Nat) (hk : k < l.length) : w.cell? ⟨b, k, none⟩ = some (.int .u32 l[k]) := by
  rw [Lib.cell_of_heap h]
  simp [nums, hk]
theorem ArrAt.fro {w : World} {b : Nat} {T : TypeId} {l : List Int} (h : ArrAt w b T l) (k : Nat) : w.frozen? ⟨b, k, none⟩ = false := Lib.frozen_of_heap h k
theorem ArrAt.up {B : Nat} {w w' : World} {b : Nat} {T : TypeId} {l : List Int} (h : ArrAt w b T l) (hb : Below B w w') (hB : b < B) : ArrAt w' b T l := (hb.block b hB).trans h
theorem ArrAt.new (w : World) (T : TypeId) (l : List Int) : ArrAt (w.alloc (.cells (nums l).toArray T)) w.heap.size T l := heap_alloc_new w _

theorem take_set (l : List Int) (k : Nat) (v : Int) (hk : k < l.length) : (l.set k v).take (k + 1) = l.take k ++ [v] := by
  rw [List.take_succ_eq_append_getElem (by simpa using hk), List.getElem_set_self, List.take_set]
  congr 1
  exact List.set_eq_of_length_le (by rw [List.length_take]; omega)
theorem get_take (l m : List Int) (k j : Nat) (h : l.take k = m) (hj : j < k) (hl : j < l.length) : l[j] = m.getD j 0 := by
  rw [← h, List.getD, List.getElem?_take, if_pos hj, List.getElem?_eq_getElem hl]
  rfl

theorem nums_len (l : List Int) : (nums l).length = l.length := by simp [nums]
theorem ArrAt.range {w : World} {b : Nat} {T : TypeId} {l : List Int} (h : ArrAt w b T l) : w.rangeAt b 0 (nums l) := fun j v hv => by
  rw [Nat.zero_add, Lib.cell_of_heap h]
  simpa using hv
theorem ArrAt.there {w : World} {b : Nat} {T : TypeId} {l : List Int} (h : ArrAt w b T l) (n : Nat) (hn : n = l.length) : w.there b 0 n := fun j hj => by
  subst hn
  rw [Nat.zero_add]
  exact ⟨by rw [h.cell j hj]; rfl, h.fro j⟩
theorem nums_one (l : List Int) : (nums l).toArray.all (·.oneCell') = true := all_oneCell_toArray fun v hv => by
  obtain ⟨n, _, rfl⟩ := List.mem_map.1 hv
  rfl
theorem results_one {fn : Func} {p : Tmp} {ty : TypeId} {P : Program} {b : Nat} {v : Value} (h : fn.results = #[.cell p ty]) (tmps : Array Value) (w : World) (hp : tmps.getD p undef = .pointer (some ⟨b, 0, none⟩)) (hl : (loadVar ty ⟨b, 0, none⟩).run P w = .ok v w) : (results fn tmps).run P w = .ok v w := by
  have hp2 : tmps[p]?.getD undef = .pointer (some ⟨b, 0, none⟩) := by simpa using hp
  simp [results, h, hp2, hl, asAddr]
theorem below_setCells {B b : Nat} (hb : B ≤ b) : ∀ (vs : List Value) (o : Nat) {w w' : World}, Below B w w' → Below B w (w'.setCells b o vs)
  | [], _, _, _, h => h
  | v :: vs, o, _, _, h => below_setCells hb vs (o + 1) (h.setCell (p := ⟨b, o, none⟩) hb v)
theorem wpList_store_any {P : Program} {ops : Array Oper} {rest : List Oper} {op : Oper} {a : Act} {w : World} {Q : Exit → Act → World → Prop} (hgd : op.guard = none) (ty : TypeId) (x y : Operand) (ho : op.op = .store ty x y)
    (b o : Nat) (cells : Array Value) (hx : a.eval x = .pointer (some ⟨b, o, none⟩)) (hy : a.eval y = .agg cells)
    (ht : w.there b o cells.size) (hi : (P.info? ty).map (·.size) = some cells.size) (h1 : cells.all (·.oneCell') = true) (F : World → Prop) (hF : F (w.setCells b o cells.toList))
    (h : ∀ W, F W → wpList P ops Q rest (a.put op.dst undef) W) : wpList P ops Q (op :: rest) a w :=
  wpList_store_mid hgd ty x y ho b o cells hx hy ht hi h1 (h _ hF)
end Go.Proofs.YtoceglbdnbnjpaaDoor

/- The digest's own sum: what each step of it does. -/
namespace Go.Proofs.YtoceglbdnbnjpaaDoor
open Go.RowKit

def rotR (x : Int) (n : Nat) : Int := bits .or .u32 (IntKind.u32.wrap (x * 2 ^ (32 - n))) (x / 2 ^ n)

theorem rot_and : ∀ n : Nat, n < 32 → 1 ≤ n → bits .and .u64 (IntKind.u64.wrap (-(n : Int))) 31 = ((32 - n : Nat) : Int) := by decide

set_option maxHeartbeats 1000000 in
theorem rl_any (x : Int) (n : Nat) (w : World) (h1 : 1 ≤ n) (h2 : n ≤ 31) :
    Calls Tryd.prog 67 #[.int .u32 x, .int .i64 (-(n : Int))] w fun e w' => e = .returned (.int .u32 (rotR x n)) ∧ w' = w := by
  have hb := rot_and n (by omega) h1
  obtain ⟨m, hm⟩ : ∃ m, m = 32 - n := ⟨_, rfl⟩
  rw [← hm] at hb
  have hs1 : Op.shift .shl .u32 x .u64 (m : Int) = pure (.int .u32 (IntKind.u32.wrap (x * 2 ^ m))) := by
    rw [shift_shl _ _ _ _ (by omega) (by show (m : Int) ≤ 32; omega)]
    rfl
  have hs2 : Op.shift .shr .u32 x .u64 (n : Int) = pure (.int .u32 (x / 2 ^ n)) := by
    rw [shift_shr _ _ _ _ (by omega) (by show (n : Int) ≤ 32; omega)]
    rfl
  have hw : IntKind.u64.wrap (32 - (m : Int)) = n := by rw [IntKind.wrap_u64]; omega
  have HR : Hid (rotR x n = bits .or .u32 (IntKind.u32.wrap (x * 2 ^ m)) (x / 2 ^ n)) := by show _ = _; unfold rotR; rw [hm]
  clear hm h1 h2
  go_enter Tryd.func67, Tryd.ntmps67
  go_wp2
  go_ret
  exact ⟨by rw [HR.out]; rfl, rfl⟩

set_option maxHeartbeats 1000000 in
theorem turned_any (x : Int) (n : Nat) (w : World) (h1 : 1 ≤ n) (h2 : n ≤ 31) :
    Calls Tryd.prog 63 #[.int .u32 x, .int .i64 n] w fun e w' => e = .returned (.int .u32 (rotR x n)) ∧ w' = w := by
  have hw : IntKind.i64.wrap (-(n : Int)) = -(n : Int) := by rw [IntKind.wrap_i64]; omega
  go_enter Tryd.func63, Tryd.ntmps63
  go_wp2_with fail
  refine (rl_any x n w h1 h2).mono ?_
  rintro e w1 ⟨rfl, rfl⟩
  go_wp2
  go_ret
  exact ⟨rfl, rfl⟩

theorem below8 {B b : Nat} {w w' : World} (h : Below B w w') (hb : B ≤ b) (v0 v1 v2 v3 v4 v5 v6 v7 : Value) : Below B w ((((((((w'.setCell ⟨b, 0, none⟩ v0).setCell ⟨b, 1, none⟩ v1).setCell ⟨b, 2, none⟩ v2).setCell ⟨b, 3, none⟩ v3).setCell ⟨b, 4, none⟩ v4).setCell ⟨b, 5, none⟩ v5).setCell ⟨b, 6, none⟩ v6).setCell ⟨b, 7, none⟩ v7) :=
  (((((((h.setCell (p := ⟨b, 0, none⟩) hb _).setCell (p := ⟨b, 1, none⟩) hb _).setCell (p := ⟨b, 2, none⟩) hb _).setCell (p := ⟨b, 3, none⟩) hb _).setCell (p := ⟨b, 4, none⟩) hb _).setCell (p := ⟨b, 5, none⟩) hb _).setCell (p := ⟨b, 6, none⟩) hb _).setCell (p := ⟨b, 7, none⟩) hb _
theorem eight {l : List Int} (h : l.length = 8) : ∃ a0 a1 a2 a3 a4 a5 a6 a7, l = [a0, a1, a2, a3, a4, a5, a6, a7] := by
  match l, h with
  | [a0, a1, a2, a3, a4, a5, a6, a7], _ => exact ⟨a0, a1, a2, a3, a4, a5, a6, a7, rfl⟩

/-- The numbers of a variable of the program lie where they were laid. -/
def LaidAt (g : Nat) (w : World) (l : List Int) : Prop := ∀ j (hj : j < l.length), w.cell? ⟨g, j, none⟩ = some (.int .u32 l[j])
theorem LaidAt.up {g B : Nat} {w w' : World} {l : List Int} (h : LaidAt g w l) (hb : Below B w w') (hB : g < B) : LaidAt g w' l := fun j hj => (hb.cell (p := ⟨g, j, none⟩) hB).trans (h j hj)

set_option maxHeartbeats 4000000 in
set_option maxRecDepth 100000 in
theorem newState_any (w : World) (sq : List Int) (hl : sq.length = 8) (hg : LaidAt 0 w sq) :
    Calls Tryd.prog 47 #[] w fun e w' => e = .returned (arr sq) ∧ Below w.heap.size w w' := by
  have hz : 0 < w.heap.size := World.block_lt_of_cell? w ⟨0, 0, none⟩ (hg 0 (by omega))
  have HG : Hid _ := hg
  clear hg
  go_enter Tryd.func47, Tryd.ntmps47
  go_wp2
  go_loopw [3] (fun i wr => ∃ (k : Nat) (l : List Int), k ≤ 8 ∧ i = .int .i64 k ∧ l.length = 8 ∧ (∀ j (hj : j < sq.length) (hj' : j < l.length), j < k → l[j] = sq[j]) ∧ ArrAt wr (w.heap.size + 1) 90 l ∧ ArrAt wr w.heap.size 90 [0, 0, 0, 0, 0, 0, 0, 0] ∧ Below w.heap.size w wr) (fun i _ => 8 - (intOf i).toNat)
  case atStart =>
    refine ⟨0, [0, 0, 0, 0, 0, 0, 0, 0], by omega, rfl, rfl, by omega, ?_, ?_, ((Below.refl _ _).alloc (Nat.le_refl _) _).alloc (by simp) _⟩
    · have := ArrAt.new (w.alloc (.cells #[.int .u32 0, .int .u32 0, .int .u32 0, .int .u32 0, .int .u32 0, .int .u32 0, .int .u32 0, .int .u32 0] 90)) 90 [0, 0, 0, 0, 0, 0, 0, 0]
      rw [World.size_alloc] at this
      exact this
    · exact (ArrAt.new w 90 [0, 0, 0, 0, 0, 0, 0, 0]).up ((Below.refl (w.heap.size + 1) _).alloc (by simp) _) (Nat.lt_succ_self _)
  case round =>
    obtain ⟨k, l, hk, rfl, hll, hlo, hA, hR, hb⟩ := hrel
    have HLO : Hid _ := hlo
    have HA : Hid (ArrAt wr (w.heap.size + 1) 90 l) := hA
    have HR : Hid (ArrAt wr w.heap.size 90 [0, 0, 0, 0, 0, 0, 0, 0]) := hR
    have HB : Hid (Below w.heap.size w wr) := hb
    clear hlo hA hR hb
    by_cases hlt : k < 8
    · have c0 := LaidAt.up HG.out HB.out hz k (by omega)
      have c1 := HA.out.cell k (by omega)
      have c2 := HA.out.fro k
      have i2 : (k : Int) < 8 := by omega
      go_wp2
      refine ⟨⟨k + 1, l.set k sq[k], by omega, by go_num, by simpa using hll, fun j hj hj' hjk => ?_, HA.out.set k _, HR.out.other k _ (by omega), HB.out.setCell (p := ⟨w.heap.size + 1, k, none⟩) (Nat.le_succ _) _⟩, by simp [intOf]; omega⟩
      rw [List.getElem_set]
      by_cases h : k = j
      · subst h; simp
      · rw [if_neg h]
        exact HLO.out j hj (by simpa using hj') (by omega)
    · obtain rfl : k = 8 := by omega
      obtain rfl : l = sq := List.ext_getElem (by omega) fun j h1 h2 => HLO.out j h2 h1 (by omega)
      obtain ⟨a0, a1, a2, a3, a4, a5, a6, a7, rfl⟩ := eight hl
      have c0 := HA.out.cell 0 (by simp)
      have c1 := HA.out.cell 1 (by simp)
      have c2 := HA.out.cell 2 (by simp)
      have c3 := HA.out.cell 3 (by simp)
      have c4 := HA.out.cell 4 (by simp)
      have c5 := HA.out.cell 5 (by simp)
      have c6 := HA.out.cell 6 (by simp)
      have c7 := HA.out.cell 7 (by simp)
      have z0 := HR.out.cell 0 (by decide)
      have f0 := HR.out.fro 0
      have z1 := HR.out.cell 1 (by decide)
      have f1 := HR.out.fro 1
      have z2 := HR.out.cell 2 (by decide)
      have f2 := HR.out.fro 2
      have z3 := HR.out.cell 3 (by decide)
      have f3 := HR.out.fro 3
      have z4 := HR.out.cell 4 (by decide)
      have f4 := HR.out.fro 4
      have z5 := HR.out.cell 5 (by decide)
      have f5 := HR.out.fro 5
      have z6 := HR.out.cell 6 (by decide)
      have f6 := HR.out.fro 6
      have z7 := HR.out.cell 7 (by decide)
      have f7 := HR.out.fro 7
      simp only [List.getElem_cons_zero, List.getElem_cons_succ] at c0 c1 c2 c3 c4 c5 c6 c7 z0 z1 z2 z3 z4 z5 z6 z7
      go_wp2
      refine bodyPost_ret (v := arr [a0, a1, a2, a3, a4, a5, a6, a7]) (by simp [results, Tryd.results47, go_sem, z0, z1, z2, z3, z4, z5, z6, z7, arr, nums]) rfl ⟨rfl, below8 HB.out (Nat.le_refl _) _ _ _ _ _ _ _ _⟩
end Go.Proofs.YtoceglbdnbnjpaaDoor

/- What the digest's own words of a block are. -/
namespace Go.Proofs.YtoceglbdnbnjpaaDoor
open Go.RowKit

def zeros : List Int := List.replicate 64 0
def be4 (c0 c1 c2 c3 : Int) : Int := bits .or .u32 (bits .or .u32 (bits .or .u32 (c0 % 4294967296 * 16777216 % 4294967296) (c1 % 4294967296 * 65536 % 4294967296)) (c2 % 4294967296 * 256 % 4294967296)) (c3 % 4294967296)
def sig0 (x : Int) : Int := bits .xor .u32 (bits .xor .u32 (rotR x 7) (rotR x 18)) (x / 8)
def sig1 (x : Int) : Int := bits .xor .u32 (bits .xor .u32 (rotR x 17) (rotR x 19)) (x / 1024)
def byteAt (s : ByteArray) (k : Nat) : Int := ((s.data.toList.getD k 0).toNat : Int)
/-- The word k, of those ahead of it. -/
def wnext (s : ByteArray) (l : List Int) (k : Nat) : Int :=
  if k < 16 then be4 (byteAt s (4 * k)) (byteAt s (4 * k + 1)) (byteAt s (4 * k + 2)) (byteAt s (4 * k + 3))
  else (l.getD (k - 16) 0 + sig0 (l.getD (k - 15) 0) + l.getD (k - 7) 0 + sig1 (l.getD (k - 2) 0)) % 4294967296
def ws (s : ByteArray) : Nat → List Int
  | 0 => []
  | k + 1 => ws s k ++ [wnext s (ws s k) k]
theorem ws_len (s : ByteArray) (k : Nat) : (ws s k).length = k := by
  induction k with
  | zero => rfl
  | succ k ih => simp [ws, ih]
theorem byteAt_get (s : ByteArray) (k : Nat) (hk : k < s.size) : byteAt s k = (s[k].toNat : Int) := by
  unfold byteAt
  have h : k < s.data.toList.length := by rw [Array.length_toList]; exact hk
  rw [List.getD, List.getElem?_eq_getElem h]
  rfl
theorem info64 : (Tryd.prog.info? 106).map (·.size) = some 64 := by kernel_rfl

set_option maxHeartbeats 4000000 in
set_option maxRecDepth 100000 in
theorem words_any (w : World) (s : ByteArray) (hs : s.size = 64) :
    Calls Tryd.prog 62 #[.string s] w fun e w' => e = .returned (arr (ws s 64)) ∧ Below w.heap.size w w' := by
  have HS : Hid (s.size = 64) := hs
  clear hs
  go_enter Tryd.func62, Tryd.ntmps62
  go_wp2
  go_loopw [10] (fun i wr => ∃ (k : Nat) (l : List Int), k ≤ 16 ∧ i = .int .i64 k ∧ l.length = 64 ∧ l.take k = ws s k ∧ ArrAt wr (w.heap.size + 1) 106 l ∧ ArrAt wr w.heap.size 106 zeros ∧ Below w.heap.size w wr) (fun i _ => 16 - (intOf i).toNat)
  case atStart =>
    refine ⟨0, zeros, by omega, rfl, rfl, rfl, ?_, ?_, ((Below.refl _ _).alloc (Nat.le_refl _) _).alloc (by simp) _⟩
    · have := ArrAt.new (w.alloc (.cells (nums zeros).toArray 106)) 106 zeros
      rw [World.size_alloc] at this
      exact this
    · exact (ArrAt.new w 106 zeros).up ((Below.refl (w.heap.size + 1) _).alloc (by simp) _) (Nat.lt_succ_self _)
  case round =>
    obtain ⟨k, l, hk, rfl, hll, htk, hA, hR, hb⟩ := hrel
    have HT : Hid _ := htk
    have HA : Hid (ArrAt wr (w.heap.size + 1) 106 l) := hA
    have HR : Hid (ArrAt wr w.heap.size 106 zeros) := hR
    have HB : Hid (Below w.heap.size w wr) := hb
    clear htk hA hR hb
    by_cases hlt : k < 16
    · have c1 := HA.out.cell k (by omega)
      have c2 := HA.out.fro k
      have i2 : (k : Int) < 16 := by omega
      have j0 : IntKind.i64.wrap (4 * (k : Int)) = 4 * (k : Int) := by rw [IntKind.wrap_i64]; omega
      have j1 : IntKind.i64.wrap (4 * (k : Int) + 1) = 4 * (k : Int) + 1 := by rw [IntKind.wrap_i64]; omega
      have j2 : IntKind.i64.wrap (4 * (k : Int) + 2) = 4 * (k : Int) + 2 := by rw [IntKind.wrap_i64]; omega
      have j3 : IntKind.i64.wrap (4 * (k : Int) + 3) = 4 * (k : Int) + 3 := by rw [IntKind.wrap_i64]; omega
      have b0 : (0 : Int) ≤ 4 * (k : Int) := by omega
      have b1 : (0 : Int) ≤ 4 * (k : Int) + 1 := by omega
      have b2 : (0 : Int) ≤ 4 * (k : Int) + 2 := by omega
      have b3 : (0 : Int) ≤ 4 * (k : Int) + 3 := by omega
      have d0 : 4 * (k : Int) < s.size := by have := HS.out; omega
      have d1 : 4 * (k : Int) + 1 < s.size := by have := HS.out; omega
      have d2 : 4 * (k : Int) + 2 < s.size := by have := HS.out; omega
      have d3 : 4 * (k : Int) + 3 < s.size := by have := HS.out; omega
      have t0 : (4 * (k : Int)).toNat = 4 * k := by omega
      have t1 : (4 * (k : Int) + 1).toNat = 4 * k + 1 := by omega
      have t2 : (4 * (k : Int) + 2).toNat = 4 * k + 2 := by omega
      have t3 : (4 * (k : Int) + 3).toNat = 4 * k + 3 := by omega
      go_wp2
      go_region
      go_wp2
      refine ⟨⟨k + 1, l.set k (wnext s (ws s k) k), by omega, by go_num, by simpa using hll, ?_, ?_, ?_, ?_⟩, by simp [intOf]; omega⟩
      · rw [take_set l k _ (by omega), HT.out]; rfl
      · have hv : wnext s (ws s k) k = be4 (s[4 * k].toNat : Int) (s[4 * k + 1].toNat : Int) (s[4 * k + 2].toNat : Int) (s[4 * k + 3].toNat : Int) := by
          unfold wnext
          rw [if_pos hlt, byteAt_get s _ (by omega), byteAt_get s _ (by omega), byteAt_get s _ (by omega), byteAt_get s _ (by omega)]
        rw [hv]
        exact HA.out.set k _
      · exact HR.out.other k _ (by omega)
      · exact (HB.out.setCell (p := ⟨w.heap.size + 1, k, none⟩) (Nat.le_succ _) _).drew
    · have HK : Hid (k = 16) := by show _ = _; omega
      have i3 : (16 : Int) ≤ (k : Int) := by omega
      go_wp2
      go_loopw [5] (fun i wr => ∃ (k : Nat) (l : List Int), 16 ≤ k ∧ k ≤ 64 ∧ i = .int .i64 k ∧ l.length = 64 ∧ l.take k = ws s k ∧ ArrAt wr (w.heap.size + 1) 106 l ∧ ArrAt wr w.heap.size 106 zeros ∧ Below w.heap.size w wr) (fun i _ => 64 - (intOf i).toNat)
      case atStart => exact ⟨16, l, by omega, by omega, rfl, hll, by have := HT.out; rwa [HK.out] at this, HA.out, HR.out, HB.out⟩
      case round =>
        clear hll HT HA HR HB HK
        obtain ⟨k, l, hk0, hk, rfl, hll, htk, hA, hR, hb⟩ := hrel
        have HT : Hid (l.take k = ws s k) := htk
        have HR : Hid (ArrAt _ w.heap.size 106 zeros) := hR
        have HB : Hid (Below w.heap.size w _) := hb
        have HA : Hid (ArrAt _ (w.heap.size + 1) 106 l) := hA
        clear htk hA hR hb
        by_cases hlt : k < 64
        · have i2 : (k : Int) < 64 := by omega
          have c0 := HA.out.cell k (by omega)
          have f0 := HA.out.fro k
          have c1 := HA.out.cell (k - 15) (by omega)
          have c2 := HA.out.cell (k - 2) (by omega)
          have c3 := HA.out.cell (k - 16) (by omega)
          have c4 := HA.out.cell (k - 7) (by omega)
          rw [get_take l _ k _ HT.out (by omega)] at c1 c2 c3 c4
          have j1 : IntKind.i64.wrap ((k : Int) - 15) = (k : Int) - 15 := by rw [IntKind.wrap_i64]; omega
          have j2 : IntKind.i64.wrap ((k : Int) - 2) = (k : Int) - 2 := by rw [IntKind.wrap_i64]; omega
          have j3 : IntKind.i64.wrap ((k : Int) - 16) = (k : Int) - 16 := by rw [IntKind.wrap_i64]; omega
          have j4 : IntKind.i64.wrap ((k : Int) - 7) = (k : Int) - 7 := by rw [IntKind.wrap_i64]; omega
          have b1 : (0 : Int) ≤ (k : Int) - 15 := by omega
          have b2 : (0 : Int) ≤ (k : Int) - 2 := by omega
          have b3 : (0 : Int) ≤ (k : Int) - 16 := by omega
          have b4 : (0 : Int) ≤ (k : Int) - 7 := by omega
          have d1 : (k : Int) - 15 < 64 := by omega
          have d2 : (k : Int) - 2 < 64 := by omega
          have d3 : (k : Int) - 16 < 64 := by omega
          have d4 : (k : Int) - 7 < 64 := by omega
          have t1 : ((k : Int) - 15).toNat = k - 15 := by omega
          have t2 : ((k : Int) - 2).toNat = k - 2 := by omega
          have t3 : ((k : Int) - 16).toNat = k - 16 := by omega
          have t4 : ((k : Int) - 7).toNat = k - 7 := by omega
          generalize hx1 : (ws s k).getD (k - 15) 0 = x1 at c1
          generalize hx2 : (ws s k).getD (k - 2) 0 = x2 at c2
          generalize hx3 : (ws s k).getD (k - 16) 0 = x3 at c3
          generalize hx4 : (ws s k).getD (k - 7) 0 = x4 at c4
          have HV : Hid (wnext s (ws s k) k = (x3 + sig0 x1 + x4 + sig1 x2) % 4294967296) := by
            show _ = _
            unfold wnext
            rw [if_neg (by omega), hx1, hx2, hx3, hx4]
          clear hx1 hx2 hx3 hx4
          go_wp2
          go_region
          go_wp2_with fail
          refine (turned_any x1 7 _ (by decide) (by decide)).mono ?_
          rintro e w1 ⟨rfl, rfl⟩
          go_wp2_with fail
          refine (turned_any x1 18 _ (by decide) (by decide)).mono ?_
          rintro e w1 ⟨rfl, rfl⟩
          go_wp2_with fail
          refine (turned_any x2 17 _ (by decide) (by decide)).mono ?_
          rintro e w1 ⟨rfl, rfl⟩
          go_wp2_with fail
          refine (turned_any x2 19 _ (by decide) (by decide)).mono ?_
          rintro e w1 ⟨rfl, rfl⟩
          go_wp2
          go_region
          go_wp2
          refine ⟨⟨k + 1, l.set k (wnext s (ws s k) k), by omega, by omega, by go_num, by simpa using hll, ?_, ?_, ?_, ?_⟩, by simp [intOf]; omega⟩
          · rw [take_set l k _ (by omega), HT.out]; rfl
          · rw [HV.out]
            exact HA.out.set k _
          · exact HR.out.other k _ (by omega)
          · exact (HB.out.setCell (p := ⟨w.heap.size + 1, k, none⟩) (Nat.le_succ _) _).drew.drew
        · obtain rfl : k = 64 := by omega
          have HL : Hid (l = ws s 64) := by show _ = _; rw [← HT.out, List.take_of_length_le (by omega)]
          have hth := HR.out.there 64 rfl
          have HB6 : Hid (Below w.heap.size w (wr.setCells w.heap.size 0 (nums l))) := below_setCells (Nat.le_refl _) _ _ HB.out
          have hrs : (loadVar 106 ⟨w.heap.size, 0, none⟩).run Tryd.prog (wr.setCells w.heap.size 0 (nums l)) = .ok (.agg (nums l).toArray) (wr.setCells w.heap.size 0 (nums l)) :=
            run_loadVar_mid _ w.heap.size 0 106 (nums l) _ (World.rangeAt_setCells_same _ _ _ _ (HR.out.there _ (by rw [nums_len, hll]; rfl))) Tryd.underlying106 rfl (by rw [info64, nums_len, hll])
          have HTH : Hid (wr.there w.heap.size 0 64) := hth
          have HRS : Hid _ := hrs
          have HI : Hid ((Tryd.prog.info? 106).map (·.size) = some (nums l).length ∧ (nums l).toArray.size = 64) := ⟨by rw [info64, nums_len, hll], by rw [List.size_toArray, nums_len, hll]⟩
          have HRG : Hid (wr.rangeAt (w.heap.size + 1) 0 (nums l)) := HA.out.range
          have HON : Hid ((nums l).toArray.all (·.oneCell') = true) := nums_one l
          clear hrs hth HA HR HT HB
          generalize hcs : nums l = cs at HB6 HRS HI HRG HON
          have HCS : Hid (nums l = cs) := hcs
          clear hcs
          go_wp2_with (first
            | (refine wpList_load_mid rfl 106 (Operand.tmp 3) rfl (w.heap.size + 1) 0 rfl cs _ HRG.out Tryd.underlying106 rfl HI.out.1 ?_)
            | (refine wpList_store_mid rfl 106 (Operand.tmp 2) (Operand.tmp 88) rfl w.heap.size 0 cs.toArray rfl rfl (by rw [HI.out.2]; exact HTH.out) (by rw [info64, HI.out.2]) HON.out ?_))
          refine bodyPost_ret (v := .agg cs.toArray) (results_one Tryd.results62 _ _ rfl HRS.out) rfl ⟨?_, HB6.out⟩
          rw [← HL.out]
          exact congrArg (fun c : List Value => Ending.returned (.agg c.toArray)) HCS.out.symm
end Go.Proofs.YtoceglbdnbnjpaaDoor

/- An element of an array of eight numbers. -/
namespace Go.Proofs.YtoceglbdnbnjpaaDoor
open Go.RowKit

theorem ix8 (b0 b1 b2 b3 b4 b5 b6 b7 : Int) (j : Nat) (hj : j < 8) (v : Value) (hv : ([.int .u32 b0, .int .u32 b1, .int .u32 b2, .int .u32 b3, .int .u32 b4, .int .u32 b5, .int .u32 b6, .int .u32 b7] : List Value)[j]? = some v) (W : World) : (Instr.index 90 (.agg #[.int .u32 b0, .int .u32 b1, .int .u32 b2, .int .u32 b3, .int .u32 b4, .int .u32 b5, .int .u32 b6, .int .u32 b7]) (.int .i64 j)).run Tryd.prog W = .ok v W := by
  have h1 : (j : Int) < 8 := by omega
  have h2 : (0 : Int) ≤ (j : Int) := by omega
  simp only [Instr.index, asIntOf, Sem.run_bind, Sem.run_pure, Result.andThen_ok, run_underlying Tryd.underlying90]
  rw [if_pos ⟨h2, h1⟩]
  simp [part, Tryd.isAgg89, Tryd.sizeOf89, hv]
end Go.Proofs.YtoceglbdnbnjpaaDoor
