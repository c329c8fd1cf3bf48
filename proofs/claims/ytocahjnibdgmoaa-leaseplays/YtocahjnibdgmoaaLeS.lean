/- A book of leases: it is done, and it is good, or not. -/
import Derived.Test.YtocahjnibdgmoaaLeR
namespace Go.Proofs.Ytocahjnibdgmoaa
open Go.RowKit Go.Shelf Go.Maps Go.WideMaps Go.Sort

section
variable {B Bk M : Nat} {a b c nw : Int} {E E1 E2 : List Ent} {x : Ent} {w : World}

theorem bids_sub {x' : Ent} (h : ∀ g ∈ eids x', g ∈ eids x) : ∀ g ∈ bids Bk M (E1 ++ x' :: E2), g ∈ bids Bk M (E1 ++ x :: E2) := by
  intro g hg
  rw [bids_mid] at hg ⊢
  rcases List.mem_append.1 hg with hg | hg
  · exact List.mem_append_left _ hg
  · rcases List.mem_append.1 hg with hg | hg
    · exact List.mem_append_right _ (List.mem_append_left _ (h g hg))
    · exact List.mem_append_right _ (List.mem_append_right _ hg)
theorem Upd.sub {I I' J : List Nat} {w w' : World} (h : Upd I I' w w') (hs : ∀ g ∈ J, g ∈ I') : Upd I J w w' := ⟨h.os, h.tape, h.output, h.size, h.block, fun g hg => h.new g (hs g hg)⟩

theorem BS.tried (h : BS B Bk M a b c nw (E1 ++ x :: E2) w) (t : Nat) : BS B Bk M a b c nw (E1 ++ { x with tr := t } :: E2) (w.setCell ⟨x.blk, 1, none⟩ (.int .i64 (t : Int))) ∧ Upd (bids Bk M (E1 ++ x :: E2)) (bids Bk M (E1 ++ { x with tr := t } :: E2)) w (w.setCell ⟨x.blk, 1, none⟩ (.int .i64 (t : Int))) := by
  have hj := h.jobs x (by simp)
  have hk : ∀ g, g ≠ x.blk → (w.setCell ⟨x.blk, 1, none⟩ (.int .i64 (t : Int))).heap[g]? = w.heap[g]? := fun g hg => Below.heap_setCell _ _ _ g hg
  have hnd := h.eids_nd
  have hu : Upd (bids Bk M (E1 ++ x :: E2)) (bids Bk M (E1 ++ x :: E2)) w (w.setCell ⟨x.blk, 1, none⟩ (.int .i64 (t : Int))) := Upd.set w _ _ (mem_bids (e := x) (by simp) (by simp [eids]))
  refine ⟨h.setEnt rfl rfl hnd (fun g hg => .inl hg) ⟨hj.lo, ?_, ?_⟩ fun g hgl hgn => hk g fun e => hgn (by simp [eids, e]), hu.sub (bids_sub fun g hg => hg)⟩
  · rw [Go.Joins.block_setCell hj.blk]
    rfl
  · rcases hj.till with h1 | ⟨tb, h1, h2, h3⟩
    · exact .inl h1
    · refine .inr ⟨tb, h1, h2, ownsMap_heap h3 (hk tb fun e => ?_)⟩
      rw [eids, h1] at hnd
      simp [e] at hnd

theorem BS.ended (h : BS B Bk M a b c nw (E1 ++ x :: E2) w) : BS B Bk M a b c nw (E1 ++ ⟨x.nm, x.blk, none, true, x.tr, []⟩ :: E2) ((w.setCell ⟨x.blk, 0, none⟩ (.bool true)).setCell ⟨x.blk, 2, none⟩ (.map none)) ∧ Upd (bids Bk M (E1 ++ x :: E2)) (bids Bk M (E1 ++ ⟨x.nm, x.blk, none, true, x.tr, []⟩ :: E2)) w ((w.setCell ⟨x.blk, 0, none⟩ (.bool true)).setCell ⟨x.blk, 2, none⟩ (.map none)) := by
  have hj := h.jobs x (by simp)
  have hk : ∀ g, g ≠ x.blk → ((w.setCell ⟨x.blk, 0, none⟩ (.bool true)).setCell ⟨x.blk, 2, none⟩ (.map none)).heap[g]? = w.heap[g]? := fun g hg => (Below.heap_setCell _ _ _ g hg).trans (Below.heap_setCell _ _ _ g hg)
  have hin : x.blk ∈ bids Bk M (E1 ++ x :: E2) := mem_bids (e := x) (by simp) (by simp [eids])
  have hu : Upd (bids Bk M (E1 ++ x :: E2)) (bids Bk M (E1 ++ x :: E2)) w ((w.setCell ⟨x.blk, 0, none⟩ (.bool true)).setCell ⟨x.blk, 2, none⟩ (.map none)) := (Upd.set w _ _ hin).trans (Upd.set _ _ _ hin)
  have hsb : ∀ g ∈ eids ⟨x.nm, x.blk, none, true, x.tr, []⟩, g ∈ eids x := fun g hg => by
    have : g = x.blk := by simpa [eids] using hg
    simp [eids, this]
  refine ⟨h.setEnt rfl rfl (by simp [eids]) (fun g hg => .inl (hsb g hg)) ⟨hj.lo, ?_, .inl ⟨rfl, rfl⟩⟩ fun g hgl hgn => hk g fun e => hgn (by simp [eids, e]), hu.sub (bids_sub hsb)⟩
  have h1 := Go.Joins.block_setCell (i := 0) hj.blk (.bool true)
  have h2 := Go.Joins.block_setCell (i := 2) h1 (.map none)
  exact h2

set_option maxHeartbeats 2000000 in
set_option maxRecDepth 100000 in
theorem Done_good {n2 : Int} {I : List Nat} {s : ByteArray} {k now : Int} (hc : Calls Try.prog 36 #[.pointer (some ⟨Bk, 0, none⟩), .string s, .int .i64 k, .int .i64 now] w fun e w' => e = .returned (.tuple #[.pointer (some ⟨x.blk, 0, none⟩), .int .i64 0]) ∧ BS B Bk M a b c n2 (E1 ++ x :: E2) w' ∧ Upd I (bids Bk M (E1 ++ x :: E2)) w w') (hk : (Lit.int .i64 k).wf = true) :
    Calls Try.prog 16 #[.pointer (some ⟨Bk, 0, none⟩), .string s, .int .i64 k, .int .i64 now, .bool true] w fun e w' => e = .returned (.int .i64 0) ∧ ∃ x' : Ent, pl x' = { pl x with dn := true, ts := [] } ∧ x'.nm = x.nm ∧ BS B Bk M a b c n2 (E1 ++ x' :: E2) w' ∧ Upd I (bids Bk M (E1 ++ x' :: E2)) w w' := by
  have HC : Hid (Calls Try.prog 36 #[.pointer (some ⟨Bk, 0, none⟩), .string s, .int .i64 k, .int .i64 now] w fun e w' => e = .returned (.tuple #[.pointer (some ⟨x.blk, 0, none⟩), .int .i64 0]) ∧ Hid (BS B Bk M a b c n2 (E1 ++ x :: E2) w' ∧ Upd I (bids Bk M (E1 ++ x :: E2)) w w')) := hc
  have hd : ∀ (W : World) ty, (Builtin.delete_ #[61, 3] ty #[.map none, .int .i64 k]).run Try.prog W = .ok (.tuple #[]) W := fun W ty => Maps.drop_nil lawI Try.underlying61 (keyOf_int_mk Try.underlying3 hk) ty
  have HX : Hid (∀ w1, BS B Bk M a b c n2 (E1 ++ x :: E2) w1 → w1.heap[x.blk]? = some (.cells #[.bool x.dn, .int .i64 (x.tr : Int), .map x.tb] 63 (0, 0))) := fun w1 hb => (hb.jobs x (by simp)).blk
  clear hc hk
  obtain ⟨J, eJ⟩ : ∃ J, J = x.blk := ⟨_, rfl⟩
  have EJ : Hid (J = x.blk) := eJ
  rw [← eJ] at HC HX
  clear eJ
  go_enter Try.func16, Try.ntmps16
  go_wp2_with (first
    | (go_at_call 36; refine HC.out.mono ?_; rintro e w1 ⟨rfl, R2⟩; have hJ := HX.out _ R2.out.1; have f0 := Lib.frozen_of_heap hJ 0; have c0 : w1.cell? ⟨J, 0, none⟩ = some (.bool x.dn) := (by rw [Lib.cell_of_heap hJ]; rfl); have hJ2 : (w1.setCell ⟨J, 0, none⟩ (.bool true)).heap[J]? = some (.cells #[.bool true, .int .i64 (x.tr : Int), .map x.tb] 63 (0, 0)) := (by rw [Go.Joins.block_setCell hJ]; rfl); have f2 := Lib.frozen_of_heap hJ2 2; have c2 : (w1.setCell ⟨J, 0, none⟩ (.bool true)).cell? ⟨J, 2, none⟩ = some (.map x.tb) := (by rw [Lib.cell_of_heap hJ2]; rfl); have hJ3 : ((w1.setCell ⟨J, 0, none⟩ (.bool true)).setCell ⟨J, 2, none⟩ (.map none)).heap[J]? = some (.cells #[.bool true, .int .i64 (x.tr : Int), .map none] 63 (0, 0)) := (by rw [Go.Joins.block_setCell hJ2]; rfl); have c3 : ((w1.setCell ⟨J, 0, none⟩ (.bool true)).setCell ⟨J, 2, none⟩ (.map none)).cell? ⟨J, 2, none⟩ = some (.map none) := (by rw [Lib.cell_of_heap hJ3]; rfl); clear hJ hJ2 hJ3)
    | go_in)
  go_ret
  obtain ⟨r1, r2⟩ := R2.out.1.ended
  rw [EJ.out]
  exact ⟨rfl, ⟨x.nm, x.blk, none, true, x.tr, []⟩, rfl, rfl, r1, R2.out.2.trans r2⟩

theorem off_mem {k : Int} {l : List (Int × Int)} : ∀ p, p ∈ offT k l ↔ p ∈ l ∧ p.1 ≠ k := fun p => by unfold offT; simp

set_option maxHeartbeats 2000000 in
set_option maxRecDepth 100000 in
theorem Done_bad {n2 : Int} {I : List Nat} {s : ByteArray} {k now : Int} (hc : Calls Try.prog 36 #[.pointer (some ⟨Bk, 0, none⟩), .string s, .int .i64 k, .int .i64 now] w fun e w' => e = .returned (.tuple #[.pointer (some ⟨x.blk, 0, none⟩), .int .i64 0]) ∧ BS B Bk M a b c n2 (E1 ++ x :: E2) w' ∧ Upd I (bids Bk M (E1 ++ x :: E2)) w w') (hk : (Lit.int .i64 k).wf = true) :
    Calls Try.prog 16 #[.pointer (some ⟨Bk, 0, none⟩), .string s, .int .i64 k, .int .i64 now, .bool false] w fun e w' => e = .returned (.int .i64 0) ∧ ∃ x' : Ent, pl x' = { pl x with ts := offT k x.ts } ∧ x'.nm = x.nm ∧ BS B Bk M a b c n2 (E1 ++ x' :: E2) w' ∧ Upd I (bids Bk M (E1 ++ x' :: E2)) w w' := by
  have HC : Hid (Calls Try.prog 36 #[.pointer (some ⟨Bk, 0, none⟩), .string s, .int .i64 k, .int .i64 now] w fun e w' => e = .returned (.tuple #[.pointer (some ⟨x.blk, 0, none⟩), .int .i64 0]) ∧ Hid (BS B Bk M a b c n2 (E1 ++ x :: E2) w' ∧ Upd I (bids Bk M (E1 ++ x :: E2)) w w')) := hc
  have HX : Hid (∀ w1, BS B Bk M a b c n2 (E1 ++ x :: E2) w1 → w1.cell? ⟨x.blk, 2, none⟩ = some (.map x.tb) ∧ ∃ w2, (∀ ty, (Builtin.delete_ #[61, 3] ty #[.map x.tb, .int .i64 k]).run Try.prog w1 = .ok (.tuple #[]) w2) ∧ BS B Bk M a b c n2 (E1 ++ { x with ts := offT k x.ts } :: E2) w2 ∧ Upd (bids Bk M (E1 ++ x :: E2)) (bids Bk M (E1 ++ { x with ts := offT k x.ts } :: E2)) w1 w2) := fun w1 hb => by
    have hj := hb.jobs x (by simp)
    have hnd := hb.eids_nd
    refine ⟨hj.c2, ?_⟩
    have hkey := keyOf_int_mk Try.underlying3 hk
    rcases hj.till with ⟨h1, h2⟩ | ⟨tb, h1, h2, h3⟩
    · have e0 : ({ x with ts := offT k x.ts } : Ent) = x := by
        have : offT k x.ts = x.ts := by rw [h2]; rfl
        rw [this]
      rw [e0, h1]
      exact ⟨w1, fun ty => Maps.drop_nil lawI Try.underlying61 hkey ty, hb, Upd.refl _ _⟩
    · have hne : x.blk ≠ tb := fun e => by
        rw [eids, h1] at hnd
        simp [e] at hnd
      obtain ⟨w2, hrun, r2, r3⟩ := h3.drop lawI Try.underlying61 hkey 0
      rw [del_D] at r2
      have r4 := r3.grown
      have hbs : BS B Bk M a b c n2 (E1 ++ { x with ts := offT k x.ts } :: E2) w2 := by
        refine hb.setEnt rfl rfl hnd (fun g hg => .inl hg) ⟨hj.lo, (r4.block x.blk (hj.lt _ (by simp [eids])).2 (by simp; exact hne)).trans hj.blk, .inr ⟨tb, h1, h2, ?_⟩⟩ ?_
        · have := norm_own r2
          rw [size_D] at this
          exact this
        · intro g hgl hgn
          exact r4.block g hgl fun e1 => hgn (by injection e1 with e1; simp [eids, h1, e1])
      refine ⟨w2, fun ty => ?_, hbs, (Upd.ids r4 (fun j hj => by injection hj with hj; subst hj; exact mem_bids (e := x) (by simp) (by simp [eids, h1])) fun g hg => .inl (bids_sub (x := x) (x' := { x with ts := offT k x.ts }) (fun g hg => hg) g hg))⟩
      rw [h1]
      exact hrun
  clear hc hk
  go_enter Try.func16, Try.ntmps16
  go_wp2_with (first
    | (go_at_call 36; refine HC.out.mono ?_; rintro e w1 ⟨rfl, R2⟩; obtain ⟨c2, w2, hdel, h3⟩ := HX.out _ R2.out.1; have R3 : Hid (BS B Bk M a b c n2 (E1 ++ { x with ts := offT k x.ts } :: E2) w2 ∧ Upd (bids Bk M (E1 ++ x :: E2)) (bids Bk M (E1 ++ { x with ts := offT k x.ts } :: E2)) w1 w2) := h3; clear h3)
    | go_in)
  go_ret
  exact ⟨rfl, { x with ts := offT k x.ts }, rfl, rfl, R3.out.1, R2.out.2.trans R3.out.2⟩
end
end Go.Proofs.Ytocahjnibdgmoaa
