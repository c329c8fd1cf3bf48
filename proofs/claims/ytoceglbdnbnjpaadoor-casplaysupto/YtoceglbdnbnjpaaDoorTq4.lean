/- A store: a new one; a text is got. -/
import Derived.WalkKit
import Derived.Laws.BitsLemmas
import Derived.Test.YtoceglbdnbnjpaaDoorChecked
import Derived.ProofKit
import Derived.WalkLawsBesides
import Derived.Below
import Derived.Deep.RegionHeld3
import Derived.Lib.Strings
import Derived.BigQuiet
import Derived.Deep.AppendLies
import Derived.Test.YtoceglbdnbnjpaaDoorTq3
namespace Go.Proofs.YtoceglbdnbnjpaaDoor
open Go.RowKit Go.Shelf Go.Maps Go.WideMaps

set_option maxHeartbeats 2000000 in
set_option maxRecDepth 100000 in
theorem New_no (r : Int) (w : World) (h : r < 0 ∨ 9007199254740991 < r) : Calls Tryd.prog 7 #[.int .i64 r] w fun e w' => e = .returned (.tuple #[.pointer none, .int .i64 3]) ∧ w' = w := by
  by_cases h1 : r < 0
  · clear h
    go_enter Tryd.func7, Tryd.ntmps7
    go_wp2
    go_ret2
    exact ⟨rfl, rfl⟩
  · have h2 : 9007199254740991 < r := by omega
    clear h
    go_enter Tryd.func7, Tryd.ntmps7
    go_wp2
    go_ret2
    exact ⟨rfl, rfl⟩

/-- How New answers. -/
def NwP (r : Nat) (w : World) (e : Ending) (w' : World) : Prop := ∃ P M I, e = .returned (.tuple #[kp P, .int .i64 0]) ∧ CS w.heap.size P M r 0 [] I w' ∧ Below w.heap.size w w'

set_option maxHeartbeats 2000000 in
set_option maxRecDepth 100000 in
theorem New_yes (r : Nat) (w : World) (h : r ≤ 9007199254740991) :
    Calls Tryd.prog 7 #[.int .i64 (r : Int)] w (NwP r w) := by
  have hmm := @run_makeMap Tryd.prog
  have k1 : ¬ (r : Int) < 0 := by omega
  have k2 : ¬ 9007199254740991 < (r : Int) := by omega
  have HR : Hid (r ≤ 9007199254740991) := h
  clear h
  go_enter Tryd.func7, Tryd.ntmps7
  go_wp2
  go_ret2
  obtain ⟨W, hW⟩ : ∃ W, W = (w.alloc (.map #[] 0)).alloc (.cells #[.int .i64 (r : Int), .int .i64 0, .int .i64 0, .int .i64 0, .map (some w.heap.size), .slice none 0 0] 62) := ⟨_, rfl⟩
  have hb : Below w.heap.size w W := by rw [hW]; exact ((Below.refl _ w).alloc (Nat.le_refl _) _).alloc (by simp) _
  have hm : W.ownsMap Tryd.prog 9 ptrE w.heap.size 0 (.map []) := by rw [hW]; exact (World.ownsMap_made (H := Unit) w Tryd.prog 9 ptrE).alloc _
  have hP : W.heap[w.heap.size + 1]? = some (.cells (scells ⟨r, byE [], piE [], (0 : Nat), w.heap.size⟩ (.slice none 0 0)) 62 (0, 0)) := by
    rw [hW]
    have := heap_alloc_new (w.alloc (.map #[] 0)) (.cells #[.int .i64 (r : Int), .int .i64 0, .int .i64 0, .int .i64 0, .map (some w.heap.size), .slice none 0 0] 62)
    rw [World.size_alloc] at this
    exact this
  rw [← hW]
  refine ⟨w.heap.size + 1, w.heap.size, _, rfl, ⟨.slice none 0 0, [], ⟨⟨hP, World.ownsRow_nil _ _ _ _, fun e he => (by cases he), fun b hb => (by cases hb), List.nodup_nil, List.nodup_nil⟩, fun k _ hk => (by cases hk), ⟨.map [], hm, fun d => ⟨fun q => (by cases q), ?_⟩, fun e he => (by cases he), rfl⟩, by omega, Nat.le_refl _, fun e he => (by cases he), fun e he => (by cases he), ⟨List.Pairwise.nil, List.Pairwise.nil, fun e he => (by cases he), fun e he => (by cases he), fun e he => (by cases he), fun e he => (by cases he), Nat.le_refl _, HR.out, Nat.zero_le _⟩⟩, rfl⟩, hb⟩
  rintro ⟨e, he, _⟩
  cases he

set_option maxHeartbeats 2000000 in
set_option maxRecDepth 100000 in
theorem Get_yes {B P M rm tn : Nat} {E1 E2 : List Ent} {e : Ent} {I : List Nat} {w : World} (h : CS B P M rm tn (E1 ++ e :: E2) I w) (hd : digOk e.dg = true) (ht : tn ≤ 10000) :
    Calls Tryd.prog 17 #[kp P, .string e.dg] w fun r w' => r = .returned (.tuple #[.string e.tx, .int .i64 0]) ∧ ∃ I', CS B P M rm (tn + 1) (usE E1 E2 e tn) I' w' ∧ Upd I I' w w' := by
  have HL : Hid (Calls Tryd.prog 42 #[kp P, .string e.dg] w fun r w' => r = .returned (.tuple #[kp e.blk, .int .i64 0]) ∧ w' = w) := look_yes h (by simp) hd
  have HU : Hid (Calls Tryd.prog 37 #[kp P, kp e.blk] w fun r w' => r = .returned (.tuple #[]) ∧ w'.cell? ⟨e.blk, 1, none⟩ = some (.string e.tx) ∧ Hid (∃ I', CS B P M rm (tn + 1) (usE E1 E2 e tn) I' w' ∧ Upd I I' w w')) := (use_any B P M rm tn E1 E2 e I w h ht).mono fun r w' ⟨q1, I', q2, q3⟩ => by
    refine ⟨q1, ?_, I', q2, q3⟩
    obtain ⟨v, L, h1, _⟩ := q2
    obtain ⟨p, hp, _⟩ := h1.ln.ent { e with turn := tn + 1 } (by unfold usE; simp)
    rw [Lib.cell_of_heap hp]; rfl
  clear h hd ht
  generalize e.dg = d at *
  generalize e.tx = tx at *
  generalize e.blk = b at *
  go_enter Tryd.func17, Tryd.ntmps17
  go_wp2_with (first
    | (go_at_call 42; refine HL.out.mono ?_; rintro r w1 ⟨rfl, rfl⟩)
    | (go_at_call 37; refine HU.out.mono ?_; rintro r w2 ⟨rfl, hc, H2⟩)
    | go_in)
  go_ret2
  exact ⟨rfl, H2.out⟩

set_option maxHeartbeats 2000000 in
set_option maxRecDepth 100000 in
theorem Get_no {P : Nat} {w : World} (d : ByteArray) (k : Int) (hk : ¬ k = 0) (h : Calls Tryd.prog 42 #[kp P, .string d] w fun r w' => r = .returned (.tuple #[.pointer none, .int .i64 k]) ∧ w' = w) :
    Calls Tryd.prog 17 #[kp P, .string d] w fun r w' => r = .returned (.tuple #[.string ⟨#[]⟩, .int .i64 k]) ∧ w' = w := by
  have HL : Hid (Calls Tryd.prog 42 #[kp P, .string d] w fun r w' => r = .returned (.tuple #[.pointer none, .int .i64 k]) ∧ w' = w) := h
  clear h
  go_enter Tryd.func17, Tryd.ntmps17
  go_wp2_with (first
    | (go_at_call 42; refine HL.out.mono ?_; rintro r w1 ⟨rfl, rfl⟩)
    | go_in)
  go_ret2
  exact ⟨rfl, rfl⟩

set_option maxHeartbeats 2000000 in
set_option maxRecDepth 100000 in
theorem Pin_no {P : Nat} {w : World} (d : ByteArray) (k : Int) (hk : ¬ k = 0) (h : Calls Tryd.prog 42 #[kp P, .string d] w fun r w' => r = .returned (.tuple #[.pointer none, .int .i64 k]) ∧ w' = w) :
    Calls Tryd.prog 19 #[kp P, .string d] w fun r w' => r = .returned (.int .i64 k) ∧ w' = w := by
  have HL : Hid (Calls Tryd.prog 42 #[kp P, .string d] w fun r w' => r = .returned (.tuple #[.pointer none, .int .i64 k]) ∧ w' = w) := h
  clear h
  go_enter Tryd.func19, Tryd.ntmps19
  go_wp2_with (first
    | (go_at_call 42; refine HL.out.mono ?_; rintro r w1 ⟨rfl, rfl⟩)
    | go_in)
  go_ret
  exact ⟨rfl, rfl⟩

set_option maxHeartbeats 2000000 in
set_option maxRecDepth 100000 in
theorem Unpin_no {P : Nat} {w : World} (d : ByteArray) (k : Int) (hk : ¬ k = 0) (h : Calls Tryd.prog 42 #[kp P, .string d] w fun r w' => r = .returned (.tuple #[.pointer none, .int .i64 k]) ∧ w' = w) :
    Calls Tryd.prog 20 #[kp P, .string d] w fun r w' => r = .returned (.int .i64 k) ∧ w' = w := by
  have HL : Hid (Calls Tryd.prog 42 #[kp P, .string d] w fun r w' => r = .returned (.tuple #[.pointer none, .int .i64 k]) ∧ w' = w) := h
  clear h
  go_enter Tryd.func20, Tryd.ntmps20
  go_wp2_with (first
    | (go_at_call 42; refine HL.out.mono ?_; rintro r w1 ⟨rfl, rfl⟩)
    | go_in)
  go_ret
  exact ⟨rfl, rfl⟩

set_option maxHeartbeats 2000000 in
set_option maxRecDepth 100000 in
theorem Room_any {B P M rm tn : Nat} {E : List Ent} {I : List Nat} {w : World} (h : CS B P M rm tn E I w) :
    Calls Tryd.prog 23 #[kp P] w fun r w' => r = .returned (.tuple #[.int .i64 (byE E : Int), .int .i64 (E.length : Int)]) ∧ ∃ m, w' = w.drewN m := by
  obtain ⟨v, L, h1, _⟩ := h
  have c4 := h1.ln.c4
  have c1 := h1.ln.c1
  have HI : Hid (Calls Tryd.prog 36 #[kp P] w fun e w' => e = .returned (.bool false) ∧ w' = w) := isNone_any c4
  obtain ⟨D, m1, m2, m3, m4⟩ := h1.mp
  have hlen := fun (W : World) (hW : W.heap = w.heap) => (ownsMap_heap (w' := W) m1 (by rw [hW])).len Tryd.underlying58
  rw [m4] at hlen
  have hl1 := fun ty => hlen w.drew rfl ty
  clear h1 m1 m2 m3 m4 hlen
  generalize byE E = y at *
  generalize E.length = n at *
  go_enter Tryd.func23, Tryd.ntmps23
  go_wp2_with (first
    | (go_at_call 36; refine HI.out.mono ?_; rintro r w1 ⟨rfl, rfl⟩)
    | go_in)
  go_region
  all_goals
    go_wp2
    go_ret2
    exact ⟨rfl, 1, rfl⟩
end Go.Proofs.YtoceglbdnbnjpaaDoor

/- A store: a text is pinned. -/
namespace Go.Proofs.YtoceglbdnbnjpaaDoor
open Go.RowKit Go.Shelf Go.Maps Go.WideMaps

/-- One of them is pinned so often. -/
def piN (E1 E2 : List Ent) (e : Ent) (q : Nat) : List Ent := E1 ++ { e with pins := q } :: E2
section
variable {E1 E2 : List Ent} {e : Ent} {q : Nat}
theorem tnE_pin (b : Nat) : tnE (piN E1 E2 e q) b = tnE (E1 ++ e :: E2) b := by
  unfold tnE piN
  rw [List.find?_append, List.find?_append, List.find?_cons, List.find?_cons]
  cases hb : (e.blk == b) with
  | true => simp only []; cases List.find? (fun e => e.blk == b) E1 <;> rfl
  | false => simp only []
theorem pin_blk : (piN E1 E2 e q).map Ent.blk = (E1 ++ e :: E2).map Ent.blk := by unfold piN; simp
theorem pin_mem {y : Ent} : y ∈ piN E1 E2 e q ↔ y = { e with pins := q } ∨ y ∈ E1 ++ E2 := by unfold piN; exact mid_mem
theorem pin_by : byE (piN E1 E2 e q) = byE (E1 ++ e :: E2) := by unfold piN; rw [byE_mid, byE_mid]
theorem pin_pi : piE (piN E1 E2 e q) = (if q = 0 then 0 else e.tx.size) + piE (E1 ++ E2) := by unfold piN; rw [piE_mid]
theorem hp_pin {L : List Nat} (h : Hp (tlt (E1 ++ e :: E2)) L L.length) : Hp (tlt (piN E1 E2 e q)) L L.length := fun k hk hkn => by
  have := h k hk hkn
  unfold tlt at this ⊢
  rw [tnE_pin, tnE_pin]
  exact this
theorem PlE.pin {rm tn : Nat} (h : PlE rm tn (E1 ++ e :: E2)) (hq : q ≤ 1000000) : PlE rm tn (piN E1 E2 e q) := by
  have hs : ∀ y ∈ E1 ++ E2, y ∈ E1 ++ e :: E2 := fun y hy => mid_sub.subset hy
  have he : e ∈ E1 ++ e :: E2 := by simp
  have hup := h.up
  have hdn := h.dn
  refine ⟨?_, ?_, fun y hy => ?_, fun y hy => ?_, fun y hy => ?_, fun y hy => ?_, ?_, h.rl, by rw [pin_by]; exact h.fit⟩
  · unfold piN
    rw [List.pairwise_append, List.pairwise_cons] at hup ⊢
    refine ⟨hup.1, hup.2.1, fun a ha b hb => ?_⟩
    rcases List.mem_cons.1 hb with rfl | hb
    · exact hup.2.2 a ha e (by simp)
    · exact hup.2.2 a ha b (by simp [hb])
  · unfold piN
    rw [List.pairwise_append, List.pairwise_cons] at hdn ⊢
    refine ⟨hdn.1, hdn.2.1, fun a ha b hb => ?_⟩
    rcases List.mem_cons.1 hb with rfl | hb
    · exact hdn.2.2 a ha e (by simp)
    · exact hdn.2.2 a ha b (by simp [hb])
  · rcases pin_mem.1 hy with rfl | hy
    · exact h.tl e he
    · exact h.tl y (hs y hy)
  · rcases pin_mem.1 hy with rfl | hy
    · exact h.sz e he
    · exact h.sz y (hs y hy)
  · rcases pin_mem.1 hy with rfl | hy
    · exact h.dz e he
    · exact h.dz y (hs y hy)
  · rcases pin_mem.1 hy with rfl | hy
    · exact hq
    · exact h.pi y (hs y hy)
  · have := h.len
    unfold piN
    simp at this ⊢
    omega
end
theorem sc_set2 (x : Sx) (v : Value) (a : Int) : (scells x v).setIfInBounds 2 (.int .i64 a) = scells { x with pn := a } v := by rfl
theorem kc_set2 (e : Ent) (p q : Nat) : (kcells e p).setIfInBounds 2 (.int .i64 (q : Int)) = kcells { e with pins := q } p := by rfl
theorem kc_place {e : Ent} {p p2 : Nat} {w : World} (h1 : w.heap[e.blk]? = some (.cells (kcells e p) 82 (0, 0))) (h2 : w.heap[e.blk]? = some (.cells (kcells e p2) 82 (0, 0))) : p = p2 := by
  rw [h1] at h2
  injection h2 with h2
  injection h2 with h2
  have this : (kcells e p)[4]? = (kcells e p2)[4]? := by rw [h2]
  have e1 : (kcells e p)[4]? = some (.int .i64 (p : Int)) := rfl
  have e2 : (kcells e p2)[4]? = some (.int .i64 (p2 : Int)) := rfl
  rw [e1, e2] at this
  injection this with this
  injection this with _ this
  omega
section
variable {B P : Nat} {x : Sx} {v : Value} {E E1 E2 : List Ent} {e : Ent} {L : List Nat} {w : World}
theorem Ln.setP (h : Ln B P x v E L w) (a : Int) : Ln B P { x with pn := a } v E L (w.setCell ⟨P, 2, none⟩ (.int .i64 a)) := by
  have ho : ∀ g, g ≠ P → (w.setCell ⟨P, 2, none⟩ (.int .i64 a)).heap[g]? = w.heap[g]? := fun g hg => Below.heap_setCell _ _ _ _ hg
  exact h.turn (by rw [Go.Joins.block_setCell h.box, sc_set2]) (fun g hg => ho g (fun q => h.neP (by rw [hg, q]))) (fun y hy => ⟨y, hy, rfl, fun p hp => (ho _ (h.neB hy)).trans hp⟩) h.sub h.en
theorem Ln.setB (h : Ln B P x v (E1 ++ e :: E2) L w) (q : Nat) : Ln B P x v (piN E1 E2 e q) L (w.setCell ⟨e.blk, 2, none⟩ (.int .i64 (q : Int))) := by
  have he : e ∈ E1 ++ e :: E2 := by simp
  have ho : ∀ g, g ≠ e.blk → (w.setCell ⟨e.blk, 2, none⟩ (.int .i64 (q : Int))).heap[g]? = w.heap[g]? := fun g hg => Below.heap_setCell _ _ _ _ hg
  refine h.turn ((ho P (Ne.symm (h.neB he))).trans h.box) (fun g hg => ho g (fun q2 => h.neE he (by rw [hg, q2]))) (fun y hy => ?_) (fun b hb => ?_) (by rw [pin_blk]; exact h.en)
  · rcases pin_mem.1 hy with rfl | hy
    · exact ⟨e, he, rfl, fun p hp => by
        show (w.setCell ⟨e.blk, 2, none⟩ (.int .i64 (q : Int))).heap[e.blk]? = _
        rw [Go.Joins.block_setCell hp, kc_set2]⟩
    · exact ⟨y, mid_sub.subset hy, rfl, fun p hp => (ho _ (mid_blk h.en y hy)).trans hp⟩
  · obtain ⟨y, hy, q2⟩ := h.sub b hb
    rcases mid_mem.1 hy with rfl | hy
    · exact ⟨_, pin_mem.2 (.inl rfl), q2⟩
    · exact ⟨y, pin_mem.2 (.inr hy), q2⟩
theorem MapV.pin {M q : Nat} {w' : World} (h : MapV w M (E1 ++ e :: E2)) (hh : w'.heap[M]? = w.heap[M]?) : MapV w' M (piN E1 E2 e q) :=
  (h.keep hh).perm (by unfold piN; simp) (fun y hy => by
    rcases pin_mem.1 hy with rfl | hy
    · exact ⟨e, by simp, rfl, rfl⟩
    · exact ⟨y, mid_sub.subset hy, rfl, rfl⟩) (fun y hy => by
    rcases mid_mem.1 hy with rfl | hy
    · exact ⟨_, pin_mem.2 (.inl rfl), rfl⟩
    · exact ⟨y, pin_mem.2 (.inr hy), rfl⟩)
theorem LnS_pin {q : Nat} {g : Nat} : LnS P v (piN E1 E2 e q) g ↔ LnS P v (E1 ++ e :: E2) g := by
  unfold LnS
  have : (∃ y ∈ piN E1 E2 e q, y.blk = g) ↔ ∃ y ∈ E1 ++ e :: E2, y.blk = g := by
    rw [← List.mem_map (f := Ent.blk), ← List.mem_map (f := Ent.blk), pin_blk]
  rw [this]
end

set_option maxHeartbeats 4000000 in
set_option maxRecDepth 100000 in
theorem Pin_more {B P M rm tn : Nat} {E1 E2 : List Ent} {e : Ent} {I : List Nat} {w : World} (h : CS B P M rm tn (E1 ++ e :: E2) I w) (hd : digOk e.dg = true) (h0 : e.pins ≠ 0) (hq : e.pins < 1000000) :
    Calls Tryd.prog 19 #[kp P, .string e.dg] w fun r w' => r = .returned (.int .i64 0) ∧ ∃ I', CS B P M rm tn (piN E1 E2 e (e.pins + 1)) I' w' ∧ Upd I I' w w' := by
  have HL : Hid (Calls Tryd.prog 42 #[kp P, .string e.dg] w fun r w' => r = .returned (.tuple #[kp e.blk, .int .i64 0]) ∧ w' = w) := look_yes h (by simp) hd
  obtain ⟨v, L, h1, rfl⟩ := h
  have he : e ∈ E1 ++ e :: E2 := by simp
  obtain ⟨p, hp, _⟩ := h1.ln.ent e he
  have c2 : w.cell? ⟨e.blk, 2, none⟩ = some (.int .i64 (e.pins : Int)) := by rw [Lib.cell_of_heap hp]; rfl
  have f2 : w.frozen? ⟨e.blk, 2, none⟩ = false := Lib.frozen_of_heap hp 2
  have k0 : ¬ (e.pins : Int) = 0 := by omega
  have k1 : (e.pins : Int) + 1 = ((e.pins + 1 : Nat) : Int) := by omega
  have k2 : IntKind.i64.wrap ((e.pins + 1 : Nat) : Int) = ((e.pins + 1 : Nat) : Int) := by rw [IntKind.wrap_i64]; omega
  have hbm2 := mid_blk h1.ln.en
  have HF : Hid (∃ I', CS B P M rm tn (piN E1 E2 e (e.pins + 1)) I' (w.setCell ⟨e.blk, 2, none⟩ (.int .i64 ((e.pins + 1 : Nat) : Int))) ∧ Upd (cids P M v (E1 ++ e :: E2)) I' w (w.setCell ⟨e.blk, 2, none⟩ (.int .i64 ((e.pins + 1 : Nat) : Int)))) := by
    have hln := h1.ln.setB (e.pins + 1)
    have hot : Oth (LnS P v (E1 ++ e :: E2)) w (w.setCell ⟨e.blk, 2, none⟩ (.int .i64 ((e.pins + 1 : Nat) : Int))) := Oth.set w e.blk 2 _ (.inr (.inr ⟨e, he, rfl⟩))
    refine ⟨_, ⟨v, L, ⟨?_, hp_pin h1.hp, h1.mp.pin (hot.block M h1.mp.lt (fun hh => h1.neM M hh rfl)), h1.lo, h1.loM, fun y hy => ?_, fun y hy => ?_, h1.pl.pin (by omega)⟩, rfl⟩, upd_oth hot (NewB.refl _ _) fun y hy => ?_⟩
    · rw [pin_by, pin_pi, if_neg (by omega)]
      rw [piE_mid, if_neg h0] at hln
      exact hln
    · rcases pin_mem.1 hy with rfl | hy
      · exact h1.loE e he
      · exact h1.loE y (mid_sub.subset hy)
    · rcases pin_mem.1 hy with rfl | hy
      · exact ⟨fun hh => absurd ((h1.lse e he).1 hh) h0, fun hh => by simp at hh⟩
      · exact h1.lse y (mid_sub.subset hy)
    · rcases pin_mem.1 hy with rfl | hy
      · exact .inl ⟨e, he, rfl⟩
      · exact .inl ⟨y, mid_sub.subset hy, rfl⟩
  generalize hq1 : piN E1 E2 e (e.pins + 1) = E' at *
  generalize E1 ++ e :: E2 = E at *
  clear h1 hp he hbm2 h0 hq hd hq1
  generalize e.dg = d at *
  generalize e.blk = b at *
  generalize ((e.pins + 1 : Nat) : Int) = t1 at *
  generalize (e.pins : Int) = t2 at *
  go_enter Tryd.func19, Tryd.ntmps19
  go_wp2_with (first
    | (go_at_call 42; refine HL.out.mono ?_; rintro r w1 ⟨rfl, rfl⟩)
    | go_in)
  go_ret
  exact ⟨rfl, HF.out⟩

set_option maxHeartbeats 4000000 in
set_option maxRecDepth 100000 in
theorem Pin_first {B P M rm tn : Nat} {E1 E2 : List Ent} {e : Ent} {I : List Nat} {w : World} (h : CS B P M rm tn (E1 ++ e :: E2) I w) (hd : digOk e.dg = true) (h0 : e.pins = 0) (ht : tn ≤ 10000) :
    Calls Tryd.prog 19 #[kp P, .string e.dg] w fun r w' => r = .returned (.int .i64 0) ∧ ∃ I', CS B P M rm tn (piN E1 E2 e 1) I' w' ∧ Upd I I' w w' := by
  have HL : Hid (Calls Tryd.prog 42 #[kp P, .string e.dg] w fun r w' => r = .returned (.tuple #[kp e.blk, .int .i64 0]) ∧ w' = w) := look_yes h (by simp) hd
  obtain ⟨v, L, h1, rfl⟩ := h
  have he : e ∈ E1 ++ e :: E2 := by simp
  obtain ⟨p, hp, hgp, hb⟩ := h1.place he h0
  have c2 : w.cell? ⟨e.blk, 2, none⟩ = some (.int .i64 0) := by rw [Lib.cell_of_heap hb]; show some (Value.int .i64 (e.pins : Int)) = _; rw [h0]; rfl
  have c4 : w.cell? ⟨e.blk, 4, none⟩ = some (.int .i64 (p : Int)) := by rw [Lib.cell_of_heap hb]; rfl
  have hperm := rem_perm (tlt (E1 ++ e :: E2)) L p hp
  rw [hgp] at hperm
  have hnd : (e.blk :: remH (tlt (E1 ++ e :: E2)) L p).Nodup := hperm.nodup_iff.2 h1.ln.nd
  rw [List.nodup_cons] at hnd
  obtain ⟨L2, hL2⟩ : ∃ L2, L2 = remH (tlt (E1 ++ e :: E2)) L p := ⟨_, rfl⟩
  rw [← hL2] at hperm hnd
  obtain ⟨op, hop⟩ : ∃ op, op = piE (E1 ++ e :: E2) := ⟨_, rfl⟩
  obtain ⟨np, hnp⟩ : ∃ np, np = op + e.tx.size := ⟨_, rfl⟩
  have hfit := h1.pl.fit
  have hrl := h1.pl.rl
  have hpl := piE_le (E1 ++ e :: E2)
  have hsz := h1.pl.sz e he
  have k1 : (op : Int) + (e.tx.size : Int) = (np : Int) := by omega
  have k2 : IntKind.i64.wrap (np : Int) = (np : Int) := by rw [IntKind.wrap_i64]; omega
  have hbm2 := mid_blk h1.ln.en
  have HR : Hid (∀ m, Calls Tryd.prog 43 #[lnI P, .int .i64 (p : Int)] (w.drewN m) fun r w' => (∃ u, r = .returned u) ∧ w'.cell? ⟨P, 2, none⟩ = some (.int .i64 (op : Int)) ∧ w'.cell? ⟨e.blk, 1, none⟩ = some (.string e.tx) ∧ w'.frozen? ⟨P, 2, none⟩ = false ∧ (w'.setCell ⟨P, 2, none⟩ (.int .i64 (np : Int))).cell? ⟨e.blk, 2, none⟩ = some (.int .i64 0) ∧ (w'.setCell ⟨P, 2, none⟩ (.int .i64 (np : Int))).frozen? ⟨e.blk, 2, none⟩ = false ∧
      Hid (∀ k, ∃ I', CS B P M rm tn (piN E1 E2 e 1) I' (((w'.setCell ⟨P, 2, none⟩ (.int .i64 (np : Int))).setCell ⟨e.blk, 2, none⟩ (.int .i64 1)).drewN k) ∧ Upd (cids P M v (E1 ++ e :: E2)) I' w (((w'.setCell ⟨P, 2, none⟩ (.int .i64 (np : Int))).setCell ⟨e.blk, 2, none⟩ (.int .i64 1)).drewN k))) := fun m => by
    have := HRemove_any B P p _ v _ L (w.drewN m) (h1.ln.drewN m) h1.hp hp (by have := h1.llen; omega)
    rw [← hL2] at this
    refine this.mono fun r w' ⟨q1, v2, q2, q3, q4, q5⟩ => ?_
    have hot : Oth (LnS P v (E1 ++ e :: E2)) w w' := (Oth.drewN _ _ m).trans q5
    obtain ⟨p1, hp1, _⟩ := q2.ent e he
    have hbP := q2.neB he
    have hb3 : (w'.setCell ⟨P, 2, none⟩ (.int .i64 (np : Int))).heap[e.blk]? = some (.cells (kcells e p1) 82 (0, 0)) := (Below.heap_setCell _ _ _ _ hbP).trans hp1
    refine ⟨q1, by rw [hop]; exact q2.c2, by rw [Lib.cell_of_heap hp1]; rfl, q2.fzP 2, by rw [Lib.cell_of_heap hb3]; show some (Value.int .i64 (e.pins : Int)) = _; rw [h0]; rfl, Lib.frozen_of_heap hb3 2, fun k => ?_⟩
    have hln := ((q2.setP (np : Int)).setB 1).drewN k
    have hot2 : Oth (LnS P v (E1 ++ e :: E2)) w (((w'.setCell ⟨P, 2, none⟩ (.int .i64 (np : Int))).setCell ⟨e.blk, 2, none⟩ (.int .i64 1)).drewN k) := ((hot.trans (Oth.set _ P 2 _ (.inl rfl))).trans (Oth.set _ e.blk 2 _ (.inr (.inr ⟨e, he, rfl⟩)))).trans (Oth.drewN _ _ k)
    refine ⟨_, ⟨v2, L2, ⟨?_, hp_pin q3, h1.mp.pin (hot2.block M h1.mp.lt (fun hh => h1.neM M hh rfl)), h1.lo, h1.loM, fun y hy => ?_, fun y hy => ?_, h1.pl.pin (by omega)⟩, rfl⟩, upd_oth hot2 q4 fun y hy => ?_⟩
    · rw [pin_by, pin_pi, if_neg (by omega)]
      have e1 : np = e.tx.size + piE (E1 ++ E2) := by rw [hnp, hop, piE_mid, if_pos h0]; omega
      rw [← e1]
      exact hln
    · rcases pin_mem.1 hy with rfl | hy
      · exact h1.loE e he
      · exact h1.loE y (mid_sub.subset hy)
    · rcases pin_mem.1 hy with rfl | hy
      · exact ⟨fun hh => absurd hh hnd.1, fun hh => by simp at hh⟩
      · rw [← h1.lse y (mid_sub.subset hy)]
        constructor
        · intro hh
          exact hperm.mem_iff.1 (List.mem_cons_of_mem _ hh)
        · intro hh
          rcases List.mem_cons.1 (hperm.mem_iff.2 hh) with q | q
          · exact absurd q (hbm2 y hy)
          · exact q
    · rcases pin_mem.1 hy with rfl | hy
      · exact .inl ⟨e, he, rfl⟩
      · exact .inl ⟨y, mid_sub.subset hy, rfl⟩
  generalize hq1 : piN E1 E2 e 1 = E' at *
  generalize E1 ++ e :: E2 = E at *
  clear h1 hp he hbm2 h0 hd hq1 hgp hb hperm hnd hL2 hop hnp hfit hrl hpl hsz ht
  generalize e.dg = d at *
  generalize e.tx = tx at *
  generalize e.blk = b at *
  go_enter Tryd.func19, Tryd.ntmps19
  go_wp2_with (first
    | (go_at_call 42; refine HL.out.mono ?_; rintro r w1 ⟨rfl, rfl⟩)
    | go_in)
  go_region_with (go_at_call 43; refine (HR.out 1).mono ?_; rintro r w1 ⟨⟨u, rfl⟩, a1, a2, a3, a4, a5, H1⟩)
  go_wp2
  go_region
  all_goals
    go_wp2
    go_ret
    exact ⟨rfl, H1.out 1⟩
end Go.Proofs.YtoceglbdnbnjpaaDoor

/- A store: a text is unpinned. -/
namespace Go.Proofs.YtoceglbdnbnjpaaDoor
open Go.RowKit Go.Shelf Go.Maps Go.WideMaps

set_option maxHeartbeats 4000000 in
set_option maxRecDepth 100000 in
theorem Unpin_none {B P M rm tn : Nat} {E1 E2 : List Ent} {e : Ent} {I : List Nat} {w : World} (h : CS B P M rm tn (E1 ++ e :: E2) I w) (hd : digOk e.dg = true) (h0 : e.pins = 0) :
    Calls Tryd.prog 20 #[kp P, .string e.dg] w fun r w' => r = .returned (.int .i64 4) ∧ w' = w := by
  have HL : Hid (Calls Tryd.prog 42 #[kp P, .string e.dg] w fun r w' => r = .returned (.tuple #[kp e.blk, .int .i64 0]) ∧ w' = w) := look_yes h (by simp) hd
  obtain ⟨v, L, h1, rfl⟩ := h
  obtain ⟨p, hp, _⟩ := h1.ln.ent e (by simp)
  have c2 : w.cell? ⟨e.blk, 2, none⟩ = some (.int .i64 0) := by rw [Lib.cell_of_heap hp]; show some (Value.int .i64 (e.pins : Int)) = _; rw [h0]; rfl
  clear h1 hp h0 hd
  generalize e.dg = d at *
  generalize e.blk = b at *
  go_enter Tryd.func20, Tryd.ntmps20
  go_wp2_with (first
    | (go_at_call 42; refine HL.out.mono ?_; rintro r w1 ⟨rfl, rfl⟩)
    | go_in)
  go_ret
  exact ⟨rfl, rfl⟩

set_option maxHeartbeats 4000000 in
set_option maxRecDepth 100000 in
theorem Unpin_more {B P M rm tn : Nat} {E1 E2 : List Ent} {e : Ent} {I : List Nat} {w : World} (h : CS B P M rm tn (E1 ++ e :: E2) I w) (hd : digOk e.dg = true) (h0 : 2 ≤ e.pins) :
    Calls Tryd.prog 20 #[kp P, .string e.dg] w fun r w' => r = .returned (.int .i64 0) ∧ ∃ I', CS B P M rm tn (piN E1 E2 e (e.pins - 1)) I' w' ∧ Upd I I' w w' := by
  have HL : Hid (Calls Tryd.prog 42 #[kp P, .string e.dg] w fun r w' => r = .returned (.tuple #[kp e.blk, .int .i64 0]) ∧ w' = w) := look_yes h (by simp) hd
  obtain ⟨v, L, h1, rfl⟩ := h
  have he : e ∈ E1 ++ e :: E2 := by simp
  obtain ⟨p, hp, _⟩ := h1.ln.ent e he
  have hpm := h1.pl.pi e he
  have c2 : w.cell? ⟨e.blk, 2, none⟩ = some (.int .i64 (e.pins : Int)) := by rw [Lib.cell_of_heap hp]; rfl
  have f2 : w.frozen? ⟨e.blk, 2, none⟩ = false := Lib.frozen_of_heap hp 2
  have k0 : ¬ (e.pins : Int) = 0 := by omega
  have k3 : ¬ ((e.pins - 1 : Nat) : Int) = 0 := by omega
  have k1 : (e.pins : Int) - 1 = ((e.pins - 1 : Nat) : Int) := by omega
  have k2 : IntKind.i64.wrap ((e.pins - 1 : Nat) : Int) = ((e.pins - 1 : Nat) : Int) := by rw [IntKind.wrap_i64]; omega
  have c3 : (w.setCell ⟨e.blk, 2, none⟩ (.int .i64 ((e.pins - 1 : Nat) : Int))).cell? ⟨e.blk, 2, none⟩ = some (.int .i64 ((e.pins - 1 : Nat) : Int)) := World.cell?_setCell_same _ _ _ c2
  have HF : Hid (∃ I', CS B P M rm tn (piN E1 E2 e (e.pins - 1)) I' (w.setCell ⟨e.blk, 2, none⟩ (.int .i64 ((e.pins - 1 : Nat) : Int))) ∧ Upd (cids P M v (E1 ++ e :: E2)) I' w (w.setCell ⟨e.blk, 2, none⟩ (.int .i64 ((e.pins - 1 : Nat) : Int)))) := by
    have hln := h1.ln.setB (e.pins - 1)
    have hot : Oth (LnS P v (E1 ++ e :: E2)) w (w.setCell ⟨e.blk, 2, none⟩ (.int .i64 ((e.pins - 1 : Nat) : Int))) := Oth.set w e.blk 2 _ (.inr (.inr ⟨e, he, rfl⟩))
    refine ⟨_, ⟨v, L, ⟨?_, hp_pin h1.hp, h1.mp.pin (hot.block M h1.mp.lt (fun hh => h1.neM M hh rfl)), h1.lo, h1.loM, fun y hy => ?_, fun y hy => ?_, h1.pl.pin (by omega)⟩, rfl⟩, upd_oth hot (NewB.refl _ _) fun y hy => ?_⟩
    · rw [pin_by, pin_pi, if_neg (by omega)]
      rw [piE_mid, if_neg (by omega)] at hln
      exact hln
    · rcases pin_mem.1 hy with rfl | hy
      · exact h1.loE e he
      · exact h1.loE y (mid_sub.subset hy)
    · rcases pin_mem.1 hy with rfl | hy
      · exact ⟨fun hh => absurd ((h1.lse e he).1 hh) (by omega), fun hh => by simp at hh; omega⟩
      · exact h1.lse y (mid_sub.subset hy)
    · rcases pin_mem.1 hy with rfl | hy
      · exact .inl ⟨e, he, rfl⟩
      · exact .inl ⟨y, mid_sub.subset hy, rfl⟩
  generalize hq1 : piN E1 E2 e (e.pins - 1) = E' at *
  generalize E1 ++ e :: E2 = E at *
  clear h1 hp he h0 hd hq1 hpm
  generalize e.dg = d at *
  generalize e.blk = b at *
  generalize ((e.pins - 1 : Nat) : Int) = t1 at *
  generalize (e.pins : Int) = t2 at *
  go_enter Tryd.func20, Tryd.ntmps20
  go_wp2_with (first
    | (go_at_call 42; refine HL.out.mono ?_; rintro r w1 ⟨rfl, rfl⟩)
    | go_in)
  go_ret
  exact ⟨rfl, HF.out⟩

set_option maxHeartbeats 4000000 in
set_option maxRecDepth 100000 in
theorem Unpin_last {B P M rm tn : Nat} {E1 E2 : List Ent} {e : Ent} {I : List Nat} {w : World} (h : CS B P M rm tn (E1 ++ e :: E2) I w) (hB : B ≤ w.heap.size) (hd : digOk e.dg = true) (h0 : e.pins = 1) (ht : tn ≤ 10000) :
    Calls Tryd.prog 20 #[kp P, .string e.dg] w fun r w' => r = .returned (.int .i64 0) ∧ ∃ I', CS B P M rm tn (piN E1 E2 e 0) I' w' ∧ Upd I I' w w' := by
  have HL : Hid (Calls Tryd.prog 42 #[kp P, .string e.dg] w fun r w' => r = .returned (.tuple #[kp e.blk, .int .i64 0]) ∧ w' = w) := look_yes h (by simp) hd
  obtain ⟨v, L, h1, rfl⟩ := h
  have he : e ∈ E1 ++ e :: E2 := by simp
  obtain ⟨p, hp, _⟩ := h1.ln.ent e he
  have hni : e.blk ∉ L := fun hh => by have := (h1.lse e he).1 hh; omega
  have c2 : w.cell? ⟨e.blk, 2, none⟩ = some (.int .i64 1) := by rw [Lib.cell_of_heap hp]; show some (Value.int .i64 (e.pins : Int)) = _; rw [h0]; rfl
  have f2 : w.frozen? ⟨e.blk, 2, none⟩ = false := Lib.frozen_of_heap hp 2
  have c3 : (w.setCell ⟨e.blk, 2, none⟩ (.int .i64 0)).cell? ⟨e.blk, 2, none⟩ = some (.int .i64 0) := World.cell?_setCell_same _ _ _ c2
  obtain ⟨op, hop⟩ : ∃ op, op = piE (E1 ++ e :: E2) := ⟨_, rfl⟩
  obtain ⟨np, hnp⟩ : ∃ np, np = piE (E1 ++ E2) := ⟨_, rfl⟩
  have hfit := h1.pl.fit
  have hrl := h1.pl.rl
  have hpl := piE_le (E1 ++ e :: E2)
  have hmid : op = e.tx.size + np := by rw [hop, hnp, piE_mid, if_neg (by omega)]
  have k1 : (op : Int) - (e.tx.size : Int) = (np : Int) := by omega
  have k2 : IntKind.i64.wrap (np : Int) = (np : Int) := by rw [IntKind.wrap_i64]; omega
  have hln : Ln B P ⟨rm, byE (E1 ++ e :: E2), piE (E1 ++ e :: E2), tn, M⟩ v (piN E1 E2 e 0) L (w.setCell ⟨e.blk, 2, none⟩ (.int .i64 0)) := h1.ln.setB 0
  have hot : Oth (LnS P v (E1 ++ e :: E2)) w (w.setCell ⟨e.blk, 2, none⟩ (.int .i64 0)) := Oth.set w e.blk 2 _ (.inr (.inr ⟨e, he, rfl⟩))
  have HR : Hid (Calls Tryd.prog 44 #[lnI P, .iface 70 (kp e.blk)] (w.setCell ⟨e.blk, 2, none⟩ (.int .i64 0)) fun r w' => r = .returned (.tuple #[]) ∧ w'.cell? ⟨P, 2, none⟩ = some (.int .i64 (op : Int)) ∧ w'.cell? ⟨e.blk, 1, none⟩ = some (.string e.tx) ∧ w'.frozen? ⟨P, 2, none⟩ = false ∧
      Hid (∀ k, ∃ I', CS B P M rm tn (piN E1 E2 e 0) I' ((w'.setCell ⟨P, 2, none⟩ (.int .i64 (np : Int))).drewN k) ∧ Upd (cids P M v (E1 ++ e :: E2)) I' w ((w'.setCell ⟨P, 2, none⟩ (.int .i64 (np : Int))).drewN k))) := by
    have := HPush_any B P _ v _ L { e with pins := 0 } _ hln (hp_pin h1.hp) (pin_mem.2 (.inl rfl)) hni (by have := hot.size; omega) (by have := h1.llen; omega)
    refine this.mono fun r w' ⟨q1, v2, L2, q2, q3, q4, q5, q6⟩ => ?_
    obtain ⟨p1, hp1, _⟩ := q2.ent { e with pins := 0 } (pin_mem.2 (.inl rfl))
    refine ⟨q1, by rw [hop]; exact q2.c2, by rw [Lib.cell_of_heap hp1]; rfl, q2.fzP 2, fun k => ?_⟩
    have hln2 := (q2.setP (np : Int)).drewN k
    have hsz : (w.setCell ⟨e.blk, 2, none⟩ (.int .i64 0)).heap.size = w.heap.size := by simp [World.setCell]
    have hot2 : Oth (LnS P v (E1 ++ e :: E2)) w ((w'.setCell ⟨P, 2, none⟩ (.int .i64 (np : Int))).drewN k) := ((hot.trans (q6.mono fun g _ hg => LnS_pin.1 hg)).trans (Oth.set _ P 2 _ (.inl rfl))).trans (Oth.drewN _ _ k)
    have q5' : NewB v v2 w := fun g hg => by
      rcases q5 g hg with hh | hh
      · exact .inl hh
      · exact .inr (by omega)
    refine ⟨_, ⟨v2, L2, ⟨?_, q3, h1.mp.pin (hot2.block M h1.mp.lt (fun hh => h1.neM M hh rfl)), h1.lo, h1.loM, fun y hy => ?_, fun y hy => ?_, h1.pl.pin (by omega)⟩, rfl⟩, upd_oth hot2 q5' fun y hy => ?_⟩
    · rw [pin_by, pin_pi, if_pos rfl, Nat.zero_add, ← hnp]
      exact hln2
    · rcases pin_mem.1 hy with rfl | hy
      · exact h1.loE e he
      · exact h1.loE y (mid_sub.subset hy)
    · rw [q4.mem_iff]
      rcases pin_mem.1 hy with rfl | hy
      · exact ⟨fun _ => rfl, fun _ => by simp⟩
      · rw [← h1.lse y (mid_sub.subset hy)]
        constructor
        · intro hh
          rcases List.mem_cons.1 hh with hh | hh
          · exact absurd hh (mid_blk h1.ln.en y hy)
          · exact hh
        · exact fun hh => List.mem_cons_of_mem _ hh
    · rcases pin_mem.1 hy with rfl | hy
      · exact .inl ⟨e, he, rfl⟩
      · exact .inl ⟨y, mid_sub.subset hy, rfl⟩
  generalize hq1 : piN E1 E2 e 0 = E' at *
  generalize E1 ++ e :: E2 = E at *
  clear h1 hp he h0 hd hq1 hop hnp hfit hrl hpl ht hmid hln hot hni hB
  generalize e.dg = d at *
  generalize e.tx = tx at *
  generalize e.blk = b at *
  go_enter Tryd.func20, Tryd.ntmps20
  go_wp2_with (first
    | (go_at_call 42; refine HL.out.mono ?_; rintro r w1 ⟨rfl, rfl⟩)
    | (go_at_call 44; refine HR.out.mono ?_; rintro r w1 ⟨rfl, a1, a2, a3, H1⟩)
    | go_in)
  go_region
  all_goals
    go_wp2
    go_ret
    exact ⟨rfl, H1.out 1⟩
end Go.Proofs.YtoceglbdnbnjpaaDoor

/- A store: whatever is put; that a store begins as it must. -/
namespace Go.Proofs.YtoceglbdnbnjpaaDoor
open Go.RowKit Go.Shelf Go.Maps Go.WideMaps

/-- What a text that is put comes to. -/
def PutR (rm tn : Nat) (E : List Ent) (tx : ByteArray) (k : Int) (tn' : Nat) (E' : List Ent) : Prop :=
  (k = 2 ∧ tn' = tn ∧ E' = E ∧ (100000 < tx.size ∨ ((∀ y ∈ E, y.dg ≠ smB tx) ∧ rm < piE E + tx.size))) ∨
  (k = 0 ∧ tn' = tn + 1 ∧ tx.size ≤ 100000 ∧ ((∃ E1 e E2, E = E1 ++ e :: E2 ∧ e.dg = smB tx ∧ E' = usE E1 E2 e tn) ∨
    ((∀ y ∈ E, y.dg ≠ smB tx) ∧ piE E + tx.size ≤ rm ∧ ∃ b, E' = gonF rm tx.size E.length E ++ [⟨smB tx, tx, 0, tn + 1, b⟩])))
/-- How it answers. -/
def putS (tx : ByteArray) (k : Int) : ByteArray := if k = 0 then smB tx else ⟨#[]⟩
def PutP (B P M rm tn : Nat) (E : List Ent) (I : List Nat) (tx : ByteArray) (w : World) (r : Ending) (w' : World) : Prop := ∃ k tn' E' I', r = .returned (.tuple #[.string (putS tx k), .int .i64 k]) ∧ CS B P M rm tn' E' I' w' ∧ Upd I I' w w' ∧ PutR rm tn E tx k tn' E'
theorem Put_any {B P M rm tn : Nat} {E : List Ent} {I : List Nat} {w : World} (h : CS B P M rm tn E I w) (hB : B ≤ w.heap.size) (hR : Roots w) (tx : ByteArray) (hs : tx.size ≤ 140737488355328) (ht : tn ≤ 10000) :
    Calls Tryd.prog 14 #[kp P, .string tx] w (PutP B P M rm tn E I tx w) := by
  by_cases hl : tx.size ≤ 100000
  · by_cases hd : ∃ y ∈ E, y.dg = smB tx
    · obtain ⟨e, he, hd⟩ := hd
      obtain ⟨E1, E2, rfl⟩ := List.append_of_mem he
      exact (Put_there h hR tx hd hl ht).mono fun r w' ⟨q1, I', q2, q3⟩ => ⟨0, tn + 1, _, I', q1, q2, q3, .inr ⟨rfl, rfl, hl, .inl ⟨E1, e, E2, rfl, hd, rfl⟩⟩⟩
    · have hd2 : ∀ y ∈ E, y.dg ≠ smB tx := fun y hy q => hd ⟨y, hy, q⟩
      by_cases hp : piE E + tx.size ≤ rm
      · exact (Put_new h hB hR tx hd2 hl hp ht).mono fun r w' ⟨q1, b, I', q2, q3⟩ => ⟨0, tn + 1, _, I', q1, q2, q3, .inr ⟨rfl, rfl, hl, .inr ⟨hd2, hp, b, rfl⟩⟩⟩
      · exact (Put_no h hR tx hd2 hl (by omega)).mono fun r w' ⟨q1, q2⟩ => ⟨2, tn, E, I, q1, h.up q2, Upd.of_below q2, .inl ⟨rfl, rfl, rfl, .inr ⟨hd2, by omega⟩⟩⟩
  · exact (Put_long h tx (by omega) hs).mono fun r w' ⟨q1, q2⟩ => ⟨2, tn, E, I, q1, h.up q2, Upd.of_below q2, .inl ⟨rfl, rfl, rfl, .inl (by omega)⟩⟩
theorem Roots.upd {I I' : List Nat} {w w' : World} (h : Roots w) (hu : Upd I I' w w') {B : Nat} (hI : ∀ g ∈ I, B ≤ g) (hB : 0 < B ∧ 1 < B) : Roots w' := by
  have hl := h.lt
  have hk : ∀ g, g < B → g < w.heap.size → w'.heap[g]? = w.heap[g]? := fun g h1 h2 => hu.block g h2 (fun hh => by have := hI g hh; omega)
  refine ⟨fun j hj => ?_, fun j hj => ?_⟩
  · exact (World.cell?_of_block (w := w) (a := ⟨_, j, none⟩) (hk _ hB.1 hl.1)).trans (h.1 j hj)
  · exact (World.cell?_of_block (w := w) (a := ⟨_, j, none⟩) (hk _ hB.2 hl.2)).trans (h.2 j hj)

set_option maxHeartbeats 2000000 in
set_option maxRecDepth 100000 in
theorem casBegun_any (w : World) (hR : Roots w) : Calls Tryd.prog 6 #[] w fun e w' => e = .returned (.bool true) ∧ Below w.heap.size w w' := by
  obtain ⟨tx, htx⟩ : ∃ tx : ByteArray, tx = ⟨#[107, 101, 112, 116]⟩ := ⟨_, rfl⟩
  have htz : tx.size = 4 := by rw [htx]; rfl
  have HN : Hid (Calls Tryd.prog 7 #[.int .i64 10] w (NwP 10 w)) := New_yes 10 w (by omega)
  have HP : Hid (∀ P M I w1, CS w.heap.size P M 10 0 [] I w1 → Below w.heap.size w w1 → Calls Tryd.prog 14 #[kp P, .string tx] w1 fun r w' => r = .returned (.tuple #[.string (smB tx), .int .i64 0]) ∧ Hid (∃ b I', CS w.heap.size P M 10 1 ([] ++ ⟨smB tx, tx, 0, 1, b⟩ :: []) I' w' ∧ Below w.heap.size w w')) := fun P M I w1 hc hb => by
    refine (Put_new hc hb.size (hR.up hb) tx (fun y hy => by cases hy) (by omega) (by show 0 + tx.size ≤ 10; omega) (by omega)).mono fun r w' ⟨q1, b, I', q2, q3⟩ => ⟨q1, b, I', q2, ?_⟩
    exact hb.trans (q3.below (fun g hg => (hc.lt g hg).1) hb.size)
  have HG : Hid (∀ P M w2, Hid (∃ b I', CS w.heap.size P M 10 1 ([] ++ ⟨smB tx, tx, 0, 1, b⟩ :: []) I' w2 ∧ Below w.heap.size w w2) → Calls Tryd.prog 17 #[kp P, .string (smB tx)] w2 fun r w' => r = .returned (.tuple #[.string tx, .int .i64 0]) ∧ Below w.heap.size w w') := fun P M w2 hh => by
    obtain ⟨b, I', hc, hb⟩ := hh.out
    refine (Get_yes hc (sm_dig tx) (by omega)).mono fun r w' ⟨q1, I2, q2, q3⟩ => ⟨q1, ?_⟩
    exact hb.trans (q3.below (fun g hg => (hc.lt g hg).1) hb.size)
  have hpn : ∀ (P : Nat) (W : World), (binOp BinOp.eql 24 (kp P) (.pointer none)).run Tryd.prog W = .ok (.bool false) W := fun P W => by kernel_rfl
  clear hR htz
  generalize smB tx = d at *
  subst htx
  go_enter Tryd.func6, Tryd.ntmps6
  go_wp2_with (first
    | (go_at_call 7; refine HN.out.mono ?_; rintro r w1 ⟨P, M, I, rfl, hc1, hb1⟩; have hp2 := HP.out P M I w1 hc1 hb1)
    | (go_at_call 14; refine hp2.mono ?_; rintro r w2 ⟨rfl, H2⟩; have hg2 := HG.out P M w2 H2)
    | (go_at_call 17; refine hg2.mono ?_; rintro r w3 ⟨rfl, hb3⟩)
    | go_in)
  go_ret
  exact ⟨rfl, hb3⟩
end Go.Proofs.YtoceglbdnbnjpaaDoor

/- CRC-32 of a list of bytes, as plain numbers, with its laws: no program is named here. -/
namespace Go.Proofs.YtoceglbdnbnjpaaDoor
open Go.RowKit

def sh1 (x : Nat) : Nat := if x % 2 = 1 then (x / 2) ^^^ 3988292384 else x / 2
/-- So many shifts. -/
def shN : Nat → Nat → Nat
  | 0, x => x
  | n + 1, x => sh1 (shN n x)
def crcB (x : Nat) (b : UInt8) : Nat := shN 8 (x ^^^ b.toNat)
/-- The number behind these bytes. -/
def crcS (x : Nat) (l : List UInt8) : Nat := l.foldl crcB x
def crc (l : List UInt8) : Nat := 4294967295 - crcS 4294967295 l

theorem sh1_lt (x : Nat) (h : x < 2 ^ 32) : sh1 x < 2 ^ 32 := by
  unfold sh1
  split
  · exact Nat.xor_lt_two_pow (by omega) (by decide)
  · omega
theorem shN_lt (n x : Nat) (h : x < 2 ^ 32) : shN n x < 2 ^ 32 := by
  induction n with
  | zero => exact h
  | succ n ih => exact sh1_lt _ ih
theorem byte_lt (b : UInt8) : b.toNat < 2 ^ 32 := Nat.lt_trans b.toNat_lt (by decide)
theorem crcB_lt (x : Nat) (b : UInt8) (h : x < 2 ^ 32) : crcB x b < 2 ^ 32 := shN_lt _ _ (Nat.xor_lt_two_pow h (byte_lt b))
theorem crcS_lt (l : List UInt8) : ∀ x : Nat, x < 2 ^ 32 → crcS x l < 2 ^ 32 := by
  induction l with
  | nil => exact fun x h => h
  | cons b l ih => exact fun x h => ih _ (crcB_lt x b h)
theorem xor_half (x y : Nat) : (x ^^^ y) / 2 = (x / 2) ^^^ (y / 2) := by
  have := Nat.shiftRight_xor_distrib (a := x) (b := y) (i := 1)
  simpa [Nat.shiftRight_succ] using this
theorem xor_low (x y : Nat) : (x ^^^ y) % 2 = (x % 2 + y % 2) % 2 := by
  have h := Nat.xor_mod_two_pow (a := x) (b := y) (n := 1)
  simp only [Nat.pow_one] at h
  rw [h]
  rcases Nat.mod_two_eq_zero_or_one x with hx | hx <;> rcases Nat.mod_two_eq_zero_or_one y with hy | hy <;> rw [hx, hy] <;> rfl
theorem sh1_eq (x : Nat) : sh1 x = (x / 2) ^^^ (x % 2 * 3988292384) := by
  unfold sh1
  rcases Nat.mod_two_eq_zero_or_one x with hx | hx <;> simp [hx]
theorem sh1_xor (x y : Nat) : sh1 (x ^^^ y) = sh1 x ^^^ sh1 y := by
  have e : (x % 2 + y % 2) % 2 * 3988292384 = (x % 2 * 3988292384) ^^^ (y % 2 * 3988292384) := by
    rcases Nat.mod_two_eq_zero_or_one x with hx | hx <;> rcases Nat.mod_two_eq_zero_or_one y with hy | hy <;> simp [hx, hy]
  rw [sh1_eq, sh1_eq, sh1_eq, xor_half, xor_low, e]
  ac_rfl
theorem shN_xor (n x y : Nat) : shN n (x ^^^ y) = shN n x ^^^ shN n y := by
  induction n with
  | zero => rfl
  | succ n ih => simp only [shN]; rw [ih, sh1_xor]
theorem shN_high (n h m : Nat) : shN n (2 ^ (n + m) * h) = 2 ^ m * h := by
  induction n generalizing m with
  | zero => simp [shN]
  | succ n ih =>
    have := ih (m + 1)
    rw [show n + 1 + m = n + (m + 1) from by omega]
    simp only [shN, this]
    unfold sh1
    rw [if_neg (by rw [Nat.pow_succ, Nat.mul_right_comm, Nat.mul_mod_left]; decide), Nat.pow_succ, Nat.mul_right_comm, Nat.mul_div_cancel _ (by decide)]
/-- Of eight shifts the lowest byte alone decides what is xor-ed in. -/
theorem crcB_table (x : Nat) (b : UInt8) : crcB x b = (x / 256) ^^^ shN 8 ((x % 256) ^^^ b.toNat) := by
  have e : x = (2 ^ 8 * (x / 256)) ^^^ (x % 256) := by
    have h := Nat.two_pow_add_eq_or_of_lt (i := 8) (b := x % 256) (by omega) (x / 256)
    have h2 : (2 ^ 8 * (x / 256)) ^^^ (x % 256) = (2 ^ 8 * (x / 256)) ||| (x % 256) := by
      apply Nat.eq_of_testBit_eq
      intro i
      rw [Nat.testBit_xor, Nat.testBit_or]
      by_cases hi : i < 8
      · rw [Nat.testBit_two_pow_mul]; simp [Nat.not_le.2 hi]
      · rw [Nat.testBit_lt_two_pow (x := x % 256) (i := i) (Nat.lt_of_lt_of_le (show x % 256 < 2 ^ 8 from Nat.mod_lt _ (by decide)) (Nat.pow_le_pow_right (n := 2) (by decide) (show 8 ≤ i by omega)))]; simp
    rw [h2, ← h]
    omega
  have h8 := shN_high 8 (x / 256) 0
  simp only [Nat.add_zero, Nat.pow_zero, Nat.one_mul] at h8
  unfold crcB
  conv => lhs; rw [e]
  rw [Nat.xor_assoc, shN_xor, h8]

theorem top_bit (x : Nat) (h : x < 2 ^ 32) : (sh1 x).testBit 31 = decide (x % 2 = 1) := by
  have h2 : (x / 2).testBit 31 = false := Nat.testBit_lt_two_pow (by omega)
  unfold sh1
  split
  · rename_i h1
    rw [Nat.testBit_xor, h2, h1]
    decide
  · rename_i h1
    rw [h2]
    simp [h1]
theorem xor_cancel (a b c : Nat) (h : a ^^^ c = b ^^^ c) : a = b := by
  have := congrArg (· ^^^ c) h
  simpa [Nat.xor_assoc] using this
theorem sh1_inj (x y : Nat) (hx : x < 2 ^ 32) (hy : y < 2 ^ 32) (h : sh1 x = sh1 y) : x = y := by
  have ht := top_bit x hx
  rw [h, top_bit y hy] at ht
  have hb : x % 2 = y % 2 := by
    rcases Nat.mod_two_eq_zero_or_one x with h1 | h1 <;> rcases Nat.mod_two_eq_zero_or_one y with h2 | h2 <;> rw [h1, h2] at ht <;> first | omega | (simp at ht)
  rw [sh1_eq, sh1_eq, hb] at h
  have := xor_cancel _ _ _ h
  omega
theorem shN_inj (n : Nat) : ∀ x y : Nat, x < 2 ^ 32 → y < 2 ^ 32 → shN n x = shN n y → x = y := by
  induction n with
  | zero => exact fun x y _ _ h => h
  | succ n ih => exact fun x y hx hy h => ih x y hx hy (sh1_inj _ _ (shN_lt n x hx) (shN_lt n y hy) h)
theorem crcB_inj (x y : Nat) (b : UInt8) (hx : x < 2 ^ 32) (hy : y < 2 ^ 32) (h : crcB x b = crcB y b) : x = y :=
  xor_cancel _ _ _ (shN_inj 8 _ _ (Nat.xor_lt_two_pow hx (byte_lt b)) (Nat.xor_lt_two_pow hy (byte_lt b)) h)
theorem crcS_inj (l : List UInt8) : ∀ x y : Nat, x < 2 ^ 32 → y < 2 ^ 32 → crcS x l = crcS y l → x = y := by
  induction l with
  | nil => exact fun x y _ _ h => h
  | cons b l ih => exact fun x y hx hy h => crcB_inj x y b hx hy (ih _ _ (crcB_lt x b hx) (crcB_lt y b hy) h)
theorem crcB_byte (x : Nat) (b c : UInt8) (hx : x < 2 ^ 32) (h : crcB x b = crcB x c) : b = c := by
  have := shN_inj 8 _ _ (Nat.xor_lt_two_pow hx (byte_lt b)) (Nat.xor_lt_two_pow hx (byte_lt c)) h
  rw [Nat.xor_comm x, Nat.xor_comm x] at this
  exact UInt8.toNat.inj (xor_cancel _ _ _ this)
theorem crcS_append (x : Nat) (l m : List UInt8) : crcS x (l ++ m) = crcS (crcS x l) m := List.foldl_append ..
/-- A text in which one byte is another one has another check. -/
theorem crc_change (l m : List UInt8) (b c : UInt8) (hbc : b ≠ c) : crc (l ++ b :: m) ≠ crc (l ++ c :: m) := by
  intro h
  have h0 : (4294967295 : Nat) < 2 ^ 32 := by decide
  have h1 := crcS_lt (l ++ b :: m) 4294967295 h0
  have h2 := crcS_lt (l ++ c :: m) 4294967295 h0
  have he : crcS 4294967295 (l ++ b :: m) = crcS 4294967295 (l ++ c :: m) := by unfold crc at h; omega
  rw [crcS_append, crcS_append] at he
  have hl := crcS_lt l 4294967295 h0
  exact hbc (crcB_byte _ b c hl (crcS_inj m _ _ (crcB_lt _ b hl) (crcB_lt _ c hl) he))
theorem crc_lt (l : List UInt8) : crc l < 2 ^ 32 := by unfold crc; omega
theorem crcS_snoc (x : Nat) (l : List UInt8) (b : UInt8) : crcS x (l ++ [b]) = crcB (crcS x l) b := by rw [crcS_append]; rfl

theorem wraps_u32 (n : Int) (h₀ : 0 ≤ n) (h₁ : n < 2 ^ 32) : IntKind.u32.wrap n = n := by rw [IntKind.wrap_u32]; omega
theorem xor_u32 (a b : Nat) (ha : a < 2 ^ 32) (hb : b < 2 ^ 32) : bits .xor .u32 (a : Int) (b : Int) = ((a ^^^ b : Nat) : Int) := by
  have ha' : a % 2 ^ 32 = a := Nat.mod_eq_of_lt ha
  have hb' : b % 2 ^ 32 = b := Nat.mod_eq_of_lt hb
  show IntKind.u32.wrap (((BitVec.ofInt 32 (a : Int)) ^^^ (BitVec.ofInt 32 (b : Int))).toNat : Int) = _
  rw [BitVec.ofInt_natCast, BitVec.ofInt_natCast, BitVec.toNat_xor, BitVec.toNat_ofNat, BitVec.toNat_ofNat, ha', hb']
  exact wraps_u32 _ (Int.natCast_nonneg _) (by exact_mod_cast Nat.xor_lt_two_pow ha hb)
theorem xor_u8 (a b : Nat) (ha : a < 2 ^ 8) (hb : b < 2 ^ 8) : bits .xor .u8 (a : Int) (b : Int) = ((a ^^^ b : Nat) : Int) := by
  have ha' : a % 2 ^ 8 = a := Nat.mod_eq_of_lt ha
  have hb' : b % 2 ^ 8 = b := Nat.mod_eq_of_lt hb
  show IntKind.u8.wrap (((BitVec.ofInt 8 (a : Int)) ^^^ (BitVec.ofInt 8 (b : Int))).toNat : Int) = _
  rw [BitVec.ofInt_natCast, BitVec.ofInt_natCast, BitVec.toNat_xor, BitVec.toNat_ofNat, BitVec.toNat_ofNat, ha', hb']
  exact wraps_u8 _ (Int.natCast_nonneg _) (by exact_mod_cast Nat.xor_lt_two_pow ha hb)
theorem and1_u32 (a : Nat) (ha : a < 2 ^ 32) : bits .and .u32 (a : Int) 1 = ((a % 2 : Nat) : Int) := by
  have := (bits_nat .u32 32 (by decide) wraps_u32 a 1 ha (by decide)).1
  rw [Nat.and_one_is_mod] at this
  exact this
theorem not_u32 (a : Nat) (ha : a < 2 ^ 32) : bits .xor .u32 4294967295 (a : Int) = ((4294967295 - a : Nat) : Int) := by
  have := xor_u32 4294967295 a (by decide) ha
  rw [show ((4294967295 : Nat) : Int) = 4294967295 from rfl] at this
  rw [this]
  congr 1
  have h := BitVec.toNat_not (x := BitVec.ofNat 32 a)
  have h2 : (~~~ (BitVec.ofNat 32 a)) = BitVec.allOnes 32 ^^^ BitVec.ofNat 32 a := BitVec.not_def
  rw [h2, BitVec.toNat_xor, BitVec.toNat_ofNat, Nat.mod_eq_of_lt ha] at h
  simpa using h
end Go.Proofs.YtoceglbdnbnjpaaDoor

/- The document's own Bits, Xor and And: what they answer of numbers of 32 bits. -/
namespace Go.Proofs.YtoceglbdnbnjpaaDoor
open Go.RowKit

theorem low_step (x i : Nat) : x % 2 ^ (i + 1) = x % 2 ^ i + 2 ^ i * (x / 2 ^ i % 2) := Nat.mod_pow_succ
theorem xor_bit (a b i : Nat) : (a ^^^ b) / 2 ^ i % 2 = (a / 2 ^ i % 2 + b / 2 ^ i % 2) % 2 := by
  have := Nat.shiftRight_xor_distrib (a := a) (b := b) (i := i)
  rw [Nat.shiftRight_eq_div_pow, Nat.shiftRight_eq_div_pow, Nat.shiftRight_eq_div_pow] at this
  rw [this, xor_low]
theorem and_bit (a b i : Nat) : (a &&& b) / 2 ^ i % 2 = (a / 2 ^ i % 2) * (b / 2 ^ i % 2) := by
  have := Nat.shiftRight_and_distrib (a := a) (b := b) (i := i)
  rw [Nat.shiftRight_eq_div_pow, Nat.shiftRight_eq_div_pow, Nat.shiftRight_eq_div_pow] at this
  rw [this]
  have h := Nat.and_mod_two_pow (a := a / 2 ^ i) (b := b / 2 ^ i) (n := 1)
  simp only [Nat.pow_one] at h
  rw [h]
  rcases Nat.mod_two_eq_zero_or_one (a / 2 ^ i) with hx | hx <;> rcases Nat.mod_two_eq_zero_or_one (b / 2 ^ i) with hy | hy <;> rw [hx, hy] <;> rfl

set_option maxHeartbeats 1000000 in
theorem xor1_any (x y : Nat) (w : World) (hx : x < 2) (hy : y < 2) :
    Calls Tryd.prog 52 #[.int .i64 x, .int .i64 y] w fun e w' => e = .returned (.int .i64 (((x + y) % 2 : Nat) : Int)) ∧ w' = w := by
  have h1 : (x : Int) < 2 := by omega
  have h2 : (y : Int) < 2 := by omega
  go_enter Tryd.func52, Tryd.ntmps52
  go_wp2
  go_ret
  exact ⟨by simp, rfl⟩

set_option maxHeartbeats 1000000 in
theorem and1_any (x y : Nat) (w : World) (hx : x < 2) (hy : y < 2) :
    Calls Tryd.prog 53 #[.int .i64 x, .int .i64 y] w fun e w' => e = .returned (.int .i64 ((x * y : Nat) : Int)) ∧ w' = w := by
  have h1 : (x : Int) < 2 := by omega
  have h2 : (y : Int) < 2 := by omega
  have h3 : ((x * y : Nat) : Int) = (x : Int) * (y : Int) := by push_cast; rfl
  have h4 : IntKind.i64.wrap ((x : Int) * (y : Int)) = (x : Int) * (y : Int) := by
    have : x * y ≤ 1 * 1 := Nat.mul_le_mul (by omega) (by omega)
    rw [← h3, IntKind.wrap_i64]
    omega
  rw [h3]
  go_enter Tryd.func53, Tryd.ntmps53
  go_wp2
  go_ret
  exact ⟨by simp, rfl⟩

theorem pow32 (k : Nat) (hk : k ≤ 32) : 2 ^ k ≤ 4294967296 := Nat.pow_le_pow_right (n := 2) (by decide) hk

set_option maxHeartbeats 2000000 in
set_option maxRecDepth 100000 in
theorem bits_xor (a b : Nat) (w : World) (ha : a < 2 ^ 32) (hb : b < 2 ^ 32) :
    Calls Tryd.prog 51 #[.int .i64 a, .int .i64 b, .func (.func 52) #[] #[]] w fun e w' => e = .returned (.int .i64 ((a ^^^ b : Nat) : Int)) ∧ w' = w := by
  have HR : Hid (a ^^^ b < 2 ^ 32) := Nat.xor_lt_two_pow ha hb
  have HA : Hid (a < 2 ^ 32) := ha
  have HB : Hid (b < 2 ^ 32) := hb
  clear ha hb
  go_enter Tryd.func51, Tryd.ntmps51
  go_wp2
  go_loop [0, 1, 7, 8, 9] (fun va vb vn vt i => ∃ k : Nat, k ≤ 32 ∧ va = .int .i64 (a / 2 ^ k : Nat) ∧ vb = .int .i64 (b / 2 ^ k : Nat) ∧ vn = .int .i64 ((a ^^^ b) % 2 ^ k : Nat) ∧ vt = .int .i64 (2 ^ k : Nat) ∧ i = .int .i64 k) (fun _ _ _ _ i => 32 - (intOf i).toNat)
  case atStart => exact ⟨0, by omega, by simp, by simp, by simp [Nat.mod_one], by simp, rfl⟩
  case round =>
    obtain ⟨k, hk, rfl, rfl, rfl, rfl, rfl⟩ := hrel
    by_cases hlt : k < 32
    · have i2 : (k : Int) < 32 := by omega
      have HS : Hid ((a ^^^ b) % 2 ^ (k + 1) = (a ^^^ b) % 2 ^ k + 2 ^ k * ((a / 2 ^ k % 2 + b / 2 ^ k % 2) % 2) ∧ a / 2 ^ (k + 1) = a / 2 ^ k / 2 ∧ b / 2 ^ (k + 1) = b / 2 ^ k / 2 ∧ 2 ^ (k + 1) = 2 * 2 ^ k) :=
        ⟨by rw [low_step, xor_bit], by rw [Nat.pow_succ, Nat.div_div_eq_div_mul], by rw [Nat.pow_succ, Nat.div_div_eq_div_mul], by rw [Nat.pow_succ, Nat.mul_comm]⟩
      have p1 : a / 2 ^ k < 4294967296 := Nat.lt_of_le_of_lt (Nat.div_le_self _ _) HA.out
      have p2 : b / 2 ^ k < 4294967296 := Nat.lt_of_le_of_lt (Nat.div_le_self _ _) HB.out
      have p3 : (a ^^^ b) % 2 ^ k < 4294967296 := Nat.lt_of_le_of_lt (Nat.mod_le _ _) HR.out
      have p4 := pow32 k hk
      generalize a / 2 ^ k = x at p1 HS
      generalize b / 2 ^ k = y at p2 HS
      generalize (a ^^^ b) % 2 ^ k = n at p3 HS
      generalize 2 ^ k = q at p4 HS
      have hx : (x : Int) % 2 = ((x % 2 : Nat) : Int) := by omega
      have hy : (y : Int) % 2 = ((y % 2 : Nat) : Int) := by omega
      obtain ⟨u, hu⟩ : ∃ u, u = x % 2 := ⟨_, rfl⟩
      obtain ⟨v, hv⟩ : ∃ v, v = y % 2 := ⟨_, rfl⟩
      rw [← hu] at hx
      rw [← hv] at hy
      obtain ⟨t, htt⟩ : ∃ t, t = (u + v) % 2 := ⟨_, rfl⟩
      have HF : Hid (∀ w, Calls Tryd.prog 52 #[.int .i64 u, .int .i64 v] w fun e w' => e = .returned (.int .i64 (t : Int)) ∧ w' = w) := fun w => by rw [htt]; exact xor1_any u v w (by omega) (by omega)
      have ht1 : t ≤ 1 := by omega
      have hqt : q * t ≤ 4294967296 := Nat.le_trans (Nat.mul_le_mul_left q ht1) (by omega)
      have m0 : (q : Int) * (t : Int) = ((q * t : Nat) : Int) := by push_cast; rfl
      have HV : Hid (t = (x % 2 + y % 2) % 2) := by show _ = _; rw [htt, hu, hv]
      clear hu hv htt
      generalize hz : q * t = z at hqt m0
      have HZ : Hid (q * t = z) := hz
      clear hz
      go_wp2_with (go_at_call 52; refine (HF.out _).mono ?_; rintro e w' ⟨rfl, rfl⟩)
      refine ⟨⟨k + 1, by omega, ?_, ?_, ?_, ?_, by go_num⟩, by simp [intOf]; omega⟩
      · rw [HS.out.2.1]; go_num
      · rw [HS.out.2.2.1]; go_num
      · rw [HS.out.1, ← HV.out, HZ.out]; go_num
      · rw [HS.out.2.2.2]; go_num
    · obtain rfl : k = 32 := by omega
      have HM : Hid ((a ^^^ b) % 2 ^ 32 = a ^^^ b) := Nat.mod_eq_of_lt HR.out
      generalize (a ^^^ b) % 2 ^ 32 = n at HM
      generalize a / 2 ^ 32 = x
      generalize b / 2 ^ 32 = y
      generalize 2 ^ 32 = q
      go_wp2
      go_ret
      exact ⟨by rw [← HM.out]; rfl, rfl⟩

set_option maxHeartbeats 2000000 in
set_option maxRecDepth 100000 in
theorem bits_and (a b : Nat) (w : World) (ha : a < 2 ^ 32) (hb : b < 2 ^ 32) :
    Calls Tryd.prog 51 #[.int .i64 a, .int .i64 b, .func (.func 53) #[] #[]] w fun e w' => e = .returned (.int .i64 ((a &&& b : Nat) : Int)) ∧ w' = w := by
  have HR : Hid (a &&& b < 2 ^ 32) := Nat.and_lt_two_pow _ hb
  have HA : Hid (a < 2 ^ 32) := ha
  have HB : Hid (b < 2 ^ 32) := hb
  clear ha hb
  go_enter Tryd.func51, Tryd.ntmps51
  go_wp2
  go_loop [0, 1, 7, 8, 9] (fun va vb vn vt i => ∃ k : Nat, k ≤ 32 ∧ va = .int .i64 (a / 2 ^ k : Nat) ∧ vb = .int .i64 (b / 2 ^ k : Nat) ∧ vn = .int .i64 ((a &&& b) % 2 ^ k : Nat) ∧ vt = .int .i64 (2 ^ k : Nat) ∧ i = .int .i64 k) (fun _ _ _ _ i => 32 - (intOf i).toNat)
  case atStart => exact ⟨0, by omega, by simp, by simp, by simp [Nat.mod_one], by simp, rfl⟩
  case round =>
    obtain ⟨k, hk, rfl, rfl, rfl, rfl, rfl⟩ := hrel
    by_cases hlt : k < 32
    · have i2 : (k : Int) < 32 := by omega
      have HS : Hid ((a &&& b) % 2 ^ (k + 1) = (a &&& b) % 2 ^ k + 2 ^ k * ((a / 2 ^ k % 2) * (b / 2 ^ k % 2)) ∧ a / 2 ^ (k + 1) = a / 2 ^ k / 2 ∧ b / 2 ^ (k + 1) = b / 2 ^ k / 2 ∧ 2 ^ (k + 1) = 2 * 2 ^ k) :=
        ⟨by rw [low_step, and_bit], by rw [Nat.pow_succ, Nat.div_div_eq_div_mul], by rw [Nat.pow_succ, Nat.div_div_eq_div_mul], by rw [Nat.pow_succ, Nat.mul_comm]⟩
      have p1 : a / 2 ^ k < 4294967296 := Nat.lt_of_le_of_lt (Nat.div_le_self _ _) HA.out
      have p2 : b / 2 ^ k < 4294967296 := Nat.lt_of_le_of_lt (Nat.div_le_self _ _) HB.out
      have p3 : (a &&& b) % 2 ^ k < 4294967296 := Nat.lt_of_le_of_lt (Nat.mod_le _ _) HR.out
      have p4 := pow32 k hk
      generalize a / 2 ^ k = x at p1 HS
      generalize b / 2 ^ k = y at p2 HS
      generalize (a &&& b) % 2 ^ k = n at p3 HS
      generalize 2 ^ k = q at p4 HS
      have hx : (x : Int) % 2 = ((x % 2 : Nat) : Int) := by omega
      have hy : (y : Int) % 2 = ((y % 2 : Nat) : Int) := by omega
      obtain ⟨u, hu⟩ : ∃ u, u = x % 2 := ⟨_, rfl⟩
      obtain ⟨v, hv⟩ : ∃ v, v = y % 2 := ⟨_, rfl⟩
      rw [← hu] at hx
      rw [← hv] at hy
      obtain ⟨t, htt⟩ : ∃ t, t = u * v := ⟨_, rfl⟩
      have HF : Hid (∀ w, Calls Tryd.prog 53 #[.int .i64 u, .int .i64 v] w fun e w' => e = .returned (.int .i64 (t : Int)) ∧ w' = w) := fun w => by rw [htt]; exact and1_any u v w (by omega) (by omega)
      have ht1 : t ≤ 1 := by
        have : u * v ≤ 1 * 1 := Nat.mul_le_mul (by omega) (by omega)
        omega
      have hqt : q * t ≤ 4294967296 := Nat.le_trans (Nat.mul_le_mul_left q ht1) (by omega)
      have m0 : (q : Int) * (t : Int) = ((q * t : Nat) : Int) := by push_cast; rfl
      have HV : Hid (t = (x % 2) * (y % 2)) := by show _ = _; rw [htt, hu, hv]
      clear hu hv htt
      generalize hz : q * t = z at hqt m0
      have HZ : Hid (q * t = z) := hz
      clear hz
      go_wp2_with (go_at_call 53; refine (HF.out _).mono ?_; rintro e w' ⟨rfl, rfl⟩)
      refine ⟨⟨k + 1, by omega, ?_, ?_, ?_, ?_, by go_num⟩, by simp [intOf]; omega⟩
      · rw [HS.out.2.1]; go_num
      · rw [HS.out.2.2.1]; go_num
      · rw [HS.out.1, ← HV.out, HZ.out]; go_num
      · rw [HS.out.2.2.2]; go_num
    · obtain rfl : k = 32 := by omega
      have HM : Hid ((a &&& b) % 2 ^ 32 = a &&& b) := Nat.mod_eq_of_lt HR.out
      generalize (a &&& b) % 2 ^ 32 = n at HM
      generalize a / 2 ^ 32 = x
      generalize b / 2 ^ 32 = y
      generalize 2 ^ 32 = q
      go_wp2
      go_ret
      exact ⟨by rw [← HM.out]; rfl, rfl⟩

/-- All of them, xor-ed. -/
def xors (l : List Nat) : Nat := l.foldl (· ^^^ ·) 0
theorem xors_lt (l : List Nat) (h : ∀ x ∈ l, x < 2 ^ 32) : xors l < 2 ^ 32 := by
  suffices ∀ (l : List Nat) (n : Nat), n < 2 ^ 32 → (∀ x ∈ l, x < 2 ^ 32) → l.foldl (· ^^^ ·) n < 2 ^ 32 from this l 0 (by decide) h
  intro l
  induction l with
  | nil => exact fun n hn _ => hn
  | cons x l ih => exact fun n hn hx => ih _ (Nat.xor_lt_two_pow hn (hx x (List.mem_cons_self ..))) fun y hy => hx y (List.mem_cons_of_mem _ hy)

set_option maxHeartbeats 2000000 in
set_option maxRecDepth 100000 in
theorem Xor_any (g cap : Nat) (l : List Nat) (w : World) (hl : l.length ≤ 1000) (h32 : ∀ x ∈ l, x < 2 ^ 32) (hc : ∀ j (hj : j < l.length), w.cell? ⟨g, j, none⟩ = some (.int .i64 (l[j] : Int))) :
    Calls Tryd.prog 30 #[.slice (some ⟨g, 0, none⟩) l.length cap] w fun e w' => e = .returned (.int .i64 (xors l : Nat)) ∧ w' = w := by
  have HC : Hid (∀ j (hj : j < l.length), w.cell? ⟨g, j, none⟩ = some (.int .i64 (l[j] : Int))) := hc
  have H32 : Hid (∀ x ∈ l, x < 2 ^ 32) := h32
  have hl1 : (l.length : Int) ≤ 1000 := by omega
  clear hc h32
  go_enter Tryd.func30, Tryd.ntmps30
  go_wp2
  go_loop [3, 4] (fun v i => ∃ k : Nat, k ≤ l.length ∧ v = .int .i64 (xors (l.take k) : Nat) ∧ i = .int .i64 k) (fun _ i => l.length - (intOf i).toNat)
  case atStart => exact ⟨0, Nat.zero_le _, rfl, rfl⟩
  case round =>
    obtain ⟨k, hk, rfl, rfl⟩ := hrel
    by_cases hlt : k < l.length
    · have c1 := HC.out k hlt
      have HS : Hid (xors (l.take (k + 1)) = xors (l.take k) ^^^ l[k]) := by
        show _ = _
        rw [List.take_succ_eq_append_getElem hlt, xors, List.foldl_append]
        rfl
      have HX : Hid (∀ w, Calls Tryd.prog 51 #[.int .i64 (xors (l.take k) : Nat), .int .i64 (l[k] : Nat), .func (.func 52) #[] #[]] w fun e w' => e = .returned (.int .i64 ((xors (l.take k) ^^^ l[k] : Nat) : Int)) ∧ w' = w) :=
        fun w => bits_xor _ _ w (xors_lt _ fun x hx => H32.out x (List.mem_of_mem_take hx)) (H32.out _ (List.getElem_mem hlt))
      generalize xors (l.take k) ^^^ l[k] = z at HS HX
      generalize xors (l.take k) = n at HX
      generalize l[k] = x at c1 HX
      go_wp2_with (go_at_call 51; refine (HX.out _).mono ?_; rintro e w' ⟨rfl, rfl⟩)
      refine ⟨⟨k + 1, by omega, ?_, by go_num⟩, by simp [intOf]; omega⟩
      rw [HS.out]
    · have HK : Hid (xors l = xors (l.take k)) := by show _ = _; rw [List.take_of_length_le (by omega)]
      generalize xors (l.take k) = n at HK
      go_wp2
      go_ret
      exact ⟨by rw [HK.out]; rfl, rfl⟩

set_option maxHeartbeats 1000000 in
set_option maxRecDepth 100000 in
theorem Pow2_any (n : Nat) (w : World) (hn : n ≤ 60) :
    Calls Tryd.prog 27 #[.int .i64 n] w fun e w' => e = .returned (.int .i64 ((2 ^ n : Nat) : Int)) ∧ w' = w := by
  obtain ⟨r, hr⟩ : ∃ r : Nat, 2 ^ n = r := ⟨_, rfl⟩
  rw [hr]
  have HR : Hid (2 ^ n = r) := hr
  clear hr
  go_enter Tryd.func27, Tryd.ntmps27
  go_wp2
  go_loop [0, 3] (fun i v => ∃ k : Nat, k ≤ n ∧ i = .int .i64 ((n - k : Nat) : Int) ∧ v = .int .i64 ((2 ^ k : Nat) : Int)) (fun i _ => (intOf i).toNat)
  case atStart => exact ⟨0, Nat.zero_le _, rfl, rfl⟩
  case round =>
    obtain ⟨k, hk, rfl, rfl⟩ := hrel
    have hp : 2 ^ k ≤ 2 ^ 60 := Nat.pow_le_pow_right (by decide) (by omega)
    have HS : Hid (2 ^ (k + 1) = 2 * 2 ^ k) := by show _ = _; rw [Nat.pow_succ, Nat.mul_comm]
    by_cases hlt : k < n
    · obtain ⟨d, hd⟩ : ∃ d, n - k = d + 1 := ⟨n - k - 1, by omega⟩
      have HD : Hid (n - (k + 1) = d) := by show _ = _; omega
      rw [hd]
      generalize 2 ^ k = p at hp HS
      have hpi : (p : Int) ≤ 1152921504606846976 := by omega
      have hdi : (d : Int) ≤ 60 := by omega
      clear hp hd
      go_wp2
      refine ⟨⟨k + 1, by omega, ?_, ?_⟩, by simp [intOf]⟩
      · rw [HD.out]
      · rw [HS.out]; go_num
    · have HE : Hid (r = 2 ^ k) := by show _ = _; rw [← HR.out, show n = k by omega]
      have hz : n - k = 0 := by omega
      rw [hz]
      generalize 2 ^ k = p at HE
      go_wp2
      go_ret
      exact ⟨by rw [HE.out]; rfl, rfl⟩
end Go.Proofs.YtoceglbdnbnjpaaDoor

/- The document's own Wrap, And and Right, of numbers of 32 bits. -/
namespace Go.Proofs.YtoceglbdnbnjpaaDoor
open Go.RowKit

set_option maxHeartbeats 1000000 in
set_option maxRecDepth 100000 in
theorem Wrap_any (n : Nat) (w : World) :
    Calls Tryd.prog 32 #[.int .i64 n] w fun e w' => e = .returned (.int .i64 ((n % 4294967296 : Nat) : Int)) ∧ w' = w := by
  obtain ⟨r, hr⟩ : ∃ r, n % 4294967296 = r := ⟨_, rfl⟩
  rw [hr]
  have h1 : (n : Int) % 4294967296 = (r : Int) := by omega
  clear hr
  go_enter Tryd.func32, Tryd.ntmps32
  go_wp2
  go_ret
  exact ⟨by simp; exact h1, rfl⟩

set_option maxHeartbeats 1000000 in
theorem And_any (a b : Nat) (w : World) (ha : a < 2 ^ 32) (hb : b < 2 ^ 32) :
    Calls Tryd.prog 33 #[.int .i64 a, .int .i64 b] w fun e w' => e = .returned (.int .i64 ((a &&& b : Nat) : Int)) ∧ w' = w := by
  have HB : Hid (Calls Tryd.prog 51 #[.int .i64 a, .int .i64 b, .func (.func 53) #[] #[]] w fun e w' => e = .returned (.int .i64 ((a &&& b : Nat) : Int)) ∧ w' = w) := bits_and a b w ha hb
  generalize a &&& b = r at HB
  clear ha hb
  go_enter Tryd.func33, Tryd.ntmps33
  go_wp2_with fail
  refine HB.out.mono ?_
  rintro e w' ⟨rfl, rfl⟩
  go_wp2
  go_ret
  exact ⟨rfl, rfl⟩

/-- A number of 32 bits, turned right. -/
def rightN (x n : Nat) : Nat := x / 2 ^ n + x % 2 ^ n * 2 ^ (32 - n)
theorem wr62 (n : Nat) (h : n < 4294967296) : IntKind.i64.wrap (n : Int) = (n : Int) := by rw [IntKind.wrap_i64]; omega
theorem wr63 (n : Nat) (h : n < 4294967296) : wrap64 (n : Int) = (n : Int) := by unfold wrap64; omega
theorem tdivN (a b : Nat) : (a : Int).tdiv (b : Int) = ((a / b : Nat) : Int) := rfl
theorem tmodN (a b : Nat) : (a : Int).tmod (b : Int) = ((a % b : Nat) : Int) := rfl
theorem right_lt (x n : Nat) (hx : x < 2 ^ 32) (h2 : n ≤ 31) : x % 2 ^ n * 2 ^ (32 - n) < 2 ^ 32 ∧ rightN x n < 2 ^ 32 := by
  have h1 : x % 2 ^ n < 2 ^ n := Nat.mod_lt _ (Nat.two_pow_pos n)
  have h3 : 2 ^ n * 2 ^ (32 - n) = 2 ^ 32 := by rw [← Nat.pow_add]; congr 1; omega
  have h4 : x % 2 ^ n * 2 ^ (32 - n) ≤ (2 ^ n - 1) * 2 ^ (32 - n) := Nat.mul_le_mul_right _ (by omega)
  have h5 : (2 ^ n - 1) * 2 ^ (32 - n) = 2 ^ 32 - 2 ^ (32 - n) := by rw [Nat.sub_mul, h3, Nat.one_mul]
  have h6 : x / 2 ^ n < 2 ^ (32 - n) := by rw [Nat.div_lt_iff_lt_mul (Nat.two_pow_pos n), Nat.mul_comm, h3]; exact hx
  have h7 := Nat.two_pow_pos (32 - n)
  have h8 : 2 ^ (32 - n) ≤ 2 ^ 32 := Nat.pow_le_pow_right (by decide) (by omega)
  unfold rightN
  omega

set_option maxHeartbeats 4000000 in
set_option maxRecDepth 100000 in
theorem Right_any (x n : Nat) (w : World) (hx : x < 2 ^ 32) (h1 : 1 ≤ n) (h2 : n ≤ 31) :
    Calls Tryd.prog 31 #[.int .i64 x, .int .i64 n] w fun e w' => e = .returned (.int .i64 (rightN x n : Nat)) ∧ ∃ m, w' = w.drewN m := by
  obtain ⟨hl1, hl2⟩ := right_lt x n hx h2
  have HR : Hid (rightN x n = x / 2 ^ n + x % 2 ^ n * 2 ^ (32 - n)) := rfl
  have HP1 : Hid (∀ w, Calls Tryd.prog 27 #[.int .i64 n] w fun e w' => e = .returned (.int .i64 ((2 ^ n : Nat) : Int)) ∧ w' = w) := fun w => Pow2_any n w (by omega)
  have HP2 : Hid (∀ w, Calls Tryd.prog 27 #[.int .i64 ((32 - n : Nat) : Int)] w fun e w' => e = .returned (.int .i64 ((2 ^ (32 - n) : Nat) : Int)) ∧ w' = w) := fun w => Pow2_any (32 - n) w (by omega)
  have hm : (32 : Int) - (n : Int) = ((32 - n : Nat) : Int) := by omega
  have hpb : 2 ^ n ≤ 4294967296 := Nat.pow_le_pow_right (n := 2) (by decide) (show n ≤ 32 by omega)
  have hpp := Nat.two_pow_pos n
  generalize rightN x n = r at hl2 HR
  generalize 2 ^ n = p at hl1 HR HP1 hpb hpp
  generalize 2 ^ (32 - n) = q at hl1 HR HP2
  generalize 32 - n = m at hm HP2
  obtain ⟨d, hd⟩ : ∃ d, x / p = d := ⟨_, rfl⟩
  obtain ⟨e0, he⟩ : ∃ e0, x % p = e0 := ⟨_, rfl⟩
  obtain ⟨z, hz⟩ : ∃ z, e0 * q = z := ⟨_, rfl⟩
  rw [he] at hl1
  have hdi : (x : Int) / (p : Int) = (d : Int) := by rw [← hd]; push_cast; rfl
  have hei : (x : Int) % (p : Int) = (e0 : Int) := by rw [← he]; push_cast; rfl
  have hzi : (e0 : Int) * (q : Int) = (z : Int) := by rw [← hz]; push_cast; rfl
  have HR2 : Hid (r = d + z) := by show _ = _; rw [HR.out, hd, he, hz]
  have hp0 : ((p : Int) == 0) = false := beq_eq_false_iff_ne.2 (by omega)
  have hpn : ¬ (p : Int) = 0 := by omega
  have hpm : ¬ p = 0 := by omega
  have hdl : d < 4294967296 := Nat.lt_of_le_of_lt (by rw [← hd]; exact Nat.div_le_self _ _) hx
  have hdz : (d : Int) + (z : Int) = (r : Int) := by have := HR2.out; omega
  have hzl : z < 4294967296 := by rw [← hz]; exact hl1
  have hmi : (m : Int) ≤ 31 := by omega
  have hn0 : (0 : Int) ≤ (n : Int) := by omega
  have f1 := wr62 d hdl
  have f2 := wr62 z hzl
  have f3 := wr62 r hl2
  have f4 := wr62 m (by omega)
  have f5 : (x : Int).tdiv (p : Int) = (d : Int) := by rw [← hd]; exact tdivN x p
  have f6 : (x : Int).tmod (p : Int) = (e0 : Int) := by rw [← he]; exact tmodN x p
  clear hd he hz hl1 hpb hpp hx h1 h2 HR hl2 hdl hzl
  go_enter Tryd.func31, Tryd.ntmps31
  go_wp2
  go_region_with (first | (go_at_call_of 27 (Value.int IntKind.i64 (n : Int)); refine (HP1.out _).mono ?_; rintro e w' ⟨rfl, rfl⟩) | (go_at_call_of 27 (Value.int IntKind.i64 (m : Int)); refine (HP2.out _).mono ?_; rintro e w' ⟨rfl, rfl⟩) | fail)
  all_goals go_wp2
  all_goals go_ret
  all_goals exact ⟨rfl, 1, rfl⟩
end Go.Proofs.YtoceglbdnbnjpaaDoor

/- The digest's own words and mixing, of numbers that are not negative: what they are as plain numbers, as the document reckons them. -/
namespace Go.Proofs.YtoceglbdnbnjpaaDoor
open Go.RowKit

theorem or_u32 (a b : Nat) (ha : a < 2 ^ 32) (hb : b < 2 ^ 32) : bits .or .u32 (a : Int) (b : Int) = ((a ||| b : Nat) : Int) := (bits_nat .u32 32 (by decide) wraps_u32 a b ha hb).2
theorem and_u32 (a b : Nat) (ha : a < 2 ^ 32) (hb : b < 2 ^ 32) : bits .and .u32 (a : Int) (b : Int) = ((a &&& b : Nat) : Int) := (bits_nat .u32 32 (by decide) wraps_u32 a b ha hb).1
theorem rot_nat (x n : Nat) (hx : x < 2 ^ 32) (h1 : 1 ≤ n) (h2 : n ≤ 31) : rotR (x : Int) n = (rightN x n : Int) := by
  obtain ⟨hl1, hl2⟩ := right_lt x n hx h2
  have h3 : 2 ^ 32 = 2 ^ n * 2 ^ (32 - n) := by rw [← Nat.pow_add]; congr 1; omega
  have e1 : IntKind.u32.wrap ((x : Int) * 2 ^ (32 - n)) = ((x % 2 ^ n * 2 ^ (32 - n) : Nat) : Int) := by
    rw [show (x : Int) * 2 ^ (32 - n) = ((x * 2 ^ (32 - n) : Nat) : Int) from by push_cast; rfl, IntKind.wrap_u32, show (4294967296 : Int) = ((2 ^ 32 : Nat) : Int) from rfl, ← Int.natCast_emod, h3, Nat.mul_mod_mul_right]
  have e2 : (x : Int) / 2 ^ n = ((x / 2 ^ n : Nat) : Int) := by push_cast; rfl
  have h6 : x / 2 ^ n < 2 ^ (32 - n) := by rw [Nat.div_lt_iff_lt_mul (Nat.two_pow_pos n), Nat.mul_comm, ← h3]; exact hx
  have h8 : 2 ^ (32 - n) ≤ 2 ^ 32 := Nat.pow_le_pow_right (by decide) (by omega)
  unfold rotR
  rw [e1, e2, or_u32 _ _ hl1 (by omega), Nat.mul_comm (x % 2 ^ n), ← Nat.two_pow_add_eq_or_of_lt h6]
  unfold rightN
  congr 1
  rw [Nat.mul_comm (x % 2 ^ n)]
  omega

def sig0N (x : Nat) : Nat := rightN x 7 ^^^ rightN x 18 ^^^ x / 8
def sig1N (x : Nat) : Nat := rightN x 17 ^^^ rightN x 19 ^^^ x / 1024
def big0N (x : Nat) : Nat := rightN x 2 ^^^ rightN x 13 ^^^ rightN x 22
def big1N (x : Nat) : Nat := rightN x 6 ^^^ rightN x 11 ^^^ rightN x 25
def chN (e f g : Nat) : Nat := (e &&& f) ^^^ ((4294967295 - e) &&& g)
def majN (a b c : Nat) : Nat := (a &&& b) ^^^ (a &&& c) ^^^ (b &&& c)
theorem xor3 (a b c : Nat) (ha : a < 2 ^ 32) (hb : b < 2 ^ 32) (hc : c < 2 ^ 32) : bits .xor .u32 (bits .xor .u32 (a : Int) (b : Int)) (c : Int) = ((a ^^^ b ^^^ c : Nat) : Int) ∧ a ^^^ b ^^^ c < 2 ^ 32 := by
  rw [xor_u32 a b ha hb, xor_u32 _ c (Nat.xor_lt_two_pow ha hb) hc]
  exact ⟨rfl, Nat.xor_lt_two_pow (Nat.xor_lt_two_pow ha hb) hc⟩
theorem sig0_nat (x : Nat) (hx : x < 2 ^ 32) : sig0 (x : Int) = (sig0N x : Int) ∧ sig0N x < 2 ^ 32 := by
  unfold sig0 sig0N
  rw [rot_nat x 7 hx (by decide) (by decide), rot_nat x 18 hx (by decide) (by decide), show (x : Int) / 8 = ((x / 8 : Nat) : Int) from by omega]
  exact xor3 _ _ _ (right_lt x 7 hx (by decide)).2 (right_lt x 18 hx (by decide)).2 (by omega)
theorem sig1_nat (x : Nat) (hx : x < 2 ^ 32) : sig1 (x : Int) = (sig1N x : Int) ∧ sig1N x < 2 ^ 32 := by
  unfold sig1 sig1N
  rw [rot_nat x 17 hx (by decide) (by decide), rot_nat x 19 hx (by decide) (by decide), show (x : Int) / 1024 = ((x / 1024 : Nat) : Int) from by omega]
  exact xor3 _ _ _ (right_lt x 17 hx (by decide)).2 (right_lt x 19 hx (by decide)).2 (by omega)
theorem big0_nat (x : Nat) (hx : x < 2 ^ 32) : big0 (x : Int) = (big0N x : Int) ∧ big0N x < 2 ^ 32 := by
  unfold big0 big0N
  rw [rot_nat x 2 hx (by decide) (by decide), rot_nat x 13 hx (by decide) (by decide), rot_nat x 22 hx (by decide) (by decide)]
  exact xor3 _ _ _ (right_lt x 2 hx (by decide)).2 (right_lt x 13 hx (by decide)).2 (right_lt x 22 hx (by decide)).2
theorem big1_nat (x : Nat) (hx : x < 2 ^ 32) : big1 (x : Int) = (big1N x : Int) ∧ big1N x < 2 ^ 32 := by
  unfold big1 big1N
  rw [rot_nat x 6 hx (by decide) (by decide), rot_nat x 11 hx (by decide) (by decide), rot_nat x 25 hx (by decide) (by decide)]
  exact xor3 _ _ _ (right_lt x 6 hx (by decide)).2 (right_lt x 11 hx (by decide)).2 (right_lt x 25 hx (by decide)).2
theorem ch_nat (e f g : Nat) (he : e < 2 ^ 32) (hf : f < 2 ^ 32) (hg : g < 2 ^ 32) : ch (e : Int) (f : Int) (g : Int) = (chN e f g : Int) ∧ chN e f g < 2 ^ 32 := by
  have h1 : bits .xor .u32 IntKind.u32.max (e : Int) = ((4294967295 - e : Nat) : Int) := not_u32 e he
  have a1 : e &&& f < 2 ^ 32 := Nat.and_lt_two_pow _ hf
  have a2 : (4294967295 - e) &&& g < 2 ^ 32 := Nat.and_lt_two_pow _ hg
  unfold ch chN
  rw [h1, and_u32 e f he hf, and_u32 _ g (by omega) hg, xor_u32 _ _ a1 a2]
  exact ⟨rfl, Nat.xor_lt_two_pow a1 a2⟩
theorem maj_nat (a b c : Nat) (ha : a < 2 ^ 32) (hb : b < 2 ^ 32) (hc : c < 2 ^ 32) : maj (a : Int) (b : Int) (c : Int) = (majN a b c : Int) ∧ majN a b c < 2 ^ 32 := by
  unfold maj majN
  rw [and_u32 a b ha hb, and_u32 a c ha hc, and_u32 b c hb hc]
  exact xor3 _ _ _ (Nat.and_lt_two_pow _ hb) (Nat.and_lt_two_pow _ hc) (Nat.and_lt_two_pow _ hc)

/-- Four bytes, the greatest first. -/
def be4N (a b c d : Nat) : Nat := ((a * 256 + b) * 256 + c) * 256 + d
theorem be4_nat (a b c d : Nat) (ha : a < 256) (hb : b < 256) (hc : c < 256) (hd : d < 256) : be4 (a : Int) (b : Int) (c : Int) (d : Int) = (be4N a b c d : Int) ∧ be4N a b c d < 2 ^ 32 := by
  have e1 : (a : Int) % 4294967296 * 16777216 % 4294967296 = ((2 ^ 24 * a : Nat) : Int) := by omega
  have e2 : (b : Int) % 4294967296 * 65536 % 4294967296 = ((2 ^ 16 * b : Nat) : Int) := by omega
  have e3 : (c : Int) % 4294967296 * 256 % 4294967296 = ((2 ^ 8 * c : Nat) : Int) := by omega
  have e4 : (d : Int) % 4294967296 = ((d : Nat) : Int) := by omega
  have o1 := Nat.two_pow_add_eq_or_of_lt (i := 24) (b := 2 ^ 16 * b) (by omega) a
  have o2 : 2 ^ 24 * a + 2 ^ 16 * b = 2 ^ 16 * (2 ^ 8 * a + b) := by omega
  have o3 := Nat.two_pow_add_eq_or_of_lt (i := 16) (b := 2 ^ 8 * c) (by omega) (2 ^ 8 * a + b)
  have o4 : 2 ^ 16 * (2 ^ 8 * a + b) + 2 ^ 8 * c = 2 ^ 8 * (2 ^ 16 * a + 2 ^ 8 * b + c) := by omega
  have o5 := Nat.two_pow_add_eq_or_of_lt (i := 8) (b := d) (by omega) (2 ^ 16 * a + 2 ^ 8 * b + c)
  unfold be4 be4N
  rw [e1, e2, e3, e4, or_u32 _ _ (by omega) (by omega), ← o1, o2, or_u32 _ _ (by omega) (by omega), ← o3, o4, or_u32 _ _ (by omega) (by omega), ← o5]
  omega

def toI (l : List Nat) : List Int := l.map fun (n : Nat) => (n : Int)
theorem toI_get (l : List Nat) (i : Nat) : (toI l).getD i 0 = (l.getD i 0 : Int) := by
  unfold toI
  rw [List.getD_eq_getElem?_getD, List.getD_eq_getElem?_getD, List.getElem?_map]
  cases l[i]? <;> rfl
theorem get_lt (l : List Nat) (h : ∀ x ∈ l, x < 2 ^ 32) (i : Nat) : l.getD i 0 < 2 ^ 32 := by
  rw [List.getD_eq_getElem?_getD]
  cases e : l[i]? with
  | none => show 0 < 2 ^ 32; decide
  | some x => exact h x (List.mem_of_getElem? e)
def byteN (s : ByteArray) (k : Nat) : Nat := (s.data.toList.getD k 0).toNat
def wnextN (s : ByteArray) (l : List Nat) (k : Nat) : Nat :=
  if k < 16 then be4N (byteN s (4 * k)) (byteN s (4 * k + 1)) (byteN s (4 * k + 2)) (byteN s (4 * k + 3))
  else (l.getD (k - 16) 0 + sig0N (l.getD (k - 15) 0) + l.getD (k - 7) 0 + sig1N (l.getD (k - 2) 0)) % 4294967296
/-- The words of a block, as plain numbers. -/
def wsN (s : ByteArray) : Nat → List Nat
  | 0 => []
  | k + 1 => wsN s k ++ [wnextN s (wsN s k) k]
theorem wnext_nat (s : ByteArray) (l : List Nat) (k : Nat) (h : ∀ x ∈ l, x < 2 ^ 32) : wnext s (toI l) k = (wnextN s l k : Int) ∧ wnextN s l k < 2 ^ 32 := by
  unfold wnext wnextN
  by_cases hk : k < 16
  · rw [if_pos hk, if_pos hk]
    exact be4_nat _ _ _ _ (s.data.toList.getD (4 * k) 0).toNat_lt (s.data.toList.getD (4 * k + 1) 0).toNat_lt (s.data.toList.getD (4 * k + 2) 0).toNat_lt (s.data.toList.getD (4 * k + 3) 0).toNat_lt
  · rw [if_neg hk, if_neg hk, toI_get, toI_get, toI_get, toI_get]
    have h1 := sig0_nat _ (get_lt l h (k - 15))
    have h2 := sig1_nat _ (get_lt l h (k - 2))
    rw [h1.1, h2.1]
    exact ⟨by omega, Nat.mod_lt _ (by decide)⟩
theorem ws_nat (s : ByteArray) (k : Nat) : ws s k = toI (wsN s k) ∧ ∀ x ∈ wsN s k, x < 2 ^ 32 := by
  induction k with
  | zero => exact ⟨rfl, by simp [wsN]⟩
  | succ k ih =>
    obtain ⟨h1, h2⟩ := wnext_nat s (wsN s k) k ih.2
    refine ⟨?_, ?_⟩
    · show ws s k ++ [wnext s (ws s k) k] = _
      rw [ih.1, h1]
      simp [wsN, toI]
    · intro x hx
      rcases List.mem_append.1 hx with h | h
      · exact ih.2 x h
      · simp at h; rw [h]; exact h2

structure N8 where
  (a b c d e f g h : Nat)
def N8.ok (s : N8) : Prop := s.a < 2 ^ 32 ∧ s.b < 2 ^ 32 ∧ s.c < 2 ^ 32 ∧ s.d < 2 ^ 32 ∧ s.e < 2 ^ 32 ∧ s.f < 2 ^ 32 ∧ s.g < 2 ^ 32 ∧ s.h < 2 ^ 32
def N8.i (s : N8) : S8 := ⟨s.a, s.b, s.c, s.d, s.e, s.f, s.g, s.h⟩
def N8.u (s : N8) (k v : Nat) : Nat := (s.h + big1N s.e + chN s.e s.f s.g + k + v) % 4294967296
/-- One round, as plain numbers. -/
def N8.step (s : N8) (k v : Nat) : N8 := ⟨(s.u k v + (big0N s.a + majN s.a s.b s.c)) % 4294967296, s.a, s.b, s.c, (s.d + s.u k v) % 4294967296, s.e, s.f, s.g⟩
theorem step_nat (s : N8) (k v : Nat) (h : s.ok) : S8.step s.i k v = (s.step k v).i ∧ (s.step k v).ok := by
  obtain ⟨ha, hb, hc, hd, he, hf, hg, hh⟩ := h
  have h1 := big1_nat s.e he
  have h2 := ch_nat s.e s.f s.g he hf hg
  have h3 := big0_nat s.a ha
  have h4 := maj_nat s.a s.b s.c ha hb hc
  have hu : S8.u s.i k v = (s.u k v : Int) := by
    unfold S8.u N8.u N8.i
    simp only
    rw [h1.1, h2.1]
    omega
  have hul : s.u k v < 2 ^ 32 := Nat.mod_lt _ (by decide)
  refine ⟨?_, Nat.mod_lt _ (by decide), ha, hb, hc, Nat.mod_lt _ (by decide), he, hf, hg⟩
  unfold S8.step
  rw [hu]
  unfold N8.step N8.i
  simp only
  rw [h3.1, h4.1]
  congr 1
  all_goals omega
def roundsN (wl ks : List Nat) : Nat → N8 → N8
  | 0, s => s
  | n + 1, s => (roundsN wl ks n s).step (ks.getD n 0) (wl.getD n 0)
theorem rounds_nat (wl ks : List Nat) (n : Nat) (s : N8) (h : s.ok) : rounds8 (toI wl) (toI ks) n s.i = (roundsN wl ks n s).i ∧ (roundsN wl ks n s).ok := by
  induction n with
  | zero => exact ⟨rfl, h⟩
  | succ n ih =>
    obtain ⟨h1, h2⟩ := step_nat (roundsN wl ks n s) (ks.getD n 0) (wl.getD n 0) ih.2
    refine ⟨?_, h2⟩
    show (rounds8 (toI wl) (toI ks) n s.i).step ((toI ks).getD n 0) ((toI wl).getD n 0) = _
    rw [ih.1, toI_get, toI_get, h1]
    rfl
/-- The state behind a block, as plain numbers. -/
def mixN (q : N8) (s : ByteArray) (ks : List Nat) : N8 :=
  ⟨(q.a + (roundsN (wsN s 64) ks 64 q).a) % 4294967296, (q.b + (roundsN (wsN s 64) ks 64 q).b) % 4294967296, (q.c + (roundsN (wsN s 64) ks 64 q).c) % 4294967296, (q.d + (roundsN (wsN s 64) ks 64 q).d) % 4294967296, (q.e + (roundsN (wsN s 64) ks 64 q).e) % 4294967296, (q.f + (roundsN (wsN s 64) ks 64 q).f) % 4294967296, (q.g + (roundsN (wsN s 64) ks 64 q).g) % 4294967296, (q.h + (roundsN (wsN s 64) ks 64 q).h) % 4294967296⟩
theorem mix_nat (q : N8) (s : ByteArray) (ks : List Nat) (h : q.ok) : mixS q.i s (toI ks) = (mixN q s ks).i ∧ (mixN q s ks).ok := by
  have h1 := (rounds_nat (wsN s 64) ks 64 q h).1
  rw [← (ws_nat s 64).1] at h1
  refine ⟨?_, Nat.mod_lt _ (by decide), Nat.mod_lt _ (by decide), Nat.mod_lt _ (by decide), Nat.mod_lt _ (by decide), Nat.mod_lt _ (by decide), Nat.mod_lt _ (by decide), Nat.mod_lt _ (by decide), Nat.mod_lt _ (by decide)⟩
  unfold mixS
  rw [h1]
  unfold mixN N8.i
  simp only
  generalize roundsN (wsN s 64) ks 64 q = r
  congr 1
end Go.Proofs.YtoceglbdnbnjpaaDoor

/- The digest's sum as plain numbers: block by block of the text with its ending behind it. -/
namespace Go.Proofs.YtoceglbdnbnjpaaDoor
open Go.RowKit

/-- A block of a list of bytes. -/
def blk (P : List UInt8) (n : Nat) : ByteArray := ⟨((P.drop (64 * n)).take 64).toArray⟩
/-- The state behind so many blocks, from one of them on. -/
def stF (P : List UInt8) (ks : List Nat) (off : Nat) (q : N8) : Nat → N8
  | 0 => q
  | n + 1 => mixN (stF P ks off q n) (blk P (off + n)) ks
theorem stF_ok (P : List UInt8) (ks : List Nat) (off : Nat) (q : N8) (hq : q.ok) (n : Nat) : (stF P ks off q n).ok := by
  induction n with
  | zero => exact hq
  | succ n ih => exact (mix_nat _ _ ks ih).2
theorem stF_add (P : List UInt8) (ks : List Nat) (q : N8) (m n : Nat) : stF P ks m (stF P ks 0 q m) n = stF P ks 0 q (m + n) := by
  induction n with
  | zero => rfl
  | succ n ih =>
    show mixN (stF P ks m (stF P ks 0 q m) n) (blk P (m + n)) ks = mixN (stF P ks 0 q (m + n)) (blk P (0 + (m + n))) ks
    rw [ih, Nat.zero_add]
theorem blocks_nat (s : ByteArray) (P : List UInt8) (ks : List Nat) (off : Nat) (q : N8) (hq : q.ok) (n : Nat) (h : ∀ j, j < n → s.extract (64 * j) (64 * j + 64) = blk P (off + j)) : blocks s (toI ks) q.i n = (stF P ks off q n).i := by
  induction n with
  | zero => rfl
  | succ n ih =>
    show mixS (blocks s (toI ks) q.i n) (s.extract (64 * n) (64 * n + 64)) (toI ks) = _
    rw [ih fun j hj => h j (by omega), h n (by omega), (mix_nat _ _ ks (stF_ok P ks off q hq n)).1]
    rfl
theorem ex_data (s : ByteArray) (a b : Nat) : (s.extract a b).data.toList = (s.data.toList.take b).drop a := by rw [Lib.extract_data, List.drop_take]
theorem blk_ext {s : ByteArray} {P : List UInt8} {n a : Nat} (h : (s.data.toList.take (a + 64)).drop a = (P.drop (64 * n)).take 64) : s.extract a (a + 64) = blk P n := by
  have h1 := ex_data s a (a + 64)
  rw [h] at h1
  have hb : ∀ x : ByteArray, x = ⟨x.data.toList.toArray⟩ := fun x => by cases x; simp
  refine (hb _).trans ?_
  rw [h1]
  rfl
/-- A text with its ending behind it. -/
def padL (s : ByteArray) : List UInt8 := s.data.toList ++ endB s.size
theorem s_len (s : ByteArray) : s.data.toList.length = s.size := Array.length_toList
theorem tail_data (s : ByteArray) : (tailOf s).data.toList = (padL s).drop (64 * (s.size / 64)) := by
  have h := s_len s
  unfold tailOf padL
  rw [List.drop_append_of_le_length (by omega)]
  have e1 : (s.extract (s.size - s.size % 64) s.size ++ (⟨(endB s.size).toArray⟩ : ByteArray)).data.toList = (s.extract (s.size - s.size % 64) s.size).data.toList ++ endB s.size := by simp
  rw [e1, ex_data, List.take_of_length_le (by omega), show s.size - s.size % 64 = 64 * (s.size / 64) from by omega]
theorem pad_len (s : ByteArray) : (padL s).length = 64 * (s.size / 64) + (tailOf s).size ∧ (tailOf s).size % 64 = 0 := by
  have h := s_len s
  have h1 := tail_size s
  have h2 := endB_len s.size
  refine ⟨?_, ?_⟩
  · unfold padL
    rw [List.length_append, h, h2]
    omega
  · rw [h1]
    unfold endQ
    omega
theorem sumS_nat (s : ByteArray) (ks : List Nat) (q : N8) (hq : q.ok) : sumS s q.i (toI ks) = (stF (padL s) ks 0 q ((padL s).length / 64)).i := by
  have h := s_len s
  obtain ⟨hp, hp2⟩ := pad_len s
  have e1 : blocks s (toI ks) q.i (s.size / 64) = (stF (padL s) ks 0 q (s.size / 64)).i := by
    refine blocks_nat s (padL s) ks 0 q hq _ fun j hj => ?_
    rw [Nat.zero_add]
    refine blk_ext ?_
    unfold padL
    rw [List.drop_append_of_le_length (by omega), List.take_append_of_le_length (by rw [List.length_drop]; omega), List.drop_take]
    congr 1
    omega
  have e2 : blocks (tailOf s) (toI ks) (stF (padL s) ks 0 q (s.size / 64)).i ((tailOf s).size / 64) = (stF (padL s) ks (s.size / 64) (stF (padL s) ks 0 q (s.size / 64)) ((tailOf s).size / 64)).i := by
    refine blocks_nat (tailOf s) (padL s) ks (s.size / 64) _ (stF_ok _ _ _ _ hq _) _ fun j hj => ?_
    refine blk_ext ?_
    rw [tail_data, List.drop_take, List.drop_drop, show 64 * (s.size / 64) + 64 * j = 64 * (s.size / 64 + j) from by omega]
    congr 1
    omega
  unfold sumS
  rw [e1, e2, stF_add]
  congr 2
  omega

/-- Digit j of a number, the greatest first, as plain numbers. -/
def digN (x j : Nat) : UInt8 := UInt8.ofNat (hexC (x / 2 ^ (28 - 4 * j) % 16))
theorem dgt_nat (x j : Nat) (hx : x < 2 ^ 32) : dgt (x : Int) j = digN x j := by
  have h1 : x / 2 ^ (28 - 4 * j) < 2 ^ 32 := Nat.lt_of_le_of_lt (Nat.div_le_self _ _) hx
  have h2 : nib (x : Int) (28 - 4 * j) = ((x / 2 ^ (28 - 4 * j) % 16 : Nat) : Int) := by
    unfold nib
    rw [show (x : Int) / 2 ^ (28 - 4 * j) = ((x / 2 ^ (28 - 4 * j) : Nat) : Int) from by push_cast; rfl]
    have := and_u32 (x / 2 ^ (28 - 4 * j)) 15 h1 (by decide)
    rw [show ((15 : Nat) : Int) = 15 from rfl] at this
    rw [this, show x / 2 ^ (28 - 4 * j) &&& 15 = x / 2 ^ (28 - 4 * j) % 16 from Nat.and_two_pow_sub_one_eq_mod _ 4]
  unfold dgt digN
  rw [h2, Int.toNat_natCast]
/-- The digits of a state, as plain numbers. -/
def digsN (q : N8) : List UInt8 := [q.a, q.b, q.c, q.d, q.e, q.f, q.g, q.h].flatMap fun x => (List.range 8).map (digN x)
theorem dgs_nat (q : N8) (h : q.ok) : dgs q.i.l = digsN q := by
  obtain ⟨ha, hb, hc, hd, he, hf, hg, hh⟩ := h
  have e : ∀ x : Nat, x < 2 ^ 32 → dg (x : Int) 8 = (List.range 8).map (digN x) := fun x hx => List.map_congr_left fun j _ => dgt_nat x j hx
  unfold dgs digsN N8.i S8.l
  simp only [List.flatMap_cons, List.flatMap_nil]
  rw [e _ ha, e _ hb, e _ hc, e _ hd, e _ he, e _ hf, e _ hg, e _ hh]
/-- What the digest sums to: the digits of the state behind all blocks of the text with its ending behind it. -/
theorem sumB_nat (s : ByteArray) (ks : List Nat) (q : N8) (hq : q.ok) : sumB s q.i (toI ks) = ⟨(digsN (stF (padL s) ks 0 q ((padL s).length / 64))).toArray⟩ := by
  unfold sumB
  rw [sumS_nat s ks q hq, dgs_nat _ (stF_ok _ _ _ _ hq _)]
end Go.Proofs.YtoceglbdnbnjpaaDoor

/- The document's own Firsts and Constants: the numbers that the digest's variables are laid with. -/
namespace Go.Proofs.YtoceglbdnbnjpaaDoor
open Go.RowKit

def sqN : List Nat := sqL.map Int.toNat
def cuN : List Nat := cuL.map Int.toNat
theorem sqN_i : toI sqN = sqL := by kernel_rfl
theorem cuN_i : toI cuN = cuL := by kernel_rfl
def q0 : N8 := ⟨sqN.getD 0 0, sqN.getD 1 0, sqN.getD 2 0, sqN.getD 3 0, sqN.getD 4 0, sqN.getD 5 0, sqN.getD 6 0, sqN.getD 7 0⟩
theorem q0_i : q0.i = sq8 := by kernel_rfl
theorem q0_ok : q0.ok := by
  have h : (decide (q0.a < 2 ^ 32) && decide (q0.b < 2 ^ 32) && decide (q0.c < 2 ^ 32) && decide (q0.d < 2 ^ 32) && decide (q0.e < 2 ^ 32) && decide (q0.f < 2 ^ 32) && decide (q0.g < 2 ^ 32) && decide (q0.h < 2 ^ 32)) = true := by kernel_rfl
  simp only [Bool.and_eq_true, decide_eq_true_eq] at h
  exact ⟨h.1.1.1.1.1.1.1, h.1.1.1.1.1.1.2, h.1.1.1.1.1.2, h.1.1.1.1.2, h.1.1.1.2, h.1.1.2, h.1.2, h.2⟩
theorem sum_plain (s : ByteArray) : sumB s sq8 cuL = ⟨(digsN (stF (padL s) cuN 0 q0 ((padL s).length / 64))).toArray⟩ := by
  rw [← q0_i, ← cuN_i]
  exact sumB_nat s cuN q0 q0_ok
/-- These numbers, as cells. -/
def intCells (l : List Nat) : Array Value := (l.map fun (n : Nat) => Value.int .i64 (n : Int)).toArray

set_option maxHeartbeats 2000000 in
set_option maxRecDepth 100000 in
theorem Firsts_any (w : World) :
    Calls Tryd.prog 29 #[] w fun e w' => e = .returned (.slice (some ⟨w.heap.size, 0, none⟩) 8 8) ∧ w' = w.alloc (.cells (intCells sqN) 3) := by
  have HC : Hid (intCells sqN = #[.int .i64 1779033703, .int .i64 3144134277, .int .i64 1013904242, .int .i64 2773480762, .int .i64 1359893119, .int .i64 2600822924, .int .i64 528734635, .int .i64 1541459225]) := by show _ = _; kernel_rfl
  rw [HC.out]
  go_enter Tryd.func29, Tryd.ntmps29
  go_wp2
  go_ret
  exact ⟨rfl, rfl⟩

set_option maxHeartbeats 4000000 in
set_option maxRecDepth 100000 in
theorem Constants_any (w : World) :
    Calls Tryd.prog 28 #[] w fun e w' => e = .returned (.slice (some ⟨w.heap.size, 0, none⟩) 64 64) ∧ w' = w.alloc (.cells (intCells cuN) 3) := by
  obtain ⟨C, hC⟩ : ∃ C, C = intCells cuN := ⟨_, rfl⟩
  rw [← hC]
  have HC : Hid (C = intCells cuN) := hC
  clear hC
  go_enter Tryd.func28, Tryd.ntmps28
  go_wp2
  go_ret
  refine ⟨rfl, ?_⟩
  rw [HC.out]
  exact congrArg (fun c => w.alloc (.cells c 3)) (by kernel_rfl)
end Go.Proofs.YtoceglbdnbnjpaaDoor

/- The document's own Sum, in parts: its loops, taken out of its text; what lies where. -/
namespace Go.Proofs.YtoceglbdnbnjpaaDoor
open Go.RowKit

/-- A part of a text, by the way that leads to it. -/
def subC : List Bool → Code → Code
  | [], c => c
  | false :: p, .seq a _ => subC p a
  | true :: p, .seq _ b => subC p b
  | _ :: p, .block _ c => subC p c
  | _ :: p, .loop c => subC p c
  | false :: p, .cond _ a _ => subC p a
  | true :: p, .cond _ _ b => subC p b
  | _ :: _, c => c
end Go.Proofs.YtoceglbdnbnjpaaDoor

/- The document's own Sum: one round's parts. -/
namespace Go.Proofs.YtoceglbdnbnjpaaDoor
open Go.RowKit
variable (A0 A1 A2 A3 A4 A5 A6 A7 A8 A9 B0 B1 B2 B3 B4 B5 B6 B7 B8 B9 C0 C1 C2 C3 C4 C5 C6 C7 C8 C9 D0 D1 D2 D3 D4 D5 D6 D7 D8 D9 E0 E1 E2 E3 E4 E5 E6 E7 E8 E9 G0 G1 G2 G3 G4 G5 G6 G7 G8 G9 H0 H1 H2 H3 H4 H5 H6 H7 H8 H9 I0 I1 I2 I3 I4 I5 I6 I7 I8 I9 J0 J1 J2 J3 J4 J5 J6 J7 J8 J9 K0 K1 K2 K3 K4 K5 K6 K7 K8 K9 M0 M1 M2 M3 M4 M5 M6 M7 M8 M9 O0 O1 O2 O3 O4 O5 O6 O7 O8 O9 P0 P1 P2 P3 P4 P5 P6 P7 P8 P9 R0 R1 R2 R3 R4 R5 R6 R7 R8 R9 S0 S1 S2 S3 S4 S5 S6 S7 S8 S9 T0 T1 T2 T3 T4 T5 T6 T7 T8 T9 U0 U1 U2 U3 U4 U5 U6 U7 U8 U9 V0 V1 V2 V3 V4 V5 V6 V7 V8 V9 W0 W1 W2 W3 W4 W5 W6 W7 W8 W9 X0 X1 X2 X3 X4 X5 X6 X7 X8 X9 Y0 Y1 Y2 Y3 Y4 Y5 Y6 Y7 Y8 Y9 Z0 Z1 Z2 Z3 Z4 Z5 Z6 Z7 Z8 Z9 j0 j1 j2 j3 j4 j5 j6 j7 j8 j9 o0 o1 o2 o3 o4 o5 o6 o7 o8 o9 y0 y1 y2 y3 y4 y5 y6 y7 y8 y9 z0 z1 z2 z3 z4 z5 z6 z7 z8 z9 x0 x1 x2 x3 x4 x5 x6 x7 x8 x9 i0 i1 i2 i3 i4 i5 i6 i7 i8 i9 v0 v1 v2 v3 : Value)

theorem Xor_2 (W : World) (b a1 a2 : Nat) (h1 : a1 < 2 ^ 32) (h2 : a2 < 2 ^ 32) (r : Nat) (hr : r = a1 ^^^ a2) (c0 : W.cell? ⟨b, 0, none⟩ = some (.int .i64 a1)) (c1 : W.cell? ⟨b, 1, none⟩ = some (.int .i64 a2)) :
    Calls Tryd.prog 30 #[.slice (some ⟨b, 0, none⟩) 2 2] W fun e w' => e = .returned (.int .i64 (r : Int)) ∧ w' = W := by
  have := Xor_any b 2 [a1, a2] W (by simp) (by simp [h1, h2]) (fun j hj => by match j, hj with | 0, _ => exact c0 | 1, _ => exact c1)
  rw [hr]
  simpa [xors] using this
theorem Xor_3 (W : World) (b a1 a2 a3 : Nat) (h1 : a1 < 2 ^ 32) (h2 : a2 < 2 ^ 32) (h3 : a3 < 2 ^ 32) (r : Nat) (hr : r = a1 ^^^ a2 ^^^ a3) (c0 : W.cell? ⟨b, 0, none⟩ = some (.int .i64 a1)) (c1 : W.cell? ⟨b, 1, none⟩ = some (.int .i64 a2)) (c2 : W.cell? ⟨b, 2, none⟩ = some (.int .i64 a3)) :
    Calls Tryd.prog 30 #[.slice (some ⟨b, 0, none⟩) 3 3] W fun e w' => e = .returned (.int .i64 (r : Int)) ∧ w' = W := by
  have := Xor_any b 3 [a1, a2, a3] W (by simp) (by simp [h1, h2, h3]) (fun j hj => by match j, hj with | 0, _ => exact c0 | 1, _ => exact c1 | 2, _ => exact c2)
  rw [hr]
  simpa [xors] using this

set_option maxHeartbeats 4000000 in
set_option maxRecDepth 100000 in
theorem r33 (w : World) (e f h g c : Nat) (he : e < 2 ^ 32) (hf : f < 2 ^ 32) (hh : h < 2 ^ 32)
    (c5 : w.cell? ⟨g, 5, none⟩ = some (.int .i64 f)) (c6 : w.cell? ⟨g, 6, none⟩ = some (.int .i64 h)) (hg : g < w.heap.size) (Q0 : Exit → Act → World → Prop)
    (HX : Hid (∀ (Mb Mc Mf Mg Mh Mj Mk Mm Mq Mt Mv Mw Mx : Value) (w' : World), Below w.heap.size w w' → Q0 .normal ⟨#[A0,A1,A2,A3,A4,A5,A6,A7,A8,A9,B0,B1,B2,B3,B4,B5,B6,.slice (some ⟨g, 0, none⟩) 8 c,B8,B9,.int .i64 e,.int .i64 (chN e f h : Nat),C2,C3,C4,C5,C6,C7,C8,C9,D0,D1,D2,D3,D4,D5,D6,D7,D8,D9,E0,E1,E2,E3,E4,E5,E6,E7,E8,E9,G0,G1,G2,G3,G4,G5,G6,G7,G8,G9,H0,H1,H2,H3,H4,H5,H6,H7,H8,H9,I0,I1,I2,I3,I4,I5,I6,I7,I8,I9,J0,J1,J2,J3,J4,J5,J6,J7,J8,J9,K0,K1,K2,K3,K4,K5,K6,K7,K8,K9,M0,M1,M2,M3,M4,M5,M6,M7,M8,M9,O0,O1,O2,O3,O4,O5,O6,O7,O8,O9,P0,P1,P2,P3,P4,P5,P6,P7,P8,P9,R0,R1,R2,R3,R4,R5,R6,R7,R8,R9,S0,S1,S2,S3,S4,S5,S6,S7,S8,S9,Mb,Mc,Mf,Mg,Mh,Mj,Mk,Mm,Mq,Mt,Mv,Mw,Mx,U3,U4,U5,U6,U7,U8,U9,V0,V1,V2,V3,V4,V5,V6,V7,V8,V9,W0,W1,W2,W3,W4,W5,W6,W7,W8,W9,X0,X1,X2,X3,X4,X5,X6,X7,X8,X9,Y0,Y1,Y2,Y3,Y4,Y5,Y6,Y7,Y8,Y9,Z0,Z1,Z2,Z3,Z4,Z5,Z6,Z7,Z8,Z9,j0,j1,j2,j3,j4,j5,j6,j7,j8,j9,o0,o1,o2,o3,o4,o5,o6,o7,o8,o9,y0,y1,y2,y3,y4,y5,y6,y7,y8,y9,z0,z1,z2,z3,z4,z5,z6,z7,z8,z9,x0,x1,x2,x3,x4,x5,x6,x7,x8,x9,i0,i1,i2,i3,i4,i5,i6,i7,i8,i9,v0,v1,v2,v3], []⟩ w')) :
    Code.wp Tryd.prog (subC [true, true, true, true, true, true, false, true, false, false, true, false, false, true, true, true, false, true, false, false, true, false, false, true, false] (Tryd.f11.body.getD .skip)) Q0 ⟨#[A0,A1,A2,A3,A4,A5,A6,A7,A8,A9,B0,B1,B2,B3,B4,B5,B6,.slice (some ⟨g, 0, none⟩) 8 c,B8,B9,.int .i64 e,C1,C2,C3,C4,C5,C6,C7,C8,C9,D0,D1,D2,D3,D4,D5,D6,D7,D8,D9,E0,E1,E2,E3,E4,E5,E6,E7,E8,E9,G0,G1,G2,G3,G4,G5,G6,G7,G8,G9,H0,H1,H2,H3,H4,H5,H6,H7,H8,H9,I0,I1,I2,I3,I4,I5,I6,I7,I8,I9,J0,J1,J2,J3,J4,J5,J6,J7,J8,J9,K0,K1,K2,K3,K4,K5,K6,K7,K8,K9,M0,M1,M2,M3,M4,M5,M6,M7,M8,M9,O0,O1,O2,O3,O4,O5,O6,O7,O8,O9,P0,P1,P2,P3,P4,P5,P6,P7,P8,P9,R0,R1,R2,R3,R4,R5,R6,R7,R8,R9,S0,S1,S2,S3,S4,S5,S6,S7,S8,S9,T0,T1,T2,T3,T4,T5,T6,T7,T8,T9,U0,U1,U2,U3,U4,U5,U6,U7,U8,U9,V0,V1,V2,V3,V4,V5,V6,V7,V8,V9,W0,W1,W2,W3,W4,W5,W6,W7,W8,W9,X0,X1,X2,X3,X4,X5,X6,X7,X8,X9,Y0,Y1,Y2,Y3,Y4,Y5,Y6,Y7,Y8,Y9,Z0,Z1,Z2,Z3,Z4,Z5,Z6,Z7,Z8,Z9,j0,j1,j2,j3,j4,j5,j6,j7,j8,j9,o0,o1,o2,o3,o4,o5,o6,o7,o8,o9,y0,y1,y2,y3,y4,y5,y6,y7,y8,y9,z0,z1,z2,z3,z4,z5,z6,z7,z8,z9,x0,x1,x2,x3,x4,x5,x6,x7,x8,x9,i0,i1,i2,i3,i4,i5,i6,i7,i8,i9,v0,v1,v2,v3], []⟩ w := by
  have HB : Hid (Below w.heap.size w w) := Below.refl _ _
  obtain ⟨ne, hne⟩ : ∃ ne, ne = 4294967295 - e := ⟨_, rfl⟩
  have hsub : (4294967295 : Int) - (e : Int) = (ne : Int) := by omega
  obtain ⟨a1, ha1⟩ : ∃ a1, a1 = e &&& f := ⟨_, rfl⟩
  obtain ⟨a2, ha2⟩ : ∃ a2, a2 = ne &&& h := ⟨_, rfl⟩
  obtain ⟨r, hr⟩ : ∃ r, r = a1 ^^^ a2 := ⟨_, rfl⟩
  have HR : Hid (chN e f h = r) := by show _ = _; unfold chN; rw [hr, ha1, ha2, hne]
  have HA1 : Hid (∀ W : World, Calls Tryd.prog 33 #[.int .i64 e, .int .i64 f] W fun e w' => e = .returned (.int .i64 (a1 : Int)) ∧ w' = W) := fun W => by rw [ha1]; exact And_any e f W he hf
  have HA2 : Hid (∀ W : World, Calls Tryd.prog 33 #[.int .i64 ne, .int .i64 h] W fun e w' => e = .returned (.int .i64 (a2 : Int)) ∧ w' = W) := fun W => by rw [ha2]; exact And_any ne h W (by omega) hh
  have HXO : Hid (∀ (W : World) (b : Nat), W.cell? ⟨b, 0, none⟩ = some (.int .i64 a1) → W.cell? ⟨b, 1, none⟩ = some (.int .i64 a2) → Calls Tryd.prog 30 #[.slice (some ⟨b, 0, none⟩) 2 2] W fun e w' => e = .returned (.int .i64 (r : Int)) ∧ w' = W) := fun W b =>
    Xor_2 W b a1 a2 (by rw [ha1]; exact Nat.and_lt_two_pow _ hf) (by rw [ha2]; exact Nat.and_lt_two_pow _ hh) r hr
  rw [HR.out] at HX
  have wn : IntKind.i64.wrap (ne : Int) = (ne : Int) := wr62 ne (by omega)
  clear hr ha1 ha2 he hf hh HR hne
  conv => arg 2; whnf
  go_region_held3 (fun w' => w'.cell? ⟨g, 5, none⟩ = some (.int .i64 f) ∧ w'.cell? ⟨g, 6, none⟩ = some (.int .i64 h) ∧ g < w'.heap.size)
    (first | (simp [go_sem, *]; done) | (simp [go_sem, c5, c6, hg]; omega))
    (first
      | (go_at_call_of 33 (Value.int IntKind.i64 (e : Int)); refine (HA1.out _).mono ?_; rintro e w' ⟨rfl, rfl⟩)
      | (go_at_call_of 33 (Value.int IntKind.i64 (ne : Int)); refine (HA2.out _).mono ?_; rintro e w' ⟨rfl, rfl⟩)
      | (go_at_call 30; refine (HXO.out _ _ (by simp [go_sem]) (by simp [go_sem])).mono ?_; rintro e w' ⟨rfl, rfl⟩)
      | fail)
  all_goals exact HX.out _ _ _ _ _ _ _ _ _ _ _ _ _ _ (HB.out.alloc (Nat.le_refl _) _).drew

theorem al_atC (W : World) (b : Nat) (cs : Array Value) (ty : TypeId) (k : Nat) (v : Value) (hb : b = W.heap.size) (hv : cs[k]? = some v) : (W.alloc (.cells cs ty)).cell? ⟨b, k, none⟩ = some v := by
  subst hb
  rw [Lib.cell_of_heap (heap_alloc_new W _)]
  exact hv
theorem bl_al {a w : World} (h : Below a.heap.size a w) (o : Obj) : Below a.heap.size a (w.alloc o) := h.alloc h.size o
theorem bl_dn {a w : World} (h : Below a.heap.size a w) (n : Nat) : Below a.heap.size a (w.drewN n) := below_drewN h n
theorem bl_dr {a w : World} (h : Below a.heap.size a w) : Below a.heap.size a w.drew := h.drew
theorem wr60 (n : Nat) (h : n < 2 ^ 40) : IntKind.i64.wrap (n : Int) = (n : Int) := by rw [IntKind.wrap_i64]; omega
theorem big_lt (x : Nat) (hx : x < 2 ^ 32) : big1N x < 2 ^ 32 ∧ big0N x < 2 ^ 32 ∧ sig0N x < 2 ^ 32 ∧ sig1N x < 2 ^ 32 := ⟨(big1_nat x hx).2, (big0_nat x hx).2, (sig0_nat x hx).2, (sig1_nat x hx).2⟩

set_option maxHeartbeats 4000000 in
set_option maxRecDepth 100000 in
theorem r34 (w : World) (e h ch kv wv g c kb kc wb wc t : Nat) (he : e < 2 ^ 32) (hh : h < 2 ^ 32) (hch : ch < 2 ^ 32) (hkv : kv < 2 ^ 32) (hwv : wv < 2 ^ 32) (ht : t < 64)
    (c7 : w.cell? ⟨g, 7, none⟩ = some (.int .i64 h)) (ck : w.cell? ⟨kb, t, none⟩ = some (.int .i64 kv)) (cw : w.cell? ⟨wb, t, none⟩ = some (.int .i64 wv)) (hg : g < w.heap.size) (hkb : kb < w.heap.size) (hwb : wb < w.heap.size) (Q0 : Exit → Act → World → Prop)
    (hexit : ∀ (My Mz Ob Oc Of Og Oh Oj Ok Om Oq Ot Ov Ow Ox Oy Oz Pb Pc Pf Pg Ph Pj Pk Pm : Value) (w' : World), Below w.heap.size w w' → Q0 .normal ⟨#[A0,A1,A2,A3,A4,A5,.slice (some ⟨kb, 0, none⟩) 64 kc,A7,A8,.slice (some ⟨wb, 0, none⟩) 64 wc,B0,B1,B2,B3,B4,B5,B6,.slice (some ⟨g, 0, none⟩) 8 c,.int .i64 t,B9,.int .i64 e,.int .i64 ch,.int .i64 ((h + big1N e + ch + kv + wv) % 4294967296 : Nat),C3,C4,C5,C6,C7,C8,C9,D0,D1,D2,D3,D4,D5,D6,D7,D8,D9,E0,E1,E2,E3,E4,E5,E6,E7,E8,E9,G0,G1,G2,G3,G4,G5,G6,G7,G8,G9,H0,H1,H2,H3,H4,H5,H6,H7,H8,H9,I0,I1,I2,I3,I4,I5,I6,I7,I8,I9,J0,J1,J2,J3,J4,J5,J6,J7,J8,J9,K0,K1,K2,K3,K4,K5,K6,K7,K8,K9,M0,M1,M2,M3,M4,M5,M6,M7,M8,M9,O0,O1,O2,O3,O4,O5,O6,O7,O8,O9,P0,P1,P2,P3,P4,P5,P6,P7,P8,P9,R0,R1,R2,R3,R4,R5,R6,R7,R8,R9,S0,S1,S2,S3,S4,S5,S6,S7,S8,S9,T0,T1,T2,T3,T4,T5,T6,T7,T8,T9,U0,U1,U2,My,Mz,Ob,Oc,Of,Og,Oh,Oj,Ok,Om,Oq,Ot,Ov,Ow,Ox,Oy,Oz,Pb,Pc,Pf,Pg,Ph,Pj,Pk,Pm,W8,W9,X0,X1,X2,X3,X4,X5,X6,X7,X8,X9,Y0,Y1,Y2,Y3,Y4,Y5,Y6,Y7,Y8,Y9,Z0,Z1,Z2,Z3,Z4,Z5,Z6,Z7,Z8,Z9,j0,j1,j2,j3,j4,j5,j6,j7,j8,j9,o0,o1,o2,o3,o4,o5,o6,o7,o8,o9,y0,y1,y2,y3,y4,y5,y6,y7,y8,y9,z0,z1,z2,z3,z4,z5,z6,z7,z8,z9,x0,x1,x2,x3,x4,x5,x6,x7,x8,x9,i0,i1,i2,i3,i4,i5,i6,i7,i8,i9,v0,v1,v2,v3], []⟩ w') :
    Code.wp Tryd.prog (subC [true, true, true, true, true, true, false, true, false, false, true, false, false, true, true, true, false, true, false, false, true, false, false, true, true, false] (Tryd.f11.body.getD .skip)) Q0 ⟨#[A0,A1,A2,A3,A4,A5,.slice (some ⟨kb, 0, none⟩) 64 kc,A7,A8,.slice (some ⟨wb, 0, none⟩) 64 wc,B0,B1,B2,B3,B4,B5,B6,.slice (some ⟨g, 0, none⟩) 8 c,.int .i64 t,B9,.int .i64 e,.int .i64 ch,C2,C3,C4,C5,C6,C7,C8,C9,D0,D1,D2,D3,D4,D5,D6,D7,D8,D9,E0,E1,E2,E3,E4,E5,E6,E7,E8,E9,G0,G1,G2,G3,G4,G5,G6,G7,G8,G9,H0,H1,H2,H3,H4,H5,H6,H7,H8,H9,I0,I1,I2,I3,I4,I5,I6,I7,I8,I9,J0,J1,J2,J3,J4,J5,J6,J7,J8,J9,K0,K1,K2,K3,K4,K5,K6,K7,K8,K9,M0,M1,M2,M3,M4,M5,M6,M7,M8,M9,O0,O1,O2,O3,O4,O5,O6,O7,O8,O9,P0,P1,P2,P3,P4,P5,P6,P7,P8,P9,R0,R1,R2,R3,R4,R5,R6,R7,R8,R9,S0,S1,S2,S3,S4,S5,S6,S7,S8,S9,T0,T1,T2,T3,T4,T5,T6,T7,T8,T9,U0,U1,U2,U3,U4,U5,U6,U7,U8,U9,V0,V1,V2,V3,V4,V5,V6,V7,V8,V9,W0,W1,W2,W3,W4,W5,W6,W7,W8,W9,X0,X1,X2,X3,X4,X5,X6,X7,X8,X9,Y0,Y1,Y2,Y3,Y4,Y5,Y6,Y7,Y8,Y9,Z0,Z1,Z2,Z3,Z4,Z5,Z6,Z7,Z8,Z9,j0,j1,j2,j3,j4,j5,j6,j7,j8,j9,o0,o1,o2,o3,o4,o5,o6,o7,o8,o9,y0,y1,y2,y3,y4,y5,y6,y7,y8,y9,z0,z1,z2,z3,z4,z5,z6,z7,z8,z9,x0,x1,x2,x3,x4,x5,x6,x7,x8,x9,i0,i1,i2,i3,i4,i5,i6,i7,i8,i9,v0,v1,v2,v3], []⟩ w := by
  have HX : Hid _ := hexit
  have HB : Hid (Below w.heap.size w w) := Below.refl _ _
  have hti : (t : Int) < 64 := by omega
  have bl := (big_lt e he).1
  have l1 := (right_lt e 6 he (by decide)).2
  have l2 := (right_lt e 11 he (by decide)).2
  have l3 := (right_lt e 25 he (by decide)).2
  have HA1 : Hid (∀ W : World, Calls Tryd.prog 31 #[.int .i64 e, .int .i64 6] W fun e' w' => e' = .returned (.int .i64 (rightN e 6 : Nat)) ∧ ∃ m, w' = W.drewN m) := fun W => Right_any e 6 W he (by decide) (by decide)
  have HA2 : Hid (∀ W : World, Calls Tryd.prog 31 #[.int .i64 e, .int .i64 11] W fun e' w' => e' = .returned (.int .i64 (rightN e 11 : Nat)) ∧ ∃ m, w' = W.drewN m) := fun W => Right_any e 11 W he (by decide) (by decide)
  have HA3 : Hid (∀ W : World, Calls Tryd.prog 31 #[.int .i64 e, .int .i64 25] W fun e' w' => e' = .returned (.int .i64 (rightN e 25 : Nat)) ∧ ∃ m, w' = W.drewN m) := fun W => Right_any e 25 W he (by decide) (by decide)
  have HXO : Hid (∀ (W : World) (b : Nat), W.cell? ⟨b, 0, none⟩ = some (.int .i64 (rightN e 6 : Nat)) → W.cell? ⟨b, 1, none⟩ = some (.int .i64 (rightN e 11 : Nat)) → W.cell? ⟨b, 2, none⟩ = some (.int .i64 (rightN e 25 : Nat)) → Calls Tryd.prog 30 #[.slice (some ⟨b, 0, none⟩) 3 3] W fun e' w' => e' = .returned (.int .i64 (big1N e : Nat)) ∧ w' = W) := fun W b => Xor_3 W b _ _ _ l1 l2 l3 _ rfl
  generalize rightN e 6 = p1 at HA1 HXO
  generalize rightN e 11 = p2 at HA2 HXO
  generalize rightN e 25 = p3 at HA3 HXO
  generalize big1N e = bg at HX HXO bl
  obtain ⟨s1, hs1⟩ : ∃ s1, s1 = h + bg := ⟨_, rfl⟩
  obtain ⟨s2, hs2⟩ : ∃ s2, s2 = s1 + ch := ⟨_, rfl⟩
  obtain ⟨s3, hs3⟩ : ∃ s3, s3 = s2 + kv := ⟨_, rfl⟩
  obtain ⟨s4, hs4⟩ : ∃ s4, s4 = s3 + wv := ⟨_, rfl⟩
  obtain ⟨u, hu⟩ : ∃ u, u = s4 % 4294967296 := ⟨_, rfl⟩
  have e1 : (h : Int) + (bg : Int) = (s1 : Int) := by omega
  have e2 : (s1 : Int) + (ch : Int) = (s2 : Int) := by omega
  have e3 : (s2 : Int) + (kv : Int) = (s3 : Int) := by omega
  have e4 : (s3 : Int) + (wv : Int) = (s4 : Int) := by omega
  have HWR : Hid (∀ W : World, Calls Tryd.prog 32 #[.int .i64 s4] W fun e w' => e = .returned (.int .i64 (u : Int)) ∧ w' = W) := fun W => by rw [hu]; exact Wrap_any s4 W
  rw [← hs1, ← hs2, ← hs3, ← hs4, ← hu] at HX
  have f1 := wr60 s1 (by omega)
  have f2 := wr60 s2 (by omega)
  have f3 := wr60 s3 (by omega)
  have f4 := wr60 s4 (by omega)
  clear hs1 hs2 hs3 hs4 hu he hh hch hkv hwv bl l1 l2 l3
  conv => arg 2; whnf
  have HS : Hid (∀ W : World, Below w.heap.size w W → W.cell? ⟨g, 7, none⟩ = some (.int .i64 h) ∧ W.cell? ⟨kb, t, none⟩ = some (.int .i64 kv) ∧ W.cell? ⟨wb, t, none⟩ = some (.int .i64 wv)) := fun W hW => ⟨(hW.cell (p := ⟨g, 7, none⟩) hg).trans c7, (hW.cell (p := ⟨kb, t, none⟩) hkb).trans ck, (hW.cell (p := ⟨wb, t, none⟩) hwb).trans cw⟩
  clear c7 ck cw hg hkb hwb
  go_region_held3 (fun w' => w'.cell? ⟨g, 7, none⟩ = some (.int .i64 h) ∧ w'.cell? ⟨kb, t, none⟩ = some (.int .i64 kv) ∧ w'.cell? ⟨wb, t, none⟩ = some (.int .i64 wv))
    (first | (refine HS.out _ ?_; repeat' (with_reducible (first | exact HB.out | refine bl_al ?_ _ | refine bl_dn ?_ _ | refine bl_dr ?_))) | fail)
    (first
      | (go_at_call_of 31 (Value.int IntKind.i64 (6 : Int)); refine (HA1.out _).mono ?_; rintro e w' ⟨rfl, m1, rfl⟩)
      | (go_at_call_of 31 (Value.int IntKind.i64 (11 : Int)); refine (HA2.out _).mono ?_; rintro e w' ⟨rfl, m2, rfl⟩)
      | (go_at_call_of 31 (Value.int IntKind.i64 (25 : Int)); refine (HA3.out _).mono ?_; rintro e w' ⟨rfl, m3, rfl⟩)
      | (go_at_call 30; refine (HXO.out _ _ (al_atC _ _ _ _ 0 _ rfl rfl) (al_atC _ _ _ _ 1 _ rfl rfl) (al_atC _ _ _ _ 2 _ rfl rfl)).mono ?_; rintro e w' ⟨rfl, rfl⟩)
      | (go_at_call 32; refine (HWR.out _).mono ?_; rintro e w' ⟨rfl, rfl⟩)
      | fail)
  all_goals exact HX.out _ _ _ _ _ _ _ _ _ _ _ _ _ _ _ _ _ _ _ _ _ _ _ _ _ _ (by repeat' (with_reducible (first | exact HB.out | refine bl_al ?_ _ | refine bl_dn ?_ _ | refine bl_dr ?_)))
end Go.Proofs.YtoceglbdnbnjpaaDoor
