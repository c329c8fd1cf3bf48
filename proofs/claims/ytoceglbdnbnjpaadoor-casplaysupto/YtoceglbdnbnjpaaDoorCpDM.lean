/- A store: what is known of a digest that is none; what holds ahead of a deed, and behind it. -/
import Derived.Test.YtoceglbdnbnjpaaDoorCpAM
import Derived.Test.YtoceglbdnbnjpaaDoorCpCM
namespace Go.Proofs.YtoceglbdnbnjpaaDoor
open Go.RowKit Go.Shelf

set_option maxHeartbeats 2000000 in
set_option maxRecDepth 100000 in
theorem Find_bad {P : Nat} {w : World} (d : ByteArray) (hd : digOk d = false) :
    Calls Tryd.prog 21 #[kp P, .string d] w fun r w' => r = .returned (.tuple #[.agg #[.bool false, .int .i64 0, .int .i64 0], .int .i64 1]) ∧ Below w.heap.size w w' := by
  have HL : Hid (Calls Tryd.prog 42 #[kp P, .string d] (w.alloc (.cells #[.bool false, .int .i64 0, .int .i64 0] 47)) fun r w' => r = .returned (.tuple #[.pointer none, .int .i64 1]) ∧ w' = w.alloc (.cells #[.bool false, .int .i64 0, .int .i64 0] 47)) := look_bad d hd
  clear hd
  go_enter Tryd.func21, Tryd.ntmps21
  go_wp2_with (first
    | (go_at_call 42; refine HL.out.mono ?_; rintro r w1 ⟨rfl, rfl⟩)
    | go_in)
  have hn := heap_alloc_new w (.cells #[.bool false, .int .i64 0, .int .i64 0] 47)
  have q0 : (w.alloc (.cells #[.bool false, .int .i64 0, .int .i64 0] 47)).cell? ⟨w.heap.size, 0, none⟩ = some (.bool false) := by rw [Lib.cell_of_heap hn]; rfl
  have q1 : (w.alloc (.cells #[.bool false, .int .i64 0, .int .i64 0] 47)).cell? ⟨w.heap.size, 1, none⟩ = some (.int .i64 0) := by rw [Lib.cell_of_heap hn]; rfl
  have q2 : (w.alloc (.cells #[.bool false, .int .i64 0, .int .i64 0] 47)).cell? ⟨w.heap.size, 2, none⟩ = some (.int .i64 0) := by rw [Lib.cell_of_heap hn]; rfl
  refine bodyPost_ret (v := .tuple #[.agg #[.bool false, .int .i64 0, .int .i64 0], .int .i64 1]) (by simp [results, Tryd.results21, go_sem, q0, q1, q2]) rfl ?_
  exact ⟨rfl, (Below.refl _ w).alloc (Nat.le_refl _) _⟩

theorem bl_tr2 {b : Nat} {u v x : World} (h1 : Below b u v) (h2 : Below b v x) : Below b u x := h1.trans h2
/-- A deed's four cells. -/
def Dcl (g p : Nat) (t : Dd) (W : World) : Prop := W.cell? ⟨g, p, none⟩ = some (.int .i64 t.kd) ∧ W.cell? ⟨g, p + 1, none⟩ = some (.string t.tx) ∧ W.cell? ⟨g, p + 2, none⟩ = some t.v ∧ W.cell? ⟨g, p + 3, none⟩ = some (.bool t.odd)
/-- What holds ahead of a deed: both tell the same; the deed's cells. -/
structure SwH (B P M R rm n g p : Nat) (E : List Ent) (t : Dd) (w : World) : Prop where
  kb : KB B P M R rm n E (prs E) w
  ro : ∀ W, Below B w W → Roots W
  cl : ∀ W, Below B w W → Dcl g p t W
  tv : ∀ W, Below B w W → Tx W t.v t.ss
  sz : t.tx.size ≤ 1048576 ∧ t.ss.length ≤ 1048576 ∧ ∀ s ∈ t.ss, s.size ≤ 1048576
  kd : -9223372036854775808 ≤ t.kd ∧ t.kd ≤ 9223372036854775807
  nn : n ≤ 100
/-- And where its digest is. -/
def Whr (E : List Ent) (d : ByteArray) (av wq : Int) : Prop := (wq = 1 ∧ av = -1 ∧ digOk d = false) ∨ (wq = 5 ∧ av = -1 ∧ digOk d = true ∧ ∀ e ∈ E, e.dg ≠ d) ∨ (wq = 0 ∧ ∃ i : Nat, av = (i : Int) ∧ ∃ hi : i < E.length, (E[i]).dg = d)
structure SwI (B P M R rm n g p : Nat) (E : List Ent) (t : Dd) (d : ByteArray) (av wq : Int) (w : World) : Prop extends SwH B P M R rm n g p E t w where
  wh : Whr E d av wq
theorem SwH.up {B P M R rm n g p : Nat} {E : List Ent} {t : Dd} {w w' : World} (h : SwH B P M R rm n g p E t w) (hb : Below w.heap.size w w') : SwH B P M R rm n g p E t w' := by
  have hb2 : Below B w w' := hb.mono h.kb.size
  exact ⟨h.kb.up hb, fun W hW => h.ro W (hb2.trans hW), fun W hW => h.cl W (hb2.trans hW), fun W hW => h.tv W (hb2.trans hW), h.sz, h.kd, h.nn⟩
/-- Where the document's finds it. -/
theorem SwH.at_ {B P M R rm n g p : Nat} {E : List Ent} {t : Dd} {w : World} (h : SwH B P M R rm n g p E t w) (d : ByteArray) (hd : digOk d = true) : Calls Tryd.prog 13 #[.pointer (some ⟨R, 0, none⟩), .string d] w fun e w' => ∃ av : Int, e = .returned (.int .i64 av) ∧ (0 ≤ av ∧ Whr E d av 0 ∨ av = -1 ∧ Whr E d (-1) 5) ∧ Below w.heap.size w w' := by
  obtain ⟨tn, I, tv, pv, q1, q2, q3, q4, q5, q6, q7⟩ := h.kb
  have hln := h.kb.len
  have hnn := h.nn
  refine (KAt_any q2 (by rw [prs_len]; omega) (fun x hx => by have := prs_sz h.kb.sz x hx; omega) d).mono fun e w' ⟨r1, r2⟩ => ⟨_, r1, ?_, r2⟩
  unfold katI
  by_cases q : ∀ e ∈ E, e.dg ≠ d
  · rw [kat_neg q5 d q]
    exact .inr ⟨rfl, .inr (.inl ⟨rfl, rfl, hd, q⟩)⟩
  · obtain ⟨i, _, hi, hi2⟩ := kat_pos q5 d q
    rw [hi]
    exact .inl ⟨by show (0 : Int) ≤ (i : Int); omega, .inr (.inr ⟨rfl, i, rfl, hi2⟩)⟩
/-- And behind it. -/
def SwO (B P M R rm n : Nat) (w w' : World) : Prop := (∃ E', KB B P M R rm (n + 1) E' (prs E') w') ∧ Below B w w'

section
variable {B P M R rm n g p : Nat} {E : List Ent} {t : Dd} {d : ByteArray} {av wq : Int} {w : World}
theorem SwI.choose (h : SwI B P M R rm n g p E t d av wq w) (c : Nat) (hc : chs t.kd 6 = c) (W : World) : Calls Tryd.prog 9 #[.int .i64 t.kd, .int .i64 6] W fun e w' => e = .returned (.int .i64 (c : Int)) ∧ w' = W := by
  rw [← hc]
  exact choose_any t.kd 6 W h.kd.1 h.kd.2 (by decide)
theorem SwI.len (h : SwI B P M R rm n g p E t d av wq w) : (prs E).length ≤ 800 := by
  have h1 := h.kb.len
  have h2 := h.nn
  rw [prs_len]
  omega
/-- Where nothing is there: the store tells so. -/
theorem SwI.look (h : SwI B P M R rm n g p E t d av wq w) (h0 : ¬ wq = 0) : av = -1 ∧ Calls Tryd.prog 42 #[kp P, .string d] w fun r w' => r = .returned (.tuple #[.pointer none, .int .i64 wq]) ∧ w' = w := by
  rcases h.wh with ⟨rfl, ha, hd⟩ | ⟨rfl, ha, hd, hn⟩ | ⟨rfl, _⟩
  · exact ⟨ha, look_bad d hd⟩
  · obtain ⟨tn, I, tv, pv, h1, _⟩ := h.kb
    exact ⟨ha, look_no h1 hn hd⟩
  · exact absurd rfl h0
theorem SwI.same (h : SwI B P M R rm n g p E t d av wq w) : SwO B P M R rm n w w := ⟨⟨E, h.kb.more (by omega)⟩, Below.refl _ _⟩
/-- The document's text and its pins at a place. -/
theorem KB.row {E' : List Ent} {L : List Kt} (h : KB B P M R rm n E' L w) (i : Nat) (hi : i < L.length) : ∃ gt ct gp cp, w.cell? ⟨R, 1, none⟩ = some (.slice (some ⟨gt, 0, none⟩) L.length ct) ∧ w.cell? ⟨gt, i, none⟩ = some (.string (L[i]).1) ∧ w.cell? ⟨R, 2, none⟩ = some (.slice (some ⟨gp, 0, none⟩) L.length cp) ∧ w.cell? ⟨gp, i, none⟩ = some (.int .i64 ((L[i]).2 : Int)) := by
  obtain ⟨tn, I, tv, pv, h1, h2, _⟩ := h
  obtain ⟨gt, ct, rfl, c1⟩ := h2.t i hi
  obtain ⟨gp, cp, rfl, c2⟩ := h2.p i hi
  exact ⟨gt, ct, gp, cp, h2.c1, c1, h2.c2, c2⟩
end
end Go.Proofs.YtoceglbdnbnjpaaDoor
