/- parse: what was given up is caught. -/
import Derived.Laws.BytesString
import Derived.Laws.IdiomStrings
import Derived.Test.YtcaeeackccgclaaGreatDoorTie
import Derived.Test.YtcaeeackccgclaaGreatDoorCards
import Derived.ProofKit
import Derived.OpenShut
import Derived.ShutString
import Derived.ChangeOld
import Derived.Below
import Derived.Lay
import Derived.HandedShaped
import Derived.SevenTiedAt
import Derived.Stop.Joined
import Derived.Shelf.Vars
import Derived.Stop.LaidErr
import Derived.Deep.DeepHandedRow
import Derived.Lib.LaidTab
import Derived.Deep.QuietTactic
import Derived.Deep.RegionHeld3
import Derived.Test.YtcaeeackccgclaaGreatDoorTb10
namespace Go.Proofs.YtcaeeackccgclaaGreatDoor
open Go.RowKit Go.Shelf

set_option maxHeartbeats 2000000 in
set_option maxRecDepth 100000 in
theorem pcatch_idle (p q : Addr) (w : World) :
    CallsD Tryz.prog 21 #[.pointer (some p), .pointer (some q)] .returning w fun e u' w' => e = .returned (.tuple #[]) ∧ u' = .returning ∧ Below w.heap.size w w' := by
  refine callsD_of_wpS Tryz.func21 rfl fun c₀ cs hu => ?_
  apply wpS_seq
  apply wpS_region
  simp [wpOpsS, go_sem, recoverD, hu, Tryz.ntmps21, Exit.thenS, ta_nil]
  apply wpS_seq
  apply wpS_region
  simp [wpOpsS, go_sem, Exit.thenS]
  refine wpS_cond (t := false) (by simp [Act.eval, Array.replicate]) ?_
  simp only [Bool.false_eq_true, if_false]
  refine wpS_of_wp (wp_skip ?_)
  have hb : Below w.heap.size w (w.alloc (.cells #[.int .i64 0, .int .i64 0] 25)) := (Below.refl _ w).alloc (Nat.le_refl _) _
  cases c₀
  simp_all [bodyPostS, results, Tryz.results21]

set_option maxHeartbeats 2000000 in
set_option maxRecDepth 100000 in
theorem pcatch_pan (B lb fb : Nat) (x y0 y1 : Value) (k : Int) (z : Nat) (older : List PanicEntry) (w : World) (h0 : w.cell? ⟨lb, 0, none⟩ = some x) (h1 : w.cell? ⟨fb, 0, none⟩ = some y0) (h2 : w.cell? ⟨fb, 1, none⟩ = some y1)
    (f0 : w.frozen? ⟨lb, 0, none⟩ = false) (f1 : w.frozen? ⟨fb, 0, none⟩ = false) (f2 : w.frozen? ⟨fb, 1, none⟩ = false) (hn : ¬ lb = fb) (hB : B ≤ lb) (hB2 : B ≤ fb) :
    CallsD Tryz.prog 21 #[.pointer (some ⟨lb, 0, none⟩), .pointer (some ⟨fb, 0, none⟩)] (.panicking ({ v := .iface 25 (.agg #[.int .i64 k, .int .i64 z]), recovered := false } :: older)) w fun e u' w' =>
      e = .returned (.tuple #[]) ∧ u' = .panicking ({ v := .iface 25 (.agg #[.int .i64 k, .int .i64 z]), recovered := true } :: older) ∧ w'.cell? ⟨lb, 0, none⟩ = some (.slice none 0 0) ∧ w'.cell? ⟨fb, 0, none⟩ = some (.int .i64 k) ∧ w'.cell? ⟨fb, 1, none⟩ = some (.int .i64 z) ∧ Below B w w' := by
  refine callsD_of_wpS Tryz.func21 rfl fun c₀ cs hu => ?_
  apply wpS_seq
  apply wpS_region
  simp [wpOpsS, go_sem, recoverD, hu, Tryz.ntmps21, Exit.thenS, ta_yes]
  apply wpS_seq
  apply wpS_region
  simp [wpOpsS, go_sem, Exit.thenS]
  refine wpS_cond (t := true) (by simp [Act.eval, Array.replicate]) ?_
  simp only [if_true]
  refine wpS_of_wp ?_
  simp [Array.replicate]
  have hpl : lb < w.heap.size := World.block_lt_of_cell? w ⟨lb, 0, none⟩ h0
  have hql : fb < w.heap.size := World.block_lt_of_cell? w ⟨fb, 0, none⟩ h1
  have hnew := heap_alloc_new w (.cells #[.int .i64 k, .int .i64 (z : Int)] 25)
  have g0 : (w.alloc (.cells #[.int .i64 k, .int .i64 (z : Int)] 25)).cell? ⟨lb, 0, none⟩ = some x := (World.cell?_alloc_past _ _ _ hpl).trans h0
  have g1 : (w.alloc (.cells #[.int .i64 k, .int .i64 (z : Int)] 25)).cell? ⟨fb, 0, none⟩ = some y0 := (World.cell?_alloc_past _ _ _ hql).trans h1
  have g2 : (w.alloc (.cells #[.int .i64 k, .int .i64 (z : Int)] 25)).cell? ⟨fb, 1, none⟩ = some y1 := (World.cell?_alloc_past _ _ _ hql).trans h2
  have e0 : (w.alloc (.cells #[.int .i64 k, .int .i64 (z : Int)] 25)).frozen? ⟨lb, 0, none⟩ = false := (World.frozen?_of_block (heap_al w _ lb hpl)).trans f0
  have e1 : (w.alloc (.cells #[.int .i64 k, .int .i64 (z : Int)] 25)).frozen? ⟨fb, 0, none⟩ = false := (World.frozen?_of_block (heap_al w _ fb hql)).trans f1
  have e2 : (w.alloc (.cells #[.int .i64 k, .int .i64 (z : Int)] 25)).frozen? ⟨fb, 1, none⟩ = false := (World.frozen?_of_block (heap_al w _ fb hql)).trans f2
  have n0 : (w.alloc (.cells #[.int .i64 k, .int .i64 (z : Int)] 25)).cell? ⟨w.heap.size, 0, none⟩ = some (.int .i64 k) := by rw [Lib.cell_of_heap hnew]; rfl
  have n1 : (w.alloc (.cells #[.int .i64 k, .int .i64 (z : Int)] 25)).cell? ⟨w.heap.size, 1, none⟩ = some (.int .i64 (z : Int)) := by rw [Lib.cell_of_heap hnew]; rfl
  have HB : Hid (Below B w (w.alloc (.cells #[.int .i64 k, .int .i64 (z : Int)] 25))) := (Below.refl B w).alloc (by omega) _
  have m1 : ¬ w.heap.size = lb := by omega
  have m2 : ¬ w.heap.size = fb := by omega
  clear h0 h1 h2 f0 f1 f2 hpl hql hnew
  generalize w.alloc (.cells #[.int .i64 k, .int .i64 (z : Int)] 25) = W at *
  generalize w.heap.size = Z at *
  go_region_with fail
  all_goals
    have hb : Below B w (((W.setCell ⟨lb, 0, none⟩ (.slice none 0 0)).setCell ⟨fb, 0, none⟩ (.int .i64 k)).setCell ⟨fb, 1, none⟩ (.int .i64 (z : Int))).drew := (((HB.out.setCell (p := ⟨lb, 0, none⟩) hB _).setCell (p := ⟨fb, 0, none⟩) hB2 _).setCell (p := ⟨fb, 1, none⟩) hB2 _).drew
    cases c₀
    simp [bodyPostS, results, Tryz.results21, go_sem, g0, g1, g2, hb]

theorem RwS.mono {n m : Nat} {w : World} {l : List Sm} {v : Value} {vs : List (List Value)} (h : RwS n w l v vs) (hm : m ≤ n) : RwS m w l v vs := ⟨row_mono h.row hm, h.fa.mono fun _ _ f => f.mono fun _ hg _ => ⟨Nat.le_trans hm hg.1, hg.2⟩⟩
/-- What parse answers. -/
def ParP (w : World) (r : Except Ft (List Sm)) (e : Ending) (w' : World) : Prop :=
  (∀ (k z : Nat), r = .error (k, z) → e = .returned (.tuple #[.slice none 0 0, .agg #[.int .i64 (k : Int), .int .i64 (z : Int)]])) ∧
  (∀ l, r = .ok l → ∃ v vs, e = .returned (.tuple #[v, .agg #[.int .i64 0, .int .i64 0]]) ∧ RwS w.heap.size w' l v vs) ∧ Below w.heap.size w w'
/-- Where parse begins. -/
def bpW (tv : Value) (n : Nat) (w : World) : World := ((w.alloc (.cells #[.slice none 0 0] 28)).alloc (.cells #[.int .i64 0, .int .i64 0] 25)).alloc (.cells #[tv, .int .i64 n, .int .i64 0, .bool false, .int .i64 0] 60)
theorem bp_facts {B : Nat} {toks : List Tk} {ao : Option Addr} {cp : Nat} {w : World} (n : Nat) (hr : w.ownsRow B 84 4 (.slice ao toks.length cp) toks.length (tcs toks)) : ∃ T, PsA (w.heap.size + 1 + 1) T (bpW (.slice ao toks.length cp) n w) ⟨toks, n, 0, false, 0⟩ ∧ Below w.heap.size w (bpW (.slice ao toks.length cp) n w) ∧
    (bpW (.slice ao toks.length cp) n w).heap[w.heap.size]? = some (.cells #[.slice none 0 0] 28 (0, 0)) ∧ (bpW (.slice ao toks.length cp) n w).heap[w.heap.size + 1]? = some (.cells #[.int .i64 0, .int .i64 0] 25 (0, 0)) ∧ (bpW (.slice ao toks.length cp) n w).heap.size = w.heap.size + 1 + 1 + 1 := by
  have s1 : (w.alloc (.cells #[.slice none 0 0] 28)).heap.size = w.heap.size + 1 := World.size_alloc _ _
  have s2 : ((w.alloc (.cells #[.slice none 0 0] 28)).alloc (.cells #[.int .i64 0, .int .i64 0] 25)).heap.size = w.heap.size + 1 + 1 := by rw [World.size_alloc, s1]
  have s3 : (bpW (.slice ao toks.length cp) n w).heap.size = w.heap.size + 1 + 1 + 1 := by unfold bpW; rw [World.size_alloc, s2]
  have k0 : ∀ g, g < w.heap.size → (bpW (.slice ao toks.length cp) n w).heap[g]? = w.heap[g]? := fun g hg => by
    unfold bpW
    rw [heap_al _ _ _ (by rw [s2]; omega), heap_al _ _ _ (by rw [s1]; omega), heap_al _ _ _ hg]
  have b0 : (bpW (.slice ao toks.length cp) n w).heap[w.heap.size]? = some (.cells #[.slice none 0 0] 28 (0, 0)) := by
    unfold bpW
    rw [heap_al _ _ _ (by rw [s2]; omega), heap_al _ _ _ (by rw [s1]; omega)]
    exact heap_alloc_new w _
  have b1 : (bpW (.slice ao toks.length cp) n w).heap[w.heap.size + 1]? = some (.cells #[.int .i64 0, .int .i64 0] 25 (0, 0)) := by
    unfold bpW
    rw [heap_al _ _ _ (by rw [s2]; omega), ← s1]
    exact heap_alloc_new _ _
  have b2 : (bpW (.slice ao toks.length cp) n w).heap[w.heap.size + 1 + 1]? = some (.cells #[.slice ao toks.length cp, .int .i64 n, .int .i64 0, .bool false, .int .i64 0] 60 (0, 0)) := by
    unfold bpW
    rw [← s2]
    exact heap_alloc_new _ _
  have hbb : Below w.heap.size w (bpW (.slice ao toks.length cp) n w) := by
    unfold bpW
    exact (((Below.refl _ w).alloc (Nat.le_refl _) _).alloc (by rw [s1]; omega) _).alloc (by rw [s2]; omega) _
  rcases hr.2 with ⟨_, e0⟩ | ⟨g, cap, cur, hv, h2, h3, h4, h5, h6, h7⟩
  · exact ⟨0, ⟨ao, cp, 0, b2, (by show toks.length ≤ cp; omega), Nat.zero_le _, (fun h => absurd h (by show ¬ 0 < toks.length; omega)), (fun j hj => absurd hj (by show ¬ j < toks.length * 4; omega)), by omega, by omega, Nat.zero_le _, Nat.zero_le _⟩, hbb, b0, b1, s3⟩
  · cases hv
    have hg : g < w.heap.size := (Array.getElem?_eq_some_iff.1 h3).1
    refine ⟨g, ⟨some ⟨g, 0, none⟩, cp, 0, b2, h4, Nat.zero_le _, fun _ => rfl, fun j hj => ?_, by omega, by omega, Nat.zero_le _, Nat.zero_le _⟩, hbb, b0, b1, s3⟩
    · rw [Nat.zero_add, Lib.cell_of_heap ((k0 g hg).trans h3), ← h7, List.getElem?_take_of_lt hj]
      simp

set_option maxHeartbeats 8000000 in
set_option maxRecDepth 100000 in
theorem parse_any {B : Nat} {toks : List Tk} {tv : Value} {w : World} (he : ErrR w) (n : Nat) (hr : w.ownsRow B 84 4 tv toks.length (tcs toks)) {E : Ps → Px Ex} (hE : ∀ P T, MethC P T 70 E) {l : List Sm} {q : Ps} (hz : srcF E ⟨toks, n, 0, false, 0⟩ = some (.ok (l, q))) :
    Calls Tryz.prog 14 #[tv, .int .i64 n] w (ParP w (.ok l)) := by
  have hmf : ∀ (fn : Fn) (first cap : Array Value) (w : World), (Instr.makeFunc fn first cap).run Tryz.prog w = .ok (.func fn first cap) w := fun _ _ _ _ => rfl
  obtain ⟨ao, cp, rfl⟩ := row_shape hr
  obtain ⟨T, t0, hb0, l0, f0, s0⟩ := bp_facts n hr
  have HLn := source_any (stD_any (hE _ T) 40) _ _ _ t0 (he.up hb0) hz
  rw [s0] at HLn
  have HB0 : Hid (Below w.heap.size w (bpW (.slice ao toks.length cp) n w) ∧ (bpW (.slice ao toks.length cp) n w).heap[w.heap.size]? = some (.cells #[.slice none 0 0] 28 (0, 0)) ∧ (bpW (.slice ao toks.length cp) n w).heap[w.heap.size + 1]? = some (.cells #[.int .i64 0, .int .i64 0] 25 (0, 0)) ∧ (bpW (.slice ao toks.length cp) n w).heap.size = w.heap.size + 1 + 1 + 1) := ⟨hb0, l0, f0, s0⟩
  clear t0 hb0 l0 f0 s0 hr hz hE he
  unfold bpW at *
  go_enter_defers Tryz.func14, Tryz.ntmps14
  go_wp2_with fail
  refine HLn.mono ?_
  rintro e w1 ⟨v, rfl, ⟨vs, hrw⟩, hps, hk⟩
  obtain ⟨a1, c1, rfl⟩ := row_shape hrw.row
  have l1 := (hk.blk w.heap.size (by have := HB0.out.2.2.2; omega) (by omega)).trans HB0.out.2.1
  have f1 := (hk.blk (w.heap.size + 1) (by have := HB0.out.2.2.2; omega) (by omega)).trans HB0.out.2.2.1
  have HB1 : Hid (Below w.heap.size w w1) := HB0.out.1.trans (hk.below (by omega) (by have := HB0.out.2.2.2; omega))
  have q0 : w1.cell? ⟨w.heap.size, 0, none⟩ = some (.slice none 0 0) := by rw [Lib.cell_of_heap l1]; rfl
  have q1 : w1.cell? ⟨w.heap.size + 1, 0, none⟩ = some (.int .i64 0) := by rw [Lib.cell_of_heap f1]; rfl
  have q2 : w1.cell? ⟨w.heap.size + 1, 1, none⟩ = some (.int .i64 0) := by rw [Lib.cell_of_heap f1]; rfl
  have r0 : w1.frozen? ⟨w.heap.size, 0, none⟩ = false := Lib.frozen_of_heap l1 0
  have r1 : w1.frozen? ⟨w.heap.size + 1, 0, none⟩ = false := Lib.frozen_of_heap f1 0
  have r2 : w1.frozen? ⟨w.heap.size + 1, 1, none⟩ = false := Lib.frozen_of_heap f1 1
  have s0 : (((w1.setCell ⟨w.heap.size, 0, none⟩ (.slice a1 l.length c1)).setCell ⟨w.heap.size + 1, 0, none⟩ (.int .i64 0)).setCell ⟨w.heap.size + 1, 1, none⟩ (.int .i64 0)).cell? ⟨w.heap.size, 0, none⟩ = some (.slice a1 l.length c1) := by simp [go_sem, q0]
  have s1 : (((w1.setCell ⟨w.heap.size, 0, none⟩ (.slice a1 l.length c1)).setCell ⟨w.heap.size + 1, 0, none⟩ (.int .i64 0)).setCell ⟨w.heap.size + 1, 1, none⟩ (.int .i64 0)).cell? ⟨w.heap.size + 1, 0, none⟩ = some (.int .i64 0) := by simp [go_sem, q1]
  have s2 : (((w1.setCell ⟨w.heap.size, 0, none⟩ (.slice a1 l.length c1)).setCell ⟨w.heap.size + 1, 0, none⟩ (.int .i64 0)).setCell ⟨w.heap.size + 1, 1, none⟩ (.int .i64 0)).cell? ⟨w.heap.size + 1, 1, none⟩ = some (.int .i64 0) := by simp [go_sem, q2]
  have HS : Hid ((((w1.setCell ⟨w.heap.size, 0, none⟩ (.slice a1 l.length c1)).setCell ⟨w.heap.size + 1, 0, none⟩ (.int .i64 0)).setCell ⟨w.heap.size + 1, 1, none⟩ (.int .i64 0)).cell? ⟨w.heap.size, 0, none⟩ = some (.slice a1 l.length c1) ∧ (((w1.setCell ⟨w.heap.size, 0, none⟩ (.slice a1 l.length c1)).setCell ⟨w.heap.size + 1, 0, none⟩ (.int .i64 0)).setCell ⟨w.heap.size + 1, 1, none⟩ (.int .i64 0)).cell? ⟨w.heap.size + 1, 0, none⟩ = some (.int .i64 0) ∧ (((w1.setCell ⟨w.heap.size, 0, none⟩ (.slice a1 l.length c1)).setCell ⟨w.heap.size + 1, 0, none⟩ (.int .i64 0)).setCell ⟨w.heap.size + 1, 1, none⟩ (.int .i64 0)).cell? ⟨w.heap.size + 1, 1, none⟩ = some (.int .i64 0)) := ⟨s0, s1, s2⟩
  have hkw : ∀ g, w.heap.size + 1 + 1 + 1 ≤ g → g < w1.heap.size → (((w1.setCell ⟨w.heap.size, 0, none⟩ (.slice a1 l.length c1)).setCell ⟨w.heap.size + 1, 0, none⟩ (.int .i64 0)).setCell ⟨w.heap.size + 1, 1, none⟩ (.int .i64 0)).heap[g]? = w1.heap[g]? := fun g hg _ => (Below.heap_setCell _ ⟨w.heap.size + 1, 1, none⟩ _ g (by show ¬ g = w.heap.size + 1; omega)).trans ((Below.heap_setCell _ ⟨w.heap.size + 1, 0, none⟩ _ g (by show ¬ g = w.heap.size + 1; omega)).trans (Below.heap_setCell _ ⟨w.heap.size, 0, none⟩ _ g (by show ¬ g = w.heap.size; omega)))
  have HO : Hid (RwS (w.heap.size + 1 + 1 + 1) (((w1.setCell ⟨w.heap.size, 0, none⟩ (.slice a1 l.length c1)).setCell ⟨w.heap.size + 1, 0, none⟩ (.int .i64 0)).setCell ⟨w.heap.size + 1, 1, none⟩ (.int .i64 0)) l (.slice a1 l.length c1) vs) := hrw.keep hkw
  have HB2 : Hid (Below w.heap.size w (((w1.setCell ⟨w.heap.size, 0, none⟩ (.slice a1 l.length c1)).setCell ⟨w.heap.size + 1, 0, none⟩ (.int .i64 0)).setCell ⟨w.heap.size + 1, 1, none⟩ (.int .i64 0))) := ((HB1.out.setCell (p := ⟨w.heap.size, 0, none⟩) (Nat.le_refl _) _).setCell (p := ⟨w.heap.size + 1, 0, none⟩) (Nat.le_succ _) _).setCell (p := ⟨w.heap.size + 1, 1, none⟩) (Nat.le_succ _) _
  clear s0 s1 s2 hkw hrw hps hk l1 f1 HB0 HLn
  go_wp2
  generalize (((w1.setCell ⟨w.heap.size, 0, none⟩ (.slice a1 l.length c1)).setCell ⟨w.heap.size + 1, 0, none⟩ (.int .i64 0)).setCell ⟨w.heap.size + 1, 1, none⟩ (.int .i64 0)) = w2 at *
  refine leaves_cons (f := 21) (args := #[.pointer (some ⟨w.heap.size, 0, none⟩), .pointer (some ⟨w.heap.size + 1, 0, none⟩)]) (by simp) (by simp [go_sem]) ?_
  refine (pcatch_idle ⟨w.heap.size, 0, none⟩ ⟨w.heap.size + 1, 0, none⟩ _).mono ?_
  rintro e u' w3 ⟨rfl, rfl, hb3⟩
  have k0 := (hb3.cell (World.block_lt_of_cell? w2 _ HS.out.1)).trans HS.out.1
  have k1 := (hb3.cell (World.block_lt_of_cell? w2 _ HS.out.2.1)).trans HS.out.2.1
  have k2 := (hb3.cell (World.block_lt_of_cell? w2 _ HS.out.2.2)).trans HS.out.2.2
  have hle : w.heap.size ≤ w2.heap.size := Nat.le_of_lt (World.block_lt_of_cell? w2 _ HS.out.1)
  simp [Leaves, settle, results, Tryz.results14, go_sem, k0, k1, k2]
  refine ⟨(fun k' z' hz => by cases hz), fun l' hl => ?_, HB2.out.trans (hb3.mono hle)⟩
  cases hl
  exact ⟨_, vs, rfl, (HO.out.keep (fun g _ hg => hb3.block g hg)).mono (by omega)⟩

set_option maxHeartbeats 8000000 in
set_option maxRecDepth 100000 in
theorem parse_err {B : Nat} {toks : List Tk} {tv : Value} {w : World} (he : ErrR w) (n : Nat) (hr : w.ownsRow B 84 4 tv toks.length (tcs toks)) {E : Ps → Px Ex} (hE : ∀ P T, MethC P T 70 E) {k z : Nat} (hz : srcF E ⟨toks, n, 0, false, 0⟩ = some (.error (k, z))) :
    Calls Tryz.prog 14 #[tv, .int .i64 n] w (ParP w (.error (k, z))) := by
  have hmf : ∀ (fn : Fn) (first cap : Array Value) (w : World), (Instr.makeFunc fn first cap).run Tryz.prog w = .ok (.func fn first cap) w := fun _ _ _ _ => rfl
  obtain ⟨ao, cp, rfl⟩ := row_shape hr
  obtain ⟨T, t0, hb0, l0, f0, s0⟩ := bp_facts n hr
  have HLn := source_any (stD_any (hE _ T) 40) _ _ _ t0 (he.up hb0) hz
  have HB0 : Hid (Below w.heap.size w (bpW (.slice ao toks.length cp) n w) ∧ (bpW (.slice ao toks.length cp) n w).heap[w.heap.size]? = some (.cells #[.slice none 0 0] 28 (0, 0)) ∧ (bpW (.slice ao toks.length cp) n w).heap[w.heap.size + 1]? = some (.cells #[.int .i64 0, .int .i64 0] 25 (0, 0)) ∧ (bpW (.slice ao toks.length cp) n w).heap.size = w.heap.size + 1 + 1 + 1) := ⟨hb0, l0, f0, s0⟩
  clear t0 hb0 l0 f0 s0 hr hz hE he
  unfold bpW at *
  go_enter_defers Tryz.func14, Tryz.ntmps14
  go_wp2_with fail
  refine HLn.mono ?_
  rintro e w1 ⟨rfl, hk⟩
  have l1 := (hk.blk w.heap.size (by have := HB0.out.2.2.2; omega) (by omega)).trans HB0.out.2.1
  have f1 := (hk.blk (w.heap.size + 1) (by have := HB0.out.2.2.2; omega) (by omega)).trans HB0.out.2.2.1
  have HB1 : Hid (Below w.heap.size w w1) := HB0.out.1.trans (hk.below (by omega) (by have := HB0.out.2.2.2; omega))
  have q0 : w1.cell? ⟨w.heap.size, 0, none⟩ = some (.slice none 0 0) := by rw [Lib.cell_of_heap l1]; rfl
  have q1 : w1.cell? ⟨w.heap.size + 1, 0, none⟩ = some (.int .i64 0) := by rw [Lib.cell_of_heap f1]; rfl
  have q2 : w1.cell? ⟨w.heap.size + 1, 1, none⟩ = some (.int .i64 0) := by rw [Lib.cell_of_heap f1]; rfl
  have r0 : w1.frozen? ⟨w.heap.size, 0, none⟩ = false := Lib.frozen_of_heap l1 0
  have r1 : w1.frozen? ⟨w.heap.size + 1, 0, none⟩ = false := Lib.frozen_of_heap f1 0
  have r2 : w1.frozen? ⟨w.heap.size + 1, 1, none⟩ = false := Lib.frozen_of_heap f1 1
  clear hk l1 f1 HB0 HLn
  go_wp2
  refine leaves_cons (f := 21) (args := #[.pointer (some ⟨w.heap.size, 0, none⟩), .pointer (some ⟨w.heap.size + 1, 0, none⟩)]) (by simp) (by simp [go_sem]) ?_
  refine (pcatch_pan w.heap.size w.heap.size (w.heap.size + 1) _ _ _ k z [] _ q0 q1 q2 r0 r1 r2 (by omega) (Nat.le_refl _) (Nat.le_succ _)).mono ?_
  rintro e u' w2 ⟨rfl, rfl, s0, s1, s2, hb2⟩
  simp [Leaves, settle, results, Tryz.results14, go_sem, s0, s1, s2]
  refine ⟨fun k' z' hz => ?_, (fun l hl => by cases hl), HB1.out.trans hb2⟩
  cases hz
  rfl
end Go.Proofs.YtcaeeackccgclaaGreatDoor

/- Parse, whole, where it is told. -/
namespace Go.Proofs.YtcaeeackccgclaaGreatDoor
open Go.RowKit Go.Shelf

/-- What Parse comes to without a fault, where it is told. -/
def parL (L : List UInt8) : Option (List Sm) := match splitA L with
  | .error _ => none
  | .ok toks => bif decide (0 < toks.length) then match srcF (exF 40) ⟨toks, L.length, 0, false, 0⟩ with
      | some (.ok (l, _)) => some l
      | _ => none
    else none
theorem parL_some {L : List UInt8} {l : List Sm} (h : parL L = some l) : ∃ toks q, splitA L = .ok toks ∧ 0 < toks.length ∧ srcF (exF 40) ⟨toks, L.length, 0, false, 0⟩ = some (.ok (l, q)) := by
  unfold parL at h
  match hs : splitA L, h with
  | .ok toks, h =>
    simp only at h
    cases h0 : decide (0 < toks.length) with
    | false => rw [h0] at h; cases h
    | true =>
      rw [h0] at h
      match hr : srcF (exF 40) ⟨toks, L.length, 0, false, 0⟩, h with
      | some (.ok (l', q)), h =>
        simp only [cond_true] at h
        cases h
        exact ⟨toks, q, rfl, of_decide_eq_true h0, hr⟩

set_option maxHeartbeats 8000000 in
set_option maxRecDepth 100000 in
theorem Parse_ok (L : List UInt8) (w : World) (hr : ErrR w) {l : List Sm} (hl : parL L = some l) :
    Calls Tryz.prog 8 #[.string (mkB L)] w (ParP w (.ok l)) := by
  obtain ⟨toks, q, h1, h2, h3⟩ := parL_some hl
  have hrW : ErrR (w.alloc (.cells #[.int .i64 0, .int .i64 0] 25)) := hr.up (alB w _)
  have HS := Split_any L (w.alloc (.cells #[.int .i64 0, .int .i64 0] 25)) hrW
  rw [h1] at HS
  have HP : Hid (∀ (V : World) (B : Nat) (tv : Value), ErrR V → V.ownsRow B 84 4 tv toks.length (tcs toks) → Calls Tryz.prog 14 #[tv, .int .i64 L.length] V (ParP V (.ok l))) := fun V B tv he hV => parse_any he L.length hV (fun P T => exF_any 40) h3
  have HB : Hid (Below w.heap.size w (w.alloc (.cells #[.int .i64 0, .int .i64 0] 25))) := alB w _
  have hs0 : (w.alloc (.cells #[.int .i64 0, .int .i64 0] 25)).heap.size = w.heap.size + 1 := World.size_alloc _ _
  have hf0 := heap_alloc_new w (.cells #[.int .i64 0, .int .i64 0] 25)
  have hsz := mk_size L
  have HErr : Hid (∀ W', Below w.heap.size w W' → ErrR W') := fun W' hb => hr.up hb
  clear h1 h2 h3 hrW hl hr
  go_enter Tryz.func8, Tryz.ntmps8
  go_wp2_with fail
  refine HS.mono ?_
  rintro e w1 ⟨_, hok, hb1⟩
  obtain ⟨tv, rfl, hown⟩ := hok toks rfl
  obtain ⟨ao, cp, rfl⟩ := row_shape hown
  have hf1 := (hb1.block w.heap.size (by omega)).trans hf0
  have hs1 : w.heap.size < w1.heap.size := (Array.getElem?_eq_some_iff.1 hf1).1
  have hownX : (w1.alloc (.cells #[.int .i64 0, .int .i64 0] 25)).ownsRow _ 84 4 (.slice ao toks.length cp) toks.length (tcs toks) := own_heap hown (fun g hg => heap_al w1 _ g (hown.lt g hg).2)
  have HPa := HP.out _ _ _ (HErr.out _ (HB.out.trans ((hb1.trans ((alB w1 _).mono hb1.size)).mono (by omega)))) hownX
  have hf2 : (w1.alloc (.cells #[.int .i64 0, .int .i64 0] 25)).heap[w.heap.size]? = some (.cells #[.int .i64 0, .int .i64 0] 25 (0, 0)) := (heap_al _ _ _ hs1).trans hf1
  have HQ : Hid (Below w.heap.size w (w1.alloc (.cells #[.int .i64 0, .int .i64 0] 25)) ∧ (w1.alloc (.cells #[.int .i64 0, .int .i64 0] 25)).heap[w.heap.size]? = some (.cells #[.int .i64 0, .int .i64 0] 25 (0, 0))) := ⟨(HB.out.trans (hb1.mono (by omega))).trans ((alB w1 _).mono (by omega)), hf2⟩
  clear hok hb1 hown hownX hf1 hf2 HP HS hf0
  go_wp2_with fail
  refine HPa.mono ?_
  rintro e w2 ⟨_, hok, hb2⟩
  obtain ⟨v, vs, rfl, hrw⟩ := hok l rfl
  obtain ⟨a3, c3, rfl⟩ := row_shape hrw.row
  have hf3 := (hb2.block w.heap.size (Array.getElem?_eq_some_iff.1 HQ.out.2).1).trans HQ.out.2
  have g0 : w2.cell? ⟨w.heap.size, 0, none⟩ = some (.int .i64 0) := by rw [Lib.cell_of_heap hf3]; rfl
  have g1 : w2.cell? ⟨w.heap.size, 1, none⟩ = some (.int .i64 0) := by rw [Lib.cell_of_heap hf3]; rfl
  have k0 : w2.frozen? ⟨w.heap.size, 0, none⟩ = false := Lib.frozen_of_heap hf3 0
  have k1 : w2.frozen? ⟨w.heap.size, 1, none⟩ = false := Lib.frozen_of_heap hf3 1
  have HZ : Hid (Below w.heap.size w ((w2.setCell ⟨w.heap.size, 0, none⟩ (.int .i64 0)).setCell ⟨w.heap.size, 1, none⟩ (.int .i64 0)) ∧ RwS w.heap.size ((w2.setCell ⟨w.heap.size, 0, none⟩ (.int .i64 0)).setCell ⟨w.heap.size, 1, none⟩ (.int .i64 0)) l (.slice a3 l.length c3) vs) := by
    refine ⟨((HQ.out.1.trans (hb2.mono HQ.out.1.size)).setCell (p := ⟨w.heap.size, 0, none⟩) (Nat.le_refl _) _).setCell (p := ⟨w.heap.size, 1, none⟩) (Nat.le_refl _) _, ?_⟩
    have hsX := (Array.getElem?_eq_some_iff.1 HQ.out.2).1
    exact (hrw.keep (fun g hg _ => (Below.heap_setCell _ ⟨w.heap.size, 1, none⟩ _ g (by show ¬ g = w.heap.size; omega)).trans (Below.heap_setCell _ ⟨w.heap.size, 0, none⟩ _ g (by show ¬ g = w.heap.size; omega)))).mono (by omega)
  clear hok hb2 hrw hf3 HPa HQ
  go_wp2
  refine bodyPost_ret (v := .tuple #[.slice a3 l.length c3, .agg #[.int .i64 0, .int .i64 0]]) (by simp [results, Tryz.results8, go_sem, g0, g1]) rfl ⟨(fun k z hz => by cases hz), fun l' hl' => ?_, HZ.out.1⟩
  cases hl'
  exact ⟨_, vs, rfl, HZ.out.2⟩
end Go.Proofs.YtcaeeackccgclaaGreatDoor

/- The writer: all statements; what it has written. -/
namespace Go.Proofs.YtcaeeackccgclaaGreatDoor
open Go.RowKit Go.Shelf

/-- What is written of statements: of settings alone it is told. -/
def wP (m : Nat) : List Sm → Option (List UInt8)
  | [] => some []
  | x :: r => bif x.kind == 3 then match wE m x.ex with
      | none => none
      | some a => match wP m r with
        | none => none
        | some b => some (x.text ++ [32, 61, 32] ++ a ++ [10] ++ b)
    else none
theorem wP_cons {m : Nat} {x : Sm} {r : List Sm} {out : List UInt8} (h : wP m (x :: r) = some out) : x.kind = 3 ∧ ∃ a b, wE m x.ex = some a ∧ wP m r = some b ∧ out = x.text ++ [32, 61, 32] ++ a ++ [10] ++ b := by
  unfold wP at h
  cases hk : (x.kind == 3) with
  | false => rw [hk] at h; cases h
  | true =>
  rw [hk] at h
  cases ha : wE m x.ex with
  | none => rw [ha] at h; cases h
  | some a =>
  cases hb : wP m r with
  | none => rw [ha, hb] at h; cases h
  | some b =>
    rw [ha, hb] at h
    cases h
    exact ⟨by simpa using hk, a, b, rfl, rfl, rfl⟩
theorem SmV.kpw {B b : Nat} {w w' : World} (hk : Kp B b w w') {S : Nat → Prop} (hS : ∀ g, S g → g ≠ b) : ∀ {n : Nat} {x : Sm} {c : List Value}, SmV w S n x c → SmV w' S n x c
  | _ + 1, _, _, ⟨nv, ce, bv, ev, bs, es, e, h1, h2, h3, h4, k2, k3, k4, h5, h6⟩ => ⟨nv, ce, bv, ev, bs, es, e, h1.kpw hk hS, hk.row h2 (fun g hg => hS g (k2 g hg)) (by decide), hk.row h3 (fun g hg => hS g (k3 g hg)) (by decide), hk.row h4 (fun g hg => hS g (k4 g hg)) (by decide), k2, k3, k4, h5.mono fun _ _ f => SmV.kpw hk hS f, h6.mono fun _ _ f => SmV.kpw hk hS f⟩
theorem SmA.kpw {B b : Nat} {w w' : World} (hk : Kp B b w w') {S : Nat → Prop} (hS : ∀ g, S g → g ≠ b) {x : Sm} {c : List Value} (h : SmA w S x c) : SmA w' S x c := ⟨h.choose, h.choose_spec.kpw hk hS⟩
theorem flat10 : ∀ (vs : List (List Value)) (_ : ∀ c ∈ vs, c.length = 10) (k : Nat) (c : List Value) (_ : vs[k]? = some c) (i : Nat) (_ : i < 10), vs.flatten[k * 10 + i]? = c[i]?
  | v :: vs, h, 0, c, hk, i, hi => by
    cases hk
    rw [Nat.zero_mul, Nat.zero_add, List.flatten_cons, List.getElem?_append_left (by rw [h v (by simp)]; exact hi)]
  | v :: vs, h, k + 1, c, hk, i, hi => by
    have hv := h v (by simp)
    rw [List.flatten_cons, List.getElem?_append_right (by rw [hv]; omega), hv, show (k + 1) * 10 + i - 10 = k * 10 + i from by omega]
    exact flat10 vs (fun c hc => h c (by simp [hc])) k c (by simpa using hk) i hi
/-- Statements, where they lie. -/
structure RwT (S : Nat → Prop) (w : World) (l : List Sm) (v : Value) (vs : List (List Value)) : Prop where
  row : w.ownsRow 0 40 10 v l.length vs.flatten
  own : ∀ g, v.ownBlock = some g → S g
  fa : Fa (SmA w S) l vs
theorem RwT.kpw {B b : Nat} {w w' : World} (hk : Kp B b w w') {S : Nat → Prop} (hS : ∀ g, S g → g ≠ b) {l : List Sm} {v : Value} {vs : List (List Value)} (h : RwT S w l v vs) : RwT S w' l v vs := ⟨hk.row h.row (fun g hg => hS g (h.own g hg)) (by decide), h.own, h.fa.mono fun _ _ f => f.kpw hk hS⟩
theorem RwT.at {S : Nat → Prop} {w : World} {l : List Sm} {a : Option Addr} {n cap : Nat} {vs : List (List Value)} (h : RwT S w l (.slice a n cap) vs) (k : Nat) (hk : k < l.length) : ∃ g, a = some ⟨g, 0, none⟩ ∧ n = l.length ∧ ∃ c, SmA w S l[k] c ∧ ∀ i, i < 10 → w.cell? ⟨g, k * 10 + i, none⟩ = c[i]? := by
  obtain ⟨g, cap', hv, _, hc⟩ := row_form h.row (by omega)
  cases hv
  have hvl := h.fa.len
  refine ⟨g, rfl, rfl, vs[k]'(by omega), Fa.get h.fa k hk (by omega), fun i hi => ?_⟩
  rw [hc (k * 10 + i) (by have : k + 1 ≤ l.length := hk; omega)]
  exact flat10 vs (Fa.mem (fun _ _ f => f.len) h.fa) k _ (List.getElem?_eq_getElem (by omega)) i hi

set_option maxHeartbeats 8000000 in
set_option maxRecDepth 100000 in
theorem wstatements_any {m B b : Nat} {ls : List Sm} {out l : List UInt8} {w : World} {S : Nat → Prop} {v : Value} {vs : List (List Value)} (hx : wP m ls = some out) (h : WrIs B b 0 (Lib.byteCells l) w) (hB : B ≤ w.heap.size) (hg : 1 < B) (ht : TabW w) (hr : RwT S w ls v vs) (hS : ∀ g, S g → g ≠ b) (hn : ls.length ≤ 1000000) (hlen : l.length + out.length ≤ 1000000000) :
    Calls Tryz.prog 11 #[pt b, v] w (WpO B b 0 (l ++ out) w) := by
  obtain ⟨ao, cp, rfl⟩ := row_shape hr.row
  have HR : Hid (RwT S w ls (.slice ao ls.length cp) vs) := hr
  have HT : Hid (TabW w) := ht
  have HI : Hid (∃ l' rest, WrIs B b 0 (Lib.byteCells l') w ∧ Kp B b w w ∧ B ≤ w.heap.size ∧ wP m ls = some rest ∧ l' ++ rest = l ++ out) := ⟨l, out, h, Kp.refl _ _ _, hB, hx, rfl⟩
  have hni : (ls.length : Int) ≤ 1000000 := by omega
  clear h hB hx hr ht
  go_enter Tryz.func11, Tryz.ntmps11
  go_wp2
  go_loopw [8] (fun u wr => ∃ k : Nat, k ≤ ls.length ∧ u = .int .i64 (k : Int) ∧ Hid (∃ l' rest, WrIs B b 0 (Lib.byteCells l') wr ∧ Kp B b w wr ∧ B ≤ wr.heap.size ∧ wP m (ls.drop k) = some rest ∧ l' ++ rest = l ++ out)) (fun u _ => ls.length - (intOf u).toNat)
  case atStart => exact ⟨0, Nat.zero_le _, rfl, HI⟩
  case round =>
    obtain ⟨k, hk, rfl, hrel⟩ := hrel
    obtain ⟨l', rest, hw, hkp, hBw, hr, hll⟩ := hrel.out
    have hll2 := congrArg List.length hll
    simp only [List.length_append] at hll2
    clear hrel HI
    by_cases hlt : k < ls.length
    · have hki : (k : Int) < (ls.length : Int) := by omega
      rw [List.drop_eq_getElem_cons hlt] at hr
      obtain ⟨hkd, a, bs, ha, hb, rfl⟩ := wP_cons hr
      simp only [List.length_append, List.length_cons, List.length_nil] at hll2
      have hRW := HR.out.kpw hkp hS
      obtain ⟨g, rfl, _, cx, hsm, hcell⟩ := hRW.at k hlt
      generalize hxx : ls[k] = x at *
      obtain ⟨a0, c0, a1, c1, a2, c2, a3, c3, a4, c4, hcx⟩ := hsm.form
      subst hcx
      have v0 := hcell 0 (by decide)
      have v1 := hcell 1 (by decide)
      have v2 := hcell 2 (by decide)
      have v3 := hcell 3 (by decide)
      have v4 := hcell 4 (by decide)
      have v5 := hcell 5 (by decide)
      have v6 := hcell 6 (by decide)
      have v7 := hcell 7 (by decide)
      have v8 := hcell 8 (by decide)
      have v9 := hcell 9 (by decide)
      simp only [List.getElem?_cons_zero, List.getElem?_cons_succ, Nat.add_zero] at v0 v1 v2 v3 v4 v5 v6 v7 v8 v9
      have hk1 : Kp B b wr (wr.alloc (.cells #[.int .i64 x.kind, .string (mkB x.text), .slice a0 x.names.length c0, .int .i64 x.ex.kind, .int .i64 x.ex.num, .string (mkB x.ex.text), .slice a1 x.ex.kids.length c1, .slice a2 x.ex.names.length c2, .slice a3 x.body.length c3, .slice a4 x.els.length c4] 40)) := Kp.al b hBw _
      have s1 : (wr.alloc (.cells #[.int .i64 x.kind, .string (mkB x.text), .slice a0 x.names.length c0, .int .i64 x.ex.kind, .int .i64 x.ex.num, .string (mkB x.ex.text), .slice a1 x.ex.kids.length c1, .slice a2 x.ex.names.length c2, .slice a3 x.body.length c3, .slice a4 x.els.length c4] 40)).heap.size = wr.heap.size + 1 := World.size_alloc _ _
      have hbl := hw.lt
      have HBg := begin_any (hw.al (.cells #[.int .i64 x.kind, .string (mkB x.text), .slice a0 x.names.length c0, .int .i64 x.ex.kind, .int .i64 x.ex.num, .string (mkB x.ex.text), .slice a1 x.ex.kids.length c1, .slice a2 x.ex.names.length c2, .slice a3 x.body.length c3, .slice a4 x.els.length c4] 40)) (by omega) (by omega)
      have HQ : Hid (Kp B b w (wr.alloc (.cells #[.int .i64 x.kind, .string (mkB x.text), .slice a0 x.names.length c0, .int .i64 x.ex.kind, .int .i64 x.ex.num, .string (mkB x.ex.text), .slice a1 x.ex.kids.length c1, .slice a2 x.ex.names.length c2, .slice a3 x.body.length c3, .slice a4 x.els.length c4] 40)) ∧ (wr.alloc (.cells #[.int .i64 x.kind, .string (mkB x.text), .slice a0 x.names.length c0, .int .i64 x.ex.kind, .int .i64 x.ex.num, .string (mkB x.ex.text), .slice a1 x.ex.kids.length c1, .slice a2 x.ex.names.length c2, .slice a3 x.body.length c3, .slice a4 x.els.length c4] 40)).heap[wr.heap.size]? = some (.cells #[.int .i64 x.kind, .string (mkB x.text), .slice a0 x.names.length c0, .int .i64 x.ex.kind, .int .i64 x.ex.num, .string (mkB x.ex.text), .slice a1 x.ex.kids.length c1, .slice a2 x.ex.names.length c2, .slice a3 x.body.length c3, .slice a4 x.els.length c4] 40 (0, 0)) ∧ SmA (wr.alloc (.cells #[.int .i64 x.kind, .string (mkB x.text), .slice a0 x.names.length c0, .int .i64 x.ex.kind, .int .i64 x.ex.num, .string (mkB x.ex.text), .slice a1 x.ex.kids.length c1, .slice a2 x.ex.names.length c2, .slice a3 x.body.length c3, .slice a4 x.els.length c4] 40)) S x [.int .i64 x.kind, .string (mkB x.text), .slice a0 x.names.length c0, .int .i64 x.ex.kind, .int .i64 x.ex.num, .string (mkB x.ex.text), .slice a1 x.ex.kids.length c1, .slice a2 x.ex.names.length c2, .slice a3 x.body.length c3, .slice a4 x.els.length c4]) := ⟨hkp.trans hk1, heap_alloc_new wr _, hsm.keep (fun g _ hg => heap_al wr _ g hg) (fun _ hg _ => hg)⟩
      have HKD : Hid (x.kind = 3) := hkd
      clear hcell hsm hRW hw hkp hBw hk1 s1 hkd
      go_wp2_with fail
      refine HBg.mono ?_
      rintro e w1 ⟨rfl, h1, hk1, hB1⟩
      obtain ⟨u0, u1, u2, u3, u4, u5, u6, u7, u8, u9⟩ := ten_of (hk1.other HQ.out.2.1 (by omega) (by decide))
      have HSt := wstatement_any HKD.out ha h1 hB1 hg (HT.out.kp (HQ.out.1.trans hk1) hg) (HQ.out.2.2.kpw hk1 hS) hS (by omega)
      clear h1 hB1 HBg
      go_wp2_with fail
      refine HSt.mono ?_
      rintro e w2 ⟨rfl, h2, hk2, hB2⟩
      have HI : Hid (∃ l'' rest, WrIs B b 0 (Lib.byteCells l'') w2 ∧ Kp B b w w2 ∧ B ≤ w2.heap.size ∧ wP m (ls.drop (k + 1)) = some rest ∧ l'' ++ rest = l ++ out) := ⟨_, bs, h2, (HQ.out.1.trans hk1).trans hk2, hB2, hb, by rw [← hll]; simp⟩
      clear h2 hk2 hB2 hk1 HSt HQ
      go_wp2
      exact ⟨⟨k + 1, by omega, by go_num, HI⟩, by simp [intOf]; omega⟩
    · obtain rfl : k = ls.length := by omega
      rw [List.drop_length] at hr
      have hr2 : rest = [] := by simpa [wP] using hr.symm
      subst hr2
      rw [List.append_nil] at hll
      subst hll
      go_wp2
      go_end0
      exact ⟨rfl, hw, hkp, hBw⟩

/-- What was written may be read. -/
def StR (B b : Nat) (l : List UInt8) (w : World) : Prop := ∃ g cap size, B ≤ g ∧ g < w.heap.size ∧ b < w.heap.size ∧ w.cell? ⟨b, 1, none⟩ = some (.slice (some ⟨g, 0, none⟩) l.length cap) ∧ w.shape? g = some (5, size) ∧ (l.length ≤ size ∧ l.length ≤ cap) ∧ size ≤ maxLen ∧ g ≠ b ∧ ∀ (j : Nat) (x : UInt8), l[j]? = some x → w.cell? ⟨g, j, none⟩ = some (.int .u8 x.toNat)
theorem StR.up {B b : Nat} {l : List UInt8} {w w' : World} (h : StR B b l w) (hb : Below w.heap.size w w') : StR B b l w' := by
  obtain ⟨g, cap, size, h1, h2, h3, h4, h5, h6, h7, h8, h9⟩ := h
  refine ⟨g, cap, size, h1, Nat.lt_of_lt_of_le h2 hb.size, Nat.lt_of_lt_of_le h3 hb.size, (World.cell?_of_block (hb.block b h3)).trans h4, ?_, h6, h7, h8, fun j x hx => (World.cell?_of_block (hb.block g h2)).trans (h9 j x hx)⟩
  rw [← h5]
  simp [World.shape?, hb.block g h2]
theorem StR.of {B b : Nat} {n : Int} {l : List UInt8} {w : World} (h : WrIs B b n (Lib.byteCells l) w) (h0 : l ≠ []) : StR B b l w := by
  have hbl := h.lt
  obtain ⟨p, hB, v, hbk, hown, hne⟩ : ∃ p, WrAt B b n p (Lib.byteCells l) w := by
    rcases h with h | h
    · exact ⟨_, h⟩
    · exact ⟨_, h⟩
  have hl0 : l.length ≠ 0 := by simpa using h0
  rw [Lib.byteCells_length] at hown
  rcases hown.2 with ⟨_, hz⟩ | ⟨g, cap, cur, rfl, hbg, hg, hnc, hcm, hcs, htake⟩
  · exact absurd hz hl0
  · refine ⟨g, cap, cur.size, hbg, (Array.getElem?_eq_some_iff.1 hg).1, hbl, by rw [Lib.cell_of_heap hbk]; rfl, by simp [World.shape?, hg], ⟨by omega, hnc⟩, by omega, fun e => hne (by rw [e]; rfl), fun j x hx => ?_⟩
    have h9 := hown.cells (g := g) rfl j (.int .u8 x.toNat) (by simp [Lib.byteCells, hx])
    rwa [add0] at h9

theorem freeze_shape (w : World) (g n : Nat) : (w.drew.freeze ⟨g, 0, none⟩ n).shape? g = w.shape? g := by
  by_cases hn : n = 0
  · unfold World.freeze
    rw [if_pos hn]
    rfl
  · unfold World.freeze World.shape?
    rw [if_neg hn]
    have : w.drew.heap[g]? = w.heap[g]? := rfl
    simp only [Array.getElem?_modify, this]
    cases w.heap[g]? with
    | none => simp
    | some o => cases o <;> simp
theorem freeze_cell (w : World) (g n j : Nat) : (w.drew.freeze ⟨g, 0, none⟩ n).cell? ⟨g, j, none⟩ = w.cell? ⟨g, j, none⟩ := by
  by_cases hn : n = 0
  · unfold World.freeze
    rw [if_pos hn]
    rfl
  · unfold World.freeze World.cell?
    rw [if_neg hn]
    have : w.drew.heap[g]? = w.heap[g]? := rfl
    simp only [Array.getElem?_modify, this]
    cases w.heap[g]? with
    | none => simp
    | some o => cases o <;> simp

set_option maxHeartbeats 2000000 in
set_option maxRecDepth 100000 in
theorem stR_any {B b : Nat} {l : List UInt8} {w : World} (h : StR B b l w) (h0 : l ≠ []) :
    Calls Tryz.prog 12 #[pt b] w fun e w' => e = .returned (.string ⟨l.toArray⟩) ∧ Below B w w' ∧ StR B b l w' := by
  have H : Hid (StR B b l w) := h
  obtain ⟨g, cap, size, h1, h2, h3, c1, h5, h6, h7, h8, h9⟩ := h
  have hl0 : l.length ≠ 0 := by simpa using h0
  have hcp := h6.2
  have hls := h6.1
  have hSD : (Builtin.unsafeSliceData_ #[34] 56 #[.slice (some ⟨g, 0, none⟩) l.length cap]).run Tryz.prog w.drew = .ok (.pointer (some ⟨g, 0, none⟩)) w.drew :=
    Lib.run_unsafeSliceData_row _ _ _ _ _ _ (by omega)
  have hUS : (Builtin.unsafeString_ #[56, 3] 9 #[.pointer (some ⟨g, 0, none⟩), .int .i64 l.length]).run Tryz.prog w.drew = .ok (.string ⟨l.toArray⟩) (w.drew.freeze ⟨g, 0, none⟩ l.length) :=
    Lib.run_unsafeString_row w.drew 56 3 9 5 Tryz.underlying56 celB g size h5 l h0 (by omega) (by unfold maxLen at h7; omega) (fun j x hx => by rw [add0]; exact h9 j x hx)
  have HF : Hid (StR B b l (w.drew.freeze ⟨g, 0, none⟩ l.length)) := by
    have hh : ∀ k, k ≠ g → (w.drew.freeze ⟨g, 0, none⟩ l.length).heap[k]? = w.heap[k]? := fun k hk => by
      unfold World.freeze
      rw [if_neg hl0]
      simp [Array.getElem?_modify, Ne.symm hk]
      all_goals rfl
    have hz : (w.drew.freeze ⟨g, 0, none⟩ l.length).heap.size = w.heap.size := by
      unfold World.freeze
      rw [if_neg hl0]
      simp
      all_goals rfl
    have hcg : ∀ j, (w.drew.freeze ⟨g, 0, none⟩ l.length).cell? ⟨g, j, none⟩ = w.cell? ⟨g, j, none⟩ := fun j => freeze_cell w g l.length j
    refine ⟨g, cap, size, h1, by rw [hz]; exact h2, by rw [hz]; exact h3, (World.cell?_of_block (hh b (fun e => h8 e.symm))).trans c1, ?_, h6, h7, h8, fun j x hx => (hcg j).trans (h9 j x hx)⟩
    rw [← h5]
    exact freeze_shape w g l.length
  have HBe : Hid (Below B w (w.drew.freeze ⟨g, 0, none⟩ l.length)) := Lib.below_freeze (Below.drew (Below.refl B w)) (p := ⟨g, 0, none⟩) h1 _
  clear h5 h9
  go_enter Tryz.func12, Tryz.ntmps12
  go_wp2
  go_region
  all_goals
    go_wp2
    go_ret
    exact ⟨rfl, HBe.out, HF.out⟩
end Go.Proofs.YtcaeeackccgclaaGreatDoor

/- Canon, where it is told. -/
namespace Go.Proofs.YtcaeeackccgclaaGreatDoor
open Go.RowKit Go.Shelf

abbrev fz : Obj := .cells #[.int .i64 0, .int .i64 0] 25
abbrev wz : Obj := .cells #[.pointer none, .slice none 0 0, .int .i64 0] 45
theorem RwS.rt {n : Nat} {w : World} {l : List Sm} {v : Value} {vs : List (List Value)} (h : RwS n w l v vs) : RwT (fun g => n ≤ g ∧ g < w.heap.size) w l v vs :=
  ⟨row_mono h.row (Nat.zero_le _), fun g hg => h.row.lt g hg, h.fa.mono fun _ _ f => f.mono fun _ hg hg2 => ⟨hg.1, hg2⟩⟩
theorem RwT.up {S : Nat → Prop} {w w' : World} {l : List Sm} {v : Value} {vs : List (List Value)} (h : RwT S w l v vs) (hb : ∀ g, S g → w'.heap[g]? = w.heap[g]?) : RwT S w' l v vs :=
  ⟨own_heap h.row fun g hg => hb g (h.own g hg), h.own, h.fa.mono fun _ _ f => f.keep (fun g hg _ => hb g hg) (fun _ hg _ => hg)⟩
theorem two_of {w : World} {R : Nat} (h : w.heap[R]? = some fz) : w.cell? ⟨R, 0, none⟩ = some (.int .i64 0) ∧ w.cell? ⟨R, 1, none⟩ = some (.int .i64 0) ∧ w.frozen? ⟨R, 0, none⟩ = false ∧ w.frozen? ⟨R, 1, none⟩ = false := by
  refine ⟨?_, ?_, Lib.frozen_of_heap h 0, Lib.frozen_of_heap h 1⟩ <;> (rw [Lib.cell_of_heap h]; rfl)
theorem ErrR.bel {w w' : World} (h : ErrR w) {B : Nat} (hb : Below B w w') (hB : w.heap.size ≤ B) : ErrR w' := h.up (hb.mono hB)
theorem TabW.bel {w w' : World} (h : TabW w) {B : Nat} (hb : Below B w w') (hB : w.heap.size ≤ B) : TabW w' := h.of_block (hb.block _ (Nat.lt_of_lt_of_le h.lt hB))

set_option maxHeartbeats 8000000 in
set_option maxRecDepth 100000 in
theorem Canon_ok (L out : List UInt8) (w : World) (hr : ErrR w) (ht : TabW w) {m : Nat} {l l2 : List Sm} (h1 : parL L = some l) (h2 : wP m l = some out) (h3 : parL out = some l2) (h0 : out ≠ []) (hn : l.length ≤ 1000000) (hlen : out.length ≤ 1000000) :
    Calls Tryz.prog 7 #[.string (mkB L)] w fun e w' => e = .returned (.tuple #[.string ⟨out.toArray⟩, .agg #[.int .i64 0, .int .i64 0]]) ∧ Below w.heap.size w w' := by
  have s0 : (w.alloc fz).heap.size = w.heap.size + 1 := World.size_alloc _ _
  have hb0 : Below w.heap.size w (w.alloc fz) := alB w fz
  have hf0 : (w.alloc fz).heap[w.heap.size]? = some fz := heap_alloc_new w fz
  have HP := Parse_ok L (w.alloc fz) (hr.bel hb0 (Nat.le_refl _)) h1
  have HR : Hid (ErrR w ∧ TabW w) := ⟨hr, ht⟩
  have H3 : Hid (∀ W, ErrR W → Calls Tryz.prog 8 #[.string ⟨out.toArray⟩] W (ParP W (.ok l2))) := fun W hW => Parse_ok out W hW h3
  have H2 : Hid (wP m l = some out) := h2
  clear hr ht h1 h2 h3
  go_enter Tryz.func7, Tryz.ntmps7
  go_wp2_with fail
  refine HP.mono ?_
  rintro e w1 ⟨_, hok, hb1⟩
  obtain ⟨v, vs, rfl, hrw⟩ := hok l rfl
  obtain ⟨a1, c1, rfl⟩ := row_shape hrw.row
  have s1 : w.heap.size + 1 ≤ w1.heap.size := by have := hb1.size; omega
  have s2 : (w1.alloc fz).heap.size = w1.heap.size + 1 := World.size_alloc _ _
  have s3 : ((w1.alloc fz).alloc wz).heap.size = w1.heap.size + 1 + 1 := by rw [World.size_alloc, s2]
  have kX : ∀ g, g < w1.heap.size → ((w1.alloc fz).alloc wz).heap[g]? = w1.heap[g]? := fun g hg => (heap_al _ _ _ (by omega)).trans (heap_al _ _ _ hg)
  have hbX : Below w.heap.size w ((w1.alloc fz).alloc wz) := ((hb0.trans (hb1.mono (by omega))).trans ((alB w1 fz).mono (by omega))).trans ((alB _ wz).mono (by omega))
  have hfX : ((w1.alloc fz).alloc wz).heap[w.heap.size]? = some fz := (kX _ (by omega)).trans ((hb1.block _ (by omega)).trans hf0)
  have hwX : WrIs (w1.heap.size + 1) (w1.heap.size + 1) 0 (Lib.byteCells []) ((w1.alloc fz).alloc wz) := by
    refine .inl ⟨Nat.le_refl _, .slice none 0 0, ?_, World.ownsRow_nil _ _ _ _, by simp [Value.ownBlock]⟩
    have := heap_alloc_new (w1.alloc fz) wz
    rwa [s2] at this
  have hgp : 1 < w1.heap.size + 1 := by have := HR.out.2.lt; omega
  have HSt := wstatements_any H2.out hwX (by omega) hgp (HR.out.2.bel hbX (Nat.le_refl _)) (hrw.rt.up (fun g hg => kX g hg.2)) (fun g hg => by have := hg.2; omega) hn (by simpa using (by omega : out.length ≤ 1000000000))
  have HQ : Hid (Below w.heap.size w ((w1.alloc fz).alloc wz) ∧ ((w1.alloc fz).alloc wz).heap[w.heap.size]? = some fz ∧ w.heap.size + 1 ≤ w1.heap.size ∧ ((w1.alloc fz).alloc wz).heap.size = w1.heap.size + 1 + 1) := ⟨hbX, hfX, s1, s3⟩
  clear HP hok hb1 hrw hb0 hf0 s0 s1 s2 s3 kX hbX hfX hwX hgp
  go_wp2_with fail
  refine HSt.mono ?_
  rintro e w3 ⟨rfl, h3, hk3, hB3⟩
  have HSg := stR_any (StR.of h3 (by simpa using h0)) (by simpa using h0)
  have hb3 : Below w.heap.size w w3 := HQ.out.1.trans (hk3.1.mono (by have := HQ.out.2.2.1; omega))
  have hf3 : w3.heap[w.heap.size]? = some fz := (hk3.1.block _ (by have := HQ.out.2.2.1; omega)).trans HQ.out.2.1
  clear HSt h3 hk3
  go_wp2_with fail
  refine HSg.mono ?_
  rintro e w4 ⟨rfl, hb4, hst4⟩
  have hs13 := HQ.out.2.2.1
  have hb4' : Below w.heap.size w w4 := hb3.trans (hb4.mono (by omega))
  have hf4 : w4.heap[w.heap.size]? = some fz := (hb4.block _ (by omega)).trans hf3
  have HP2 := H3.out w4 (HR.out.1.bel hb4' (Nat.le_refl _))
  clear HSg hb4 hb3 hf3
  go_wp2_with fail
  refine HP2.mono ?_
  rintro e w5 ⟨_, hok, hb5⟩
  obtain ⟨v5, vs5, rfl, hrw5⟩ := hok l2 rfl
  obtain ⟨a5, c5, rfl⟩ := row_shape hrw5.row
  have hst5 := (hst4.up hb5).up (alB w5 fz)
  have HSg := stR_any hst5 (by simpa using h0)
  have hs4 := hb4'.size
  have hs5 := hb5.size
  have hb5' : Below w.heap.size w (w5.alloc fz) := (hb4'.trans (hb5.mono hs4)).trans ((alB w5 fz).mono (by omega))
  have hf4l := (Array.getElem?_eq_some_iff.1 hf4).1
  have hf5 : (w5.alloc fz).heap[w.heap.size]? = some fz := (heap_al _ _ _ (by omega)).trans ((hb5.block _ hf4l).trans hf4)
  clear HP2 hok hrw5 hst4 hst5 hb5 hb4' hf4
  go_wp2_with fail
  refine HSg.mono ?_
  rintro e w6 ⟨rfl, hb6, _⟩
  obtain ⟨g0, g1, k0, k1⟩ := two_of ((hb6.block w.heap.size (by omega)).trans hf5)
  have HZ : Hid (Below w.heap.size w ((w6.setCell ⟨w.heap.size, 0, none⟩ (.int .i64 0)).setCell ⟨w.heap.size, 1, none⟩ (.int .i64 0))) := ((hb5'.trans (hb6.mono (by omega))).setCell (p := ⟨w.heap.size, 0, none⟩) (Nat.le_refl _) _).setCell (p := ⟨w.heap.size, 1, none⟩) (Nat.le_refl _) _
  clear HSg hb6 hb5' hf5
  go_wp2
  refine bodyPost_ret (v := .tuple #[.string ⟨out.toArray⟩, .agg #[.int .i64 0, .int .i64 0]]) (by simp [results, Tryz.results7, go_sem, g0, g1]) rfl ⟨rfl, HZ.out⟩
end Go.Proofs.YtcaeeackccgclaaGreatDoor

/- What must be in any case of sources. -/
namespace Go.Proofs.YtcaeeackccgclaaGreatDoor
open Go.RowKit Go.Shelf

def stm1 : Sm := ⟨3, [97], [], ⟨14, 0, [43], [⟨13, 0, [], [⟨4, 1, [], [], []⟩], []⟩, ⟨4, 2, [], [], []⟩], []⟩, [], []⟩
def stm2 : Sm := ⟨3, [97], [], ⟨11, 0, [], [⟨7, 0, [], [⟨4, 1, [], [], []⟩, ⟨4, 2, [], [], []⟩], []⟩, ⟨4, 0, [], [], []⟩], []⟩, [], []⟩
theorem par1 : parL [97, 32, 61, 32, 45, 49, 32, 43, 32, 50] = some [stm1] := by kernel_rfl
theorem par2 : parL [97, 61, 91, 49, 44, 50, 93, 91, 48, 93] = some [stm2] := by kernel_rfl
theorem par3 : parL [97, 32, 61, 32, 91, 49, 44, 32, 50, 93, 91, 48, 93, 10] = some [stm2] := by kernel_rfl
theorem dd0 : Lib.decDigits 0 = [48] := by rw [Lib.decDigits, dif_pos (by decide)]; rfl
theorem dd1 : Lib.decDigits 1 = [49] := by rw [Lib.decDigits, dif_pos (by decide)]; rfl
theorem dd2 : Lib.decDigits 2 = [50] := by rw [Lib.decDigits, dif_pos (by decide)]; rfl
theorem wri2 : wP 5 [stm2] = some [97, 32, 61, 32, 91, 49, 44, 32, 50, 93, 91, 48, 93, 10] := by
  simp [wP, wE, wL, stm2, dd0, dd1, dd2]

set_option maxHeartbeats 8000000 in
set_option maxRecDepth 100000 in
theorem sbegun_any (w : World) (hr : ErrR w) (ht : TabW w) :
    Calls Tryz.prog 6 #[] w fun e w' => e = .returned (.bool true) ∧ Below w.heap.size w w' := by
  have HP : Calls Tryz.prog 8 #[.string ⟨#[97, 32, 61, 32, 45, 49, 32, 43, 32, 50]⟩] w (ParP w (.ok [stm1])) := Parse_ok [97, 32, 61, 32, 45, 49, 32, 43, 32, 50] w hr par1
  have HC : Hid (∀ W, ErrR W → TabW W → Calls Tryz.prog 7 #[.string ⟨#[97, 61, 91, 49, 44, 50, 93, 91, 48, 93]⟩] W fun e w' => e = .returned (.tuple #[.string ⟨#[97, 32, 61, 32, 91, 49, 44, 32, 50, 93, 91, 48, 93, 10]⟩, .agg #[.int .i64 0, .int .i64 0]]) ∧ Below W.heap.size W w') := fun W h1 h2 => Canon_ok [97, 61, 91, 49, 44, 50, 93, 91, 48, 93] [97, 32, 61, 32, 91, 49, 44, 32, 50, 93, 91, 48, 93, 10] W h1 h2 par2 wri2 par3 (by simp) (by simp) (by simp)
  have HR : Hid (ErrR w ∧ TabW w) := ⟨hr, ht⟩
  clear hr ht
  go_enter Tryz.func6, Tryz.ntmps6
  go_wp2_with fail
  refine HP.mono ?_
  rintro e w1 ⟨_, hok, hb1⟩
  obtain ⟨v, vs, rfl, hrw⟩ := hok [stm1] rfl
  obtain ⟨a1, c1, rfl⟩ := row_shape hrw.row
  have hbX : Below w.heap.size w (w1.alloc fz) := hb1.trans ((alB w1 fz).mono hb1.size)
  have hfX : (w1.alloc fz).heap[w1.heap.size]? = some fz := heap_alloc_new w1 fz
  have s1 : (w1.alloc fz).heap.size = w1.heap.size + 1 := World.size_alloc _ _
  have HCa := HC.out (w1.alloc fz) (HR.out.1.bel hbX (Nat.le_refl _)) (HR.out.2.bel hbX (Nat.le_refl _))
  have hrt : RwT _ (w1.alloc fz) [stm1] _ vs := hrw.rt.up (fun g hg => heap_al w1 _ g hg.2)
  clear HP hok hrw
  go_wp2_with fail
  refine HCa.mono ?_
  rintro e w2 ⟨rfl, hb2⟩
  have hb2' : Below w.heap.size w (w2.alloc fz) := (hbX.trans (hb2.mono hbX.size)).trans ((alB w2 fz).mono (by have := hb2.size; have := hbX.size; omega))
  have hs2 := hb2.size
  have hrt2 : RwT _ (w2.alloc fz) [stm1] _ vs := hrt.up (fun g hg => (heap_al w2 _ g (by have := hg.2; omega)).trans (hb2.block g (by have := hg.2; omega)))
  obtain ⟨g, rfl, hn1, cx, hsm, hcell⟩ := hrt2.at 0 (by simp)
  obtain ⟨a0, k0, b1, k1, b2, k2, b3, k3, b4, k4, hcx⟩ := hsm.form
  subst hcx
  have v0 := hcell 0 (by decide)
  have v0' : (w2.alloc fz).cell? ⟨g, 0, none⟩ = some (.int .i64 3) := v0
  obtain ⟨f0, f1, _, _⟩ := two_of ((heap_al w2 fz w1.heap.size (by omega)).trans ((hb2.block w1.heap.size (by omega)).trans hfX))
  have s2 : (w2.alloc fz).heap.size = w2.heap.size + 1 := World.size_alloc _ _
  have hcv : (convert 34 9 (.slice (some ⟨w2.heap.size + 1, 0, none⟩) 1 1)).run Tryz.prog ((w2.alloc fz).alloc (.cells #[.int .u8 10] 5)) = .ok (.string ⟨#[10]⟩) ((w2.alloc fz).alloc (.cells #[.int .u8 10] 5)) :=
    run_convert_bytes_back _ 34 9 5 ⟨w2.heap.size + 1, 0, none⟩ 1 [10] Tryz.underlying34 Tryz.underlying5 Tryz.underlying9 fun j hj => by
      have hj0 : j = 0 := by simpa using hj
      subst hj0
      have := heap_alloc_new (w2.alloc fz) (.cells #[.int .u8 10] 5)
      rw [s2] at this
      rw [add0, Lib.cell_of_heap this]
      rfl
  have HBz : Hid (Below w.heap.size w ((w2.alloc fz).alloc (.cells #[.int .u8 10] 5))) := hb2'.trans ((alB _ _).mono hb2'.size)
  have hcat : ((⟨#[97, 32, 61, 32, 91, 49, 44, 32, 50, 93, 91, 48, 93]⟩ : ByteArray) ++ ⟨#[10]⟩).toList = [97, 32, 61, 32, 91, 49, 44, 32, 50, 93, 91, 48, 93, 10] := by rw [Lib.toList_data]; simp
  clear HCa hb2 hrt hrt2 hsm hcell v0 hbX hfX
  go_wp2
  go_ret
  exact ⟨rfl, HBz.out⟩
end Go.Proofs.YtcaeeackccgclaaGreatDoor

/- What the rows of the statements on sources (brackets, joins, back) lay: the powers of ten, an error of its own; the second form's witness. -/
namespace Go.Proofs.YtcaeeackccgclaaGreatDoor
open Go.ChangeShapes Go.WideShapes Go.ChangeAt Go.RowKit Go.Shelf

theorem witness_up {H : Type} {enc : TypeId × Value → H} {C : Checked} {os : Os} {f : FuncId} {fn : Func} {s : OpenSpec} {conds : List PathCond} {apart : Bool} {laid : List (String × DataW Unit)} (w0 : World) (args : Array Value) (hos : w0.os = os)
    (hsh : (w0.forCall (fun _ _ => 0) ⟨#[], args, []⟩).Shaped C.prog)
    (hok : Input.okWideB C.prog (w0.forCall (fun _ _ => 0) ⟨#[], args, []⟩) f ⟨#[], args, []⟩ = true)
    (hrow : s.preRow enc C.prog fn conds apart laid (w0.forCall (fun _ _ => 0) ⟨#[], args, []⟩).memory args) :
    ∃ (w : World) (tape : Tape) (i : Input), w.os = os ∧ (w.forCall tape i).Shaped C.prog ∧ i.vars = [] ∧ Input.okWide C.prog (w.forCall tape i) .any w.heap.size f i ∧
      s.preRow enc C.prog fn conds apart laid (w.forCall tape i).memory i.args ∧ ({} : Assume).holds C.prog (lone (Frame.enter C.prog f i.args .normal) [] (w.forCall tape i)) :=
  ⟨w0, fun _ _ => 0, ⟨#[], args, []⟩, hos, hsh, (Input.okWide_of_okWideB (base := 0) hok).1, (Input.okWide_of_okWideB hok).2, hrow, by
    simp only [Assume.holds]
    exact ⟨by simp, by simp, fun _ => Modest.zero, by simp, by simp⟩⟩
theorem own : ownKnob Tryz.prog.godebug = none := by kernel_rfl
theorem starE : "*" ++ "errors.errorString" = "*errors.errorString" := by decide +kernel
theorem rowE (u : TypeId) (h : Tryz.prog.typeName? 3 u = some "*errors.errorString") : u = 146 :=
  typeName_ptr_named (nm := "errors.errorString") (by rw [starE]; kernel_rfl) (by kernel_rfl) (by decide) u (by rw [starE]; exact h)
theorem tab_laid {W : World} {rest : List (String × DataW Unit)} {ps : List MemPlace} (h : DataW.LaidVars Tryz.prog W (("internal/strconv.uint64pow10", Rows.laid_internal_strconv_uint64pow10) :: rest) ps) : Lib.TabIs Tryz.prog W "internal/strconv.uint64pow10" .u64 Lib.pow10Tab := by
  rw [show Rows.laid_internal_strconv_uint64pow10 = Lib.tabData .u64 Lib.pow10Tab by kernel_rfl] at h
  obtain ⟨g, t, cs, fuel, p, q, hg, ht, hvar, hd, _, _⟩ := h
  have hg0 : Tryz.prog.globalNamed "internal/strconv.uint64pow10" = some 1 := by kernel_rfl
  obtain rfl := Option.some.inj (hg0.symm.trans hg)
  have ht0 : (Tryz.prog.globals[1]?).map (·.type) = some 136 := by kernel_rfl
  obtain rfl := Option.some.inj (ht0.symm.trans ht)
  unfold Lib.TabIs
  rw [hvar, ← Lib.cells_of_tab Tryz.underlying136 Tryz.underlying91 (by kernel_rfl) (by kernel_rfl) hd]

theorem err_syntaxJoinsUpto {W : World} (h : laidMetH Tryz.prog Rows.syntaxJoinsUptoRow.laid W) : ErrR W := by
  rw [MakeChecks.laidMetH_plain _ _ _ (by kernel_rfl)] at h
  have h3 : laidMet Tryz.prog (Rows.syntaxJoinsUptoRow.laid.drop 3) W := h.tail.tail.tail
  obtain ⟨a, s, hv, _⟩ := laid_sentinel (P := Tryz.prog) (n := "strconv.ErrRange") (nm := "*errors.errorString") (g := 3) (ti := 63) (tp := 146) (te := 148) (ts := 9) h3 (by kernel_rfl) (by kernel_rfl) Tryz.underlying63 rowE Tryz.underlying146 Tryz.underlying148 rfl rfl Tryz.underlying9 (by kernel_rfl) (by kernel_rfl)
  exact ⟨_, World.var?_cell (by kernel_rfl) hv 0, .inr ⟨_, _, rfl⟩⟩
theorem tab_syntaxJoinsUpto {W : World} (h : laidMetH Tryz.prog Rows.syntaxJoinsUptoRow.laid W) : TabW W := by
  rw [MakeChecks.laidMetH_plain _ _ _ (by kernel_rfl)] at h
  have h3 : laidMet Tryz.prog (Rows.syntaxJoinsUptoRow.laid.drop 2) W := h.tail.tail
  obtain ⟨ps, hv, _, _⟩ := h3
  exact tab_laid hv
theorem err_syntaxBracketsUpto {W : World} (h : laidMetH Tryz.prog Rows.syntaxBracketsUptoRow.laid W) : ErrR W := by
  rw [MakeChecks.laidMetH_plain _ _ _ (by kernel_rfl)] at h
  have h3 : laidMet Tryz.prog (Rows.syntaxBracketsUptoRow.laid.drop 3) W := h.tail.tail.tail
  obtain ⟨a, s, hv, _⟩ := laid_sentinel (P := Tryz.prog) (n := "strconv.ErrRange") (nm := "*errors.errorString") (g := 3) (ti := 63) (tp := 146) (te := 148) (ts := 9) h3 (by kernel_rfl) (by kernel_rfl) Tryz.underlying63 rowE Tryz.underlying146 Tryz.underlying148 rfl rfl Tryz.underlying9 (by kernel_rfl) (by kernel_rfl)
  exact ⟨_, World.var?_cell (by kernel_rfl) hv 0, .inr ⟨_, _, rfl⟩⟩
theorem tab_syntaxBracketsUpto {W : World} (h : laidMetH Tryz.prog Rows.syntaxBracketsUptoRow.laid W) : TabW W := by
  rw [MakeChecks.laidMetH_plain _ _ _ (by kernel_rfl)] at h
  have h3 : laidMet Tryz.prog (Rows.syntaxBracketsUptoRow.laid.drop 2) W := h.tail.tail
  obtain ⟨ps, hv, _, _⟩ := h3
  exact tab_laid hv
theorem err_syntaxBackUpto {W : World} (h : laidMetH Tryz.prog Rows.syntaxBackUptoRow.laid W) : ErrR W := by
  rw [MakeChecks.laidMetH_plain _ _ _ (by kernel_rfl)] at h
  have h3 : laidMet Tryz.prog (Rows.syntaxBackUptoRow.laid.drop 3) W := h.tail.tail.tail
  obtain ⟨a, s, hv, _⟩ := laid_sentinel (P := Tryz.prog) (n := "strconv.ErrRange") (nm := "*errors.errorString") (g := 3) (ti := 63) (tp := 146) (te := 148) (ts := 9) h3 (by kernel_rfl) (by kernel_rfl) Tryz.underlying63 rowE Tryz.underlying146 Tryz.underlying148 rfl rfl Tryz.underlying9 (by kernel_rfl) (by kernel_rfl)
  exact ⟨_, World.var?_cell (by kernel_rfl) hv 0, .inr ⟨_, _, rfl⟩⟩
theorem tab_syntaxBackUpto {W : World} (h : laidMetH Tryz.prog Rows.syntaxBackUptoRow.laid W) : TabW W := by
  rw [MakeChecks.laidMetH_plain _ _ _ (by kernel_rfl)] at h
  have h3 : laidMet Tryz.prog (Rows.syntaxBackUptoRow.laid.drop 2) W := h.tail.tail
  obtain ⟨ps, hv, _, _⟩ := h3
  exact tab_laid hv
end Go.Proofs.YtcaeeackccgclaaGreatDoor

/- Expressions that say the same, as the laws ask it. -/
namespace Go.Proofs.YtcaeeackccgclaaGreatDoor
open Go.RowKit Go.Shelf

/-- Things in a row, wherever. -/
def RowAt (w : World) (sz : Nat) (v : Value) (n : Nat) (xs : List Value) : Prop := ∃ a c, v = .slice a n c ∧ (n = 0 ∨ ∃ g, a = some ⟨g, 0, none⟩ ∧ g < w.heap.size ∧ ∀ j, j < n * sz → w.cell? ⟨g, j, none⟩ = xs[j]?) ∧ n ≤ maxLen
/-- One more does not wrap. -/
theorem wrap1 {k n : Nat} (h : k < n) (hn : n ≤ maxLen) : IntKind.i64.wrap ((k : Int) + 1) = (k : Int) + 1 := by
  have h2 : maxLen = 9223372036854775807 := rfl
  rw [h2] at hn
  exact IntWalk.i64_in _ ⟨by omega, by omega⟩
theorem row_at {w : World} {B : Nat} {e : TypeId} {sz : Nat} {v : Value} {n : Nat} {xs : List Value} (h : w.ownsRow B e sz v n xs) : RowAt w sz v n xs := by
  rcases h.2 with ⟨rfl, rfl⟩ | ⟨g, cap, cur, rfl, _, hg, h1, h2, _⟩
  · exact ⟨none, 0, rfl, .inl rfl, Nat.zero_le _⟩
  · refine ⟨_, cap, rfl, .inr ⟨g, rfl, (Array.getElem?_eq_some_iff.1 hg).1, fun j hj => h.cellAt j hj⟩, Nat.le_trans h1 h2⟩
theorem RowAt.keep {w w' : World} {sz : Nat} {v : Value} {n : Nat} {xs : List Value} (h : RowAt w sz v n xs) (hk : ∀ g, g < w.heap.size → w'.heap[g]? = w.heap[g]?) : RowAt w' sz v n xs := by
  obtain ⟨a, c, e, h1, h2⟩ := h
  refine ⟨a, c, e, ?_, h2⟩
  rcases h1 with h1 | ⟨g, e1, h3, h4⟩
  · exact .inl h1
  · refine .inr ⟨g, e1, ?_, fun j hj => ?_⟩
    · have h5 := (hk g h3).trans (Array.getElem?_eq_getElem h3)
      exact (Array.getElem?_eq_some_iff.1 h5).1
    · rw [← h4 j hj]
      simp [World.cell?, hk g h3]

set_option maxHeartbeats 4000000 in
set_option maxRecDepth 100000 in
theorem STexts_ok (v u : Value) (l : List (List UInt8)) (w : World) (hx : RowAt w 1 v l.length (l.map sv)) (hy : RowAt w 1 u l.length (l.map sv)) :
    Calls Tryz.prog 15 #[v, u] w fun e w' => e = .returned (.bool true) ∧ ∃ m, w' = w.drewN m := by
  obtain ⟨xa, xc, rfl, hx, hn⟩ := hx
  obtain ⟨ya, yc, rfl, hy, _⟩ := hy
  have HX : Hid (l.length = 0 ∨ ∃ g, xa = some ⟨g, 0, none⟩ ∧ g < w.heap.size ∧ ∀ j, j < l.length * 1 → w.cell? ⟨g, j, none⟩ = (l.map sv)[j]?) := hx
  have HY : Hid (l.length = 0 ∨ ∃ g, ya = some ⟨g, 0, none⟩ ∧ g < w.heap.size ∧ ∀ j, j < l.length * 1 → w.cell? ⟨g, j, none⟩ = (l.map sv)[j]?) := hy
  have HN : Hid (l.length ≤ maxLen) := hn
  clear hx hy hn
  go_enter Tryz.func15, Tryz.ntmps15
  go_wp2
  go_loopw [5] (fun i wr => ∃ k m : Nat, k ≤ l.length ∧ i = .int .i64 k ∧ wr = w.drewN m) (fun i _ => l.length - (intOf i).toNat)
  case atStart => exact ⟨0, 0, Nat.zero_le _, rfl, rfl⟩
  case round =>
    obtain ⟨k, m, hk, rfl, rfl⟩ := hrel
    by_cases hlt : k < l.length
    · rcases HX.out with h | ⟨g, rfl, _, ca⟩
      · exfalso; omega
      rcases HY.out with h | ⟨g', rfl, _, cb⟩
      · exfalso; omega
      have a0 := ca k (by omega)
      have b0 := cb k (by omega)
      rw [List.getElem?_map, List.getElem?_eq_getElem hlt] at a0 b0
      replace a0 : w.cell? ⟨g, k, none⟩ = some (.string (mkB l[k])) := a0
      replace b0 : w.cell? ⟨g', k, none⟩ = some (.string (mkB l[k])) := b0
      have hki : (k : Int) < (l.length : Int) := by omega
      have hwr := wrap1 hlt HN.out
      clear ca cb
      generalize mkB l[k] = x at a0 b0
      go_wp2
      go_region
      all_goals go_wp2
      all_goals exact ⟨⟨k + 1, m + 1, by omega, by go_num, rfl⟩, by simp [intOf]; omega⟩
    · obtain rfl : k = l.length := by omega
      have hki : ¬ (l.length : Int) < (l.length : Int) := by omega
      go_wp2
      go_ret
      exact ⟨rfl, m, rfl⟩

/-- Expressions in a row. -/
def ExR (w : World) (n : Nat) (v : Value) (l : List Ex) : Prop := ∃ vs, RowAt w 5 v l.length vs.flatten ∧ Fa (ExV w (fun _ => True) n) l vs
theorem ExR.drewN {w : World} {n : Nat} {v : Value} {l : List Ex} (h : ExR w n v l) (m : Nat) : ExR (w.drewN m) n v l := by
  obtain ⟨vs, h1, h2⟩ := h
  exact ⟨vs, h1, h2.mono fun _ _ f => ExV.keep (w := w) (w' := w.drewN m) (S := fun _ => True) (Q := fun _ => True) (fun _ _ _ => rfl) (fun _ _ _ => trivial) f⟩
theorem ExR.keep {w w' : World} {n : Nat} {v : Value} {l : List Ex} (h : ExR w n v l) (hk : ∀ g, g < w.heap.size → w'.heap[g]? = w.heap[g]?) : ExR w' n v l := by
  obtain ⟨vs, h1, h2⟩ := h
  exact ⟨vs, h1.keep hk, h2.mono fun _ _ f => ExV.keep (w := w) (w' := w') (S := fun _ => True) (Q := fun _ => True) (fun g _ hg => hk g hg) (fun _ _ _ => trivial) f⟩
theorem fa_len5 {w : World} {S : Nat → Prop} {n : Nat} : ∀ {l : List Ex} {vs : List (List Value)}, Fa (ExV w S n) l vs → ∀ c ∈ vs, c.length = 5
  | [], [], _ => by simp
  | a :: l, b :: m, f => fun c hc => by
    rcases List.mem_cons.1 hc with e | e
    · rw [e]; exact f.1.len
    · exact fa_len5 f.2 c e
/-- One of them. -/
theorem ExR.at_ {w : World} {n : Nat} {v : Value} {l : List Ex} (h : ExR w (n + 1) v l) {a : Option Addr} {cp : Nat} (hv : v = .slice a l.length cp) (k : Nat) (hk : k < l.length) : ∃ g kv nv, a = some ⟨g, 0, none⟩ ∧
    w.cell? ⟨g, k * 5, none⟩ = some (.int .i64 l[k].kind) ∧ w.cell? ⟨g, k * 5 + 1, none⟩ = some (.int .i64 l[k].num) ∧ w.cell? ⟨g, k * 5 + 2, none⟩ = some (sv l[k].text) ∧ w.cell? ⟨g, k * 5 + 3, none⟩ = some kv ∧ w.cell? ⟨g, k * 5 + 4, none⟩ = some nv ∧
    ExR w n kv l[k].kids ∧ RowAt w 1 nv l[k].names.length (l[k].names.map sv) := by
  obtain ⟨vs, ⟨a2, c2, e2, h2, _⟩, hfa⟩ := h
  have hl := hfa.len
  have h5 := fa_len5 hfa
  have hx := hfa.get k hk (by omega)
  obtain ⟨kv, nv, vk, e, r1, r2, _, _, r5⟩ := hx
  rw [hv] at e2
  injection e2 with e3 _ _
  subst e3
  rcases h2 with h2 | ⟨g, rfl, hgl, hc⟩
  · exfalso; omega
  have hat : ∀ i, i < 5 → w.cell? ⟨g, k * 5 + i, none⟩ = ([.int .i64 l[k].kind, .int .i64 l[k].num, sv l[k].text, kv, nv] : List Value)[i]? := fun i hi => by
    rw [hc (k * 5 + i) (by omega), flat5 vs h5 k vs[k] (List.getElem?_eq_getElem _) i hi, e]
  exact ⟨g, kv, nv, rfl, hat 0 (by decide), hat 1 (by decide), hat 2 (by decide), hat 3 (by decide), hat 4 (by decide), ⟨vk, row_at r1, r5⟩, row_at r2⟩

/-- One of both rows, with what both calls on it come to. -/
def ExPair (w : World) (xa ya : Option Addr) (k : Nat) : Prop := ∃ g g' kd nm tx kv nv kv' nv', xa = some ⟨g, 0, none⟩ ∧ ya = some ⟨g', 0, none⟩ ∧
    (w.cell? ⟨g, k * 5, none⟩ = some (.int .i64 kd) ∧ w.cell? ⟨g, k * 5 + 1, none⟩ = some (.int .i64 nm) ∧ w.cell? ⟨g, k * 5 + 2, none⟩ = some (.string tx) ∧ w.cell? ⟨g, k * 5 + 3, none⟩ = some kv ∧ w.cell? ⟨g, k * 5 + 4, none⟩ = some nv) ∧
    (w.cell? ⟨g', k * 5, none⟩ = some (.int .i64 kd) ∧ w.cell? ⟨g', k * 5 + 1, none⟩ = some (.int .i64 nm) ∧ w.cell? ⟨g', k * 5 + 2, none⟩ = some (.string tx) ∧ w.cell? ⟨g', k * 5 + 3, none⟩ = some kv' ∧ w.cell? ⟨g', k * 5 + 4, none⟩ = some nv') ∧
    Hid (∀ M, Calls Tryz.prog 15 #[nv, nv'] (w.drewN M) fun e w' => e = .returned (.bool true) ∧ ∃ m, w' = (w.drewN M).drewN m) ∧
    Hid (∀ M, Calls Tryz.prog 16 #[kv, kv'] (w.drewN M) fun e w' => e = .returned (.bool true) ∧ ∃ m, w' = (w.drewN M).drewN m)

set_option maxHeartbeats 8000000 in
set_option maxRecDepth 100000 in
theorem SExprs_walk (xa ya : Option Addr) (n xc yc : Nat) (w : World) (hn : n ≤ maxLen) (HA : Hid (∀ k m, k < n → ExPair (w.drewN m) xa ya k)) :
    Calls Tryz.prog 16 #[.slice xa n xc, .slice ya n yc] w fun e w' => e = .returned (.bool true) ∧ ∃ m, w' = w.drewN m := by
  have HN : Hid (n ≤ maxLen) := hn
  clear hn
  go_enter Tryz.func16, Tryz.ntmps16
  go_wp2
  go_loopw [5] (fun i wr => ∃ k m : Nat, k ≤ n ∧ i = .int .i64 k ∧ wr = w.drewN m) (fun i _ => n - (intOf i).toNat)
  case atStart => exact ⟨0, 0, Nat.zero_le _, rfl, rfl⟩
  case round =>
    obtain ⟨k, m, hk, rfl, rfl⟩ := hrel
    by_cases hlt : k < n
    · have hki : (k : Int) < (n : Int) := by omega
      have hwr := wrap1 hlt HN.out
      obtain ⟨g, g', kd, nm, tx, kv, nv, kv', nv', rfl, rfl, ⟨a0, a1, a2, a3, a4⟩, ⟨b0, b1, b2, b3, b4⟩, HT, HE⟩ := HA.out k m hlt
      obtain ⟨W, hW⟩ : ∃ W, W = w.drewN m := ⟨_, rfl⟩
      have HW : Hid (W = w.drewN m) := hW
      rw [← hW] at a0 a1 a2 a3 a4 b0 b1 b2 b3 b4 HT HE ⊢
      clear hW
      go_wp2
      go_quiet (first | (go_at_call 15; exact Calls.quiet_of (HT.out _)) | (go_at_call 16; exact Calls.quiet_of (HE.out _)))
      go_wp2
      exact ⟨⟨k + 1, _, by omega, by go_num, by rw [HW.out, World.drewN_drewN]⟩, by simp [intOf]; omega⟩
    · obtain rfl : k = n := by omega
      have hki : ¬ (k : Int) < (k : Int) := by omega
      go_wp2
      go_ret
      exact ⟨rfl, m, rfl⟩
theorem SExprs_ok : ∀ (n : Nat) (v u : Value) (l : List Ex) (w : World), ExR w n v l → ExR w n u l →
    Calls Tryz.prog 16 #[v, u] w fun e w' => e = .returned (.bool true) ∧ ∃ m, w' = w.drewN m := by
  intro n
  induction n with
  | zero =>
    intro v u l w hx hy
    obtain ⟨vs, ⟨xa, xc, rfl, _, hn⟩, hf⟩ := hx
    obtain ⟨us, ⟨ya, yc, rfl, _, _⟩, _⟩ := hy
    refine SExprs_walk xa ya l.length xc yc w hn fun k m hk => ?_
    match l, vs, hf, hk with
    | a :: l, b :: vs, hf, _ => exact hf.1.elim
  | succ n ih =>
    intro v u l w hx hy
    have hx0 := hx
    have hy0 := hy
    obtain ⟨_, ⟨xa, xc, rfl, _, hn⟩, _⟩ := hx0
    obtain ⟨_, ⟨ya, yc, rfl, _, _⟩, _⟩ := hy0
    refine SExprs_walk xa ya l.length xc yc w hn fun k m hk => ?_
    obtain ⟨g, kv, nv, rfl, a0, a1, a2, a3, a4, a5, a6⟩ := (hx.drewN m).at_ rfl k hk
    obtain ⟨g', kv', nv', rfl, b0, b1, b2, b3, b4, b5, b6⟩ := (hy.drewN m).at_ rfl k hk
    exact ⟨g, g', _, _, _, kv, nv, kv', nv', rfl, rfl, ⟨a0, a1, a2, a3, a4⟩, ⟨b0, b1, b2, b3, b4⟩, fun M => STexts_ok nv nv' l[k].names ((w.drewN m).drewN M) a6 b6, fun M => ih kv kv' l[k].kids ((w.drewN m).drewN M) (a5.drewN M) (b5.drewN M)⟩
end Go.Proofs.YtcaeeackccgclaaGreatDoor

/- A row of one expression is built. -/
namespace Go.Proofs.YtcaeeackccgclaaGreatDoor
open Go.RowKit Go.Shelf

set_option maxHeartbeats 4000000 in
theorem run_bs1 (W : World) (x0 x1 : Int) (t : ByteArray) (a1 : Option Addr) (n1 c1 : Nat) (a2 : Option Addr) (n2 c2 : Nat) :
    (Instr.buildSlice 36 1 #[(0, .agg #[.int .i64 x0, .int .i64 x1, .string t, .slice a1 n1 c1, .slice a2 n2 c2])]).run Tryz.prog W = .ok (.slice (some ⟨W.heap.size, 0, none⟩) 1 1) (W.alloc (.cells #[.int .i64 x0, .int .i64 x1, .string t, .slice a1 n1 c1, .slice a2 n2 c2] 38)) := by
  simp [Instr.buildSlice, go_sem]
/-- Such an operation in a region. -/
theorem bs_wp {a : Act} {W : World} {K : Act → World → Prop} {Q : Exit → Act → World → Prop} {x0 x1 : Int} {t : ByteArray} {a1 : Option Addr} {n1 c1 : Nat} {a2 : Option Addr} {n2 c2 : Nat} {n : Nat} {o : Oper} (ho : o.op = .buildSlice 36 1 #[(0, .tmp n)]) (he : a.eval (.tmp n) = .agg #[.int .i64 x0, .int .i64 x1, .string t, .slice a1 n1 c1, .slice a2 n2 c2])
    (hK : K (a.put o.dst (.slice (some ⟨W.heap.size, 0, none⟩) 1 1)) (W.alloc (.cells #[.int .i64 x0, .int .i64 x1, .string t, .slice a1 n1 c1, .slice a2 n2 c2] 38))) : Oper.wp Tryz.prog o a W K Q := by
  have h : (execOp a.eval o).run Tryz.prog W = .ok (.value (.slice (some ⟨W.heap.size, 0, none⟩) 1 1)) (W.alloc (.cells #[.int .i64 x0, .int .i64 x1, .string t, .slice a1 n1 c1, .slice a2 n2 c2] 38)) := by
    generalize hz : a.eval = ev at *
    unfold execOp
    rw [ho]
    have e3 : ((#[(0, Operand.tmp n)] : Array (Nat × Operand)).map fun x => (x.1, ev x.2)) = #[(0, ev (Operand.tmp n))] := by simp
    simp only [e3]
    simp [he, Instr.buildSlice, go_sem]
  unfold Oper.wp
  rw [h]
  exact hK
end Go.Proofs.YtcaeeackccgclaaGreatDoor

/- Statements that say the same, as the laws ask it. -/
namespace Go.Proofs.YtcaeeackccgclaaGreatDoor
open Go.RowKit Go.Shelf

/-- Statements in a row. -/
def StW (w : World) (n : Nat) (v : Value) (l : List Sm) : Prop := ∃ vs, RowAt w 10 v l.length vs.flatten ∧ Fa (SmV w (fun _ => True) n) l vs
theorem StW.keep {w w' : World} {n : Nat} {v : Value} {l : List Sm} (h : StW w n v l) (hk : ∀ g, g < w.heap.size → w'.heap[g]? = w.heap[g]?) : StW w' n v l := by
  obtain ⟨vs, h1, h2⟩ := h
  exact ⟨vs, h1.keep hk, h2.mono fun _ _ f => SmV.keep (w := w) (w' := w') (S := fun _ => True) (Q := fun _ => True) (fun g _ hg => hk g hg) (fun _ _ _ => trivial) f⟩
theorem smv_len {w : World} {S : Nat → Prop} {n : Nat} {x : Sm} {c : List Value} (h : SmV w S n x c) : c.length = 10 := SmA.len ⟨n, h⟩
theorem fa_len10 {w : World} {S : Nat → Prop} {n : Nat} : ∀ {l : List Sm} {vs : List (List Value)}, Fa (SmV w S n) l vs → ∀ c ∈ vs, c.length = 10
  | [], [], _ => by simp
  | a :: l, b :: m, f => fun c hc => by
    rcases List.mem_cons.1 hc with e | e
    · rw [e]; exact smv_len f.1
    · exact fa_len10 f.2 c e
/-- One of them. -/
theorem StW.at_ {w : World} {n : Nat} {v : Value} {l : List Sm} (h : StW w (n + 1) v l) {a : Option Addr} {cp : Nat} (hv : v = .slice a l.length cp) (k : Nat) (hk : k < l.length) : ∃ g nv kv mv bv ev, a = some ⟨g, 0, none⟩ ∧ g < w.heap.size ∧
    (w.cell? ⟨g, k * 10, none⟩ = some (.int .i64 l[k].kind) ∧ w.cell? ⟨g, k * 10 + 1, none⟩ = some (sv l[k].text) ∧ w.cell? ⟨g, k * 10 + 2, none⟩ = some nv ∧ w.cell? ⟨g, k * 10 + 3, none⟩ = some (.int .i64 l[k].ex.kind) ∧ w.cell? ⟨g, k * 10 + 4, none⟩ = some (.int .i64 l[k].ex.num) ∧ w.cell? ⟨g, k * 10 + 5, none⟩ = some (sv l[k].ex.text) ∧ w.cell? ⟨g, k * 10 + 6, none⟩ = some kv ∧ w.cell? ⟨g, k * 10 + 7, none⟩ = some mv ∧ w.cell? ⟨g, k * 10 + 8, none⟩ = some bv ∧ w.cell? ⟨g, k * 10 + 9, none⟩ = some ev) ∧
    RowAt w 1 nv l[k].names.length (l[k].names.map sv) ∧ (∃ m, ExR w m kv l[k].ex.kids ∧ RowAt w 1 mv l[k].ex.names.length (l[k].ex.names.map sv)) ∧ StW w n bv l[k].body ∧ StW w n ev l[k].els := by
  obtain ⟨vs, ⟨a2, c2, e2, h2, _⟩, hfa⟩ := h
  have hl := hfa.len
  have h10 := fa_len10 hfa
  have hx := hfa.get k hk (by omega)
  obtain ⟨nv, ce, bv, ev, bs, es, e, h3, h4, h5, h6, _, _, _, h7, h8⟩ := hx
  obtain ⟨m, hm⟩ := h3
  match m, hm with
  | m + 1, ⟨kv, mv, vk, ec, r1, r2, _, _, r5⟩ =>
  rw [hv] at e2
  injection e2 with e3 _ _
  subst e3
  rcases h2 with h2 | ⟨g, rfl, hgl, hc⟩
  · exfalso; omega
  subst ec
  have hat : ∀ i, i < 10 → w.cell? ⟨g, k * 10 + i, none⟩ = ([.int .i64 l[k].kind, sv l[k].text, nv, .int .i64 l[k].ex.kind, .int .i64 l[k].ex.num, sv l[k].ex.text, kv, mv, bv, ev] : List Value)[i]? := fun i hi => by
    rw [hc (k * 10 + i) (by omega), flat10 vs h10 k vs[k] (List.getElem?_eq_getElem _) i hi, e]
    rfl
  exact ⟨g, nv, kv, mv, bv, ev, rfl, hgl, ⟨hat 0 (by decide), hat 1 (by decide), hat 2 (by decide), hat 3 (by decide), hat 4 (by decide), hat 5 (by decide), hat 6 (by decide), hat 7 (by decide), hat 8 (by decide), hat 9 (by decide)⟩, row_at h4, ⟨m, ⟨vk, row_at r1, r5⟩, row_at r2⟩, ⟨bs, row_at h5, h7⟩, ⟨es, row_at h6, h8⟩⟩

/-- One of both rows, with what the calls on it come to. -/
def StPair (W : World) (xa ya : Option Addr) (k : Nat) : Prop := ∃ g g' kd tx ed en et kn mn nv ka kc ma mc bv ev nv' ka' kc' ma' mc' bv' ev', xa = some ⟨g, 0, none⟩ ∧ ya = some ⟨g', 0, none⟩ ∧ Hid (∀ V, Below W.heap.size W V → (V.cell? ⟨g, k * 10, none⟩ = some (.int .i64 kd) ∧ V.cell? ⟨g, k * 10 + 1, none⟩ = some (.string tx) ∧ V.cell? ⟨g, k * 10 + 2, none⟩ = some nv ∧ V.cell? ⟨g, k * 10 + 3, none⟩ = some (.int .i64 ed) ∧ V.cell? ⟨g, k * 10 + 4, none⟩ = some (.int .i64 en) ∧ V.cell? ⟨g, k * 10 + 5, none⟩ = some (.string et) ∧ V.cell? ⟨g, k * 10 + 6, none⟩ = some (.slice ka kn kc) ∧ V.cell? ⟨g, k * 10 + 7, none⟩ = some (.slice ma mn mc) ∧ V.cell? ⟨g, k * 10 + 8, none⟩ = some bv ∧ V.cell? ⟨g, k * 10 + 9, none⟩ = some ev) ∧ (V.cell? ⟨g', k * 10, none⟩ = some (.int .i64 kd) ∧ V.cell? ⟨g', k * 10 + 1, none⟩ = some (.string tx) ∧ V.cell? ⟨g', k * 10 + 2, none⟩ = some nv' ∧ V.cell? ⟨g', k * 10 + 3, none⟩ = some (.int .i64 ed) ∧ V.cell? ⟨g', k * 10 + 4, none⟩ = some (.int .i64 en) ∧ V.cell? ⟨g', k * 10 + 5, none⟩ = some (.string et) ∧ V.cell? ⟨g', k * 10 + 6, none⟩ = some (.slice ka' kn kc') ∧ V.cell? ⟨g', k * 10 + 7, none⟩ = some (.slice ma' mn mc') ∧ V.cell? ⟨g', k * 10 + 8, none⟩ = some bv' ∧ V.cell? ⟨g', k * 10 + 9, none⟩ = some ev')) ∧
    Hid (∀ V, Below W.heap.size W V → Calls Tryz.prog 15 #[nv, nv'] V fun e w' => e = .returned (.bool true) ∧ Below W.heap.size W w') ∧
    Hid (∀ V, Below W.heap.size W V → Calls Tryz.prog 16 #[.slice (some ⟨V.heap.size, 0, none⟩) 1 1, .slice (some ⟨V.heap.size + 1, 0, none⟩) 1 1] ((V.alloc (.cells #[.int .i64 ed, .int .i64 en, .string et, .slice ka kn kc, .slice ma mn mc] 38)).alloc (.cells #[.int .i64 ed, .int .i64 en, .string et, .slice ka' kn kc', .slice ma' mn mc'] 38)) fun e w' => e = .returned (.bool true) ∧ Below W.heap.size W w') ∧
    Hid (∀ V, Below W.heap.size W V → Calls Tryz.prog 16 #[.slice (some ⟨V.heap.size + 1, 0, none⟩) 1 1, .slice (some ⟨V.heap.size, 0, none⟩) 1 1] ((V.alloc (.cells #[.int .i64 ed, .int .i64 en, .string et, .slice ka' kn kc', .slice ma' mn mc'] 38)).alloc (.cells #[.int .i64 ed, .int .i64 en, .string et, .slice ka kn kc, .slice ma mn mc] 38)) fun e w' => e = .returned (.bool true) ∧ Below W.heap.size W w') ∧
    Hid (∀ V, Below W.heap.size W V → Calls Tryz.prog 9 #[bv, bv'] V fun e w' => e = .returned (.bool true) ∧ Below W.heap.size W w') ∧
    Hid (∀ V, Below W.heap.size W V → Calls Tryz.prog 9 #[ev, ev'] V fun e w' => e = .returned (.bool true) ∧ Below W.heap.size W w')

set_option maxHeartbeats 16000000 in
set_option linter.unusedSimpArgs false in
set_option linter.unusedVariables false in
set_option maxRecDepth 100000 in
theorem SStmts_walk (xa ya : Option Addr) (n xc yc : Nat) (w : World) (hn : n ≤ maxLen) (HA : Hid (∀ k V, Below w.heap.size w V → k < n → StPair V xa ya k)) :
    Calls Tryz.prog 9 #[.slice xa n xc, .slice ya n yc] w fun e w' => e = .returned (.bool true) ∧ Below w.heap.size w w' := by
  have HN : Hid (n ≤ maxLen) := hn
  clear hn
  go_enter Tryz.func9, Tryz.ntmps9
  go_wp2
  go_loopw [5] (fun i wr => ∃ k : Nat, k ≤ n ∧ i = .int .i64 k ∧ Below w.heap.size w wr) (fun i _ => n - (intOf i).toNat)
  case atStart => exact ⟨0, Nat.zero_le _, rfl, Below.refl _ _⟩
  case round =>
    obtain ⟨k, hk, rfl, hb⟩ := hrel
    by_cases hlt : k < n
    · have hki : (k : Int) < (n : Int) := by omega
      have hwr := wrap1 hlt HN.out
      obtain ⟨g, g', kd, tx, ed, en, et, kn, mn, nv, ka, kc, ma, mc, bv, ev, nv', ka', kc', ma', mc', bv', ev', rfl, rfl, HC, HT, HE1, HE2, HB, HF⟩ := HA.out k wr hb hlt
      obtain ⟨W, hW⟩ : ∃ W, W = wr := ⟨_, rfl⟩
      rw [← hW] at HC HT HE1 HE2 HB HF hb ⊢
      clear hW
      have HD : Hid (Below W.heap.size W W.drew) := (Below.refl _ W).drew
      have HAl : Hid (∀ V o, Below W.heap.size W V → Below W.heap.size W (V.alloc o)) := fun V o hV => hV.alloc hV.size o
      have a0 := fun V hV => (HC.out V hV).1.1
      have b0 := fun V hV => (HC.out V hV).2.1
      have a1 := fun V hV => (HC.out V hV).1.2.1
      have b1 := fun V hV => (HC.out V hV).2.2.1
      have a2 := fun V hV => (HC.out V hV).1.2.2.1
      have b2 := fun V hV => (HC.out V hV).2.2.2.1
      have a3 := fun V hV => (HC.out V hV).1.2.2.2.1
      have b3 := fun V hV => (HC.out V hV).2.2.2.2.1
      have a4 := fun V hV => (HC.out V hV).1.2.2.2.2.1
      have b4 := fun V hV => (HC.out V hV).2.2.2.2.2.1
      have a5 := fun V hV => (HC.out V hV).1.2.2.2.2.2.1
      have b5 := fun V hV => (HC.out V hV).2.2.2.2.2.2.1
      have a6 := fun V hV => (HC.out V hV).1.2.2.2.2.2.2.1
      have b6 := fun V hV => (HC.out V hV).2.2.2.2.2.2.2.1
      have a7 := fun V hV => (HC.out V hV).1.2.2.2.2.2.2.2.1
      have b7 := fun V hV => (HC.out V hV).2.2.2.2.2.2.2.2.1
      have a8 := fun V hV => (HC.out V hV).1.2.2.2.2.2.2.2.2.1
      have b8 := fun V hV => (HC.out V hV).2.2.2.2.2.2.2.2.2.1
      have a9 := fun V hV => (HC.out V hV).1.2.2.2.2.2.2.2.2.2
      have b9 := fun V hV => (HC.out V hV).2.2.2.2.2.2.2.2.2.2
      have HBb : Hid (Below w.heap.size w W) := hb
      clear HC hb HA
      go_wp2
      simp only [List.append_eq, List.cons_append, List.nil_append]
      refine wp_region_held_drew (S := fun V => Below W.heap.size W V) (by kernel_rfl) HD.out (fun hHeld => ?_)
      refine tK2 (i := 0) (v := ?_) rfl (by kernel_rfl) (fun _ _ _ h => h) (Or.inl ⟨by rfl, ?_⟩) (by assumption) ?_
      rotate_left
      · intro V hSV
        (try dsimp only at hSV)
        go_simp
        try with_reducible rfl
      try simp only [Act.put, pA, pB, pC, pD, pE, pF]
      refine tK2 (i := 1) (v := ?_) rfl (by kernel_rfl) (fun _ _ _ h => h) (Or.inl ⟨by rfl, ?_⟩) (by assumption) ?_
      rotate_left
      · intro V hSV
        (try dsimp only at hSV)
        go_simp
        try with_reducible rfl
      try simp only [Act.put, pA, pB, pC, pD, pE, pF]
      refine tK2 (i := 2) (v := ?_) rfl (by kernel_rfl) (fun _ _ _ h => h) (Or.inl ⟨by rfl, ?_⟩) (by assumption) ?_
      rotate_left
      · intro V hSV
        (try dsimp only at hSV)
        go_simp
        try with_reducible rfl
      try simp only [Act.put, pA, pB, pC, pD, pE, pF]
      refine tK2 (i := 3) (v := ?_) rfl (by kernel_rfl) (fun _ _ _ h => h) (Or.inl ⟨by rfl, ?_⟩) (by assumption) ?_
      rotate_left
      · intro V hSV
        (try dsimp only at hSV)
        go_simp
        try with_reducible rfl
      try simp only [Act.put, pA, pB, pC, pD, pE, pF]
      refine tK2 (i := 4) (v := ?_) rfl (by kernel_rfl) (fun _ _ _ h => h) (Or.inl ⟨by rfl, ?_⟩) (by assumption) ?_
      rotate_left
      · intro V hSV
        (try dsimp only at hSV)
        go_simp
        try with_reducible rfl
      try simp only [Act.put, pA, pB, pC, pD, pE, pF]
      refine tK2 (i := 5) (v := ?_) rfl (by kernel_rfl) (fun _ _ _ h => h) (Or.inl ⟨by rfl, ?_⟩) (by assumption) ?_
      rotate_left
      · intro V hSV
        (try dsimp only at hSV)
        go_simp
        try with_reducible rfl
      try simp only [Act.put, pA, pB, pC, pD, pE, pF]
      refine tK2 (i := 6) (v := ?_) rfl (by kernel_rfl) (fun _ _ _ h => h) (Or.inl ⟨by rfl, ?_⟩) (by assumption) ?_
      rotate_left
      · intro V hSV
        (try dsimp only at hSV)
        go_simp
        try with_reducible rfl
      try simp only [Act.put, pA, pB, pC, pD, pE, pF]
      refine tK2 (i := 7) (v := ?_) rfl (by kernel_rfl) (fun _ _ _ h => h) (Or.inl ⟨by rfl, ?_⟩) (by assumption) ?_
      rotate_left
      · intro V hSV
        (try dsimp only at hSV)
        go_simp
        try with_reducible rfl
      try simp only [Act.put, pA, pB, pC, pD, pE, pF]
      refine tK2 (i := 8) (v := ?_) rfl (by kernel_rfl) (fun _ _ _ h => h) (Or.inl ⟨by rfl, ?_⟩) (by assumption) ?_
      rotate_left
      · intro V hSV
        (try dsimp only at hSV)
        go_simp
        try with_reducible rfl
      try simp only [Act.put, pA, pB, pC, pD, pE, pF]
      refine tK2 (i := 9) (v := ?_) rfl (by kernel_rfl) (fun _ _ _ h => h) (Or.inl ⟨by rfl, ?_⟩) (by assumption) ?_
      rotate_left
      · intro V hSV
        (try dsimp only at hSV)
        go_simp
        try with_reducible rfl
      try simp only [Act.put, pA, pB, pC, pD, pE, pF]
      refine tK2 (i := 10) (v := ?_) rfl (by kernel_rfl) (fun _ _ _ h => h) (Or.inl ⟨by rfl, ?_⟩) (by assumption) ?_
      rotate_left
      · intro V hSV
        (try dsimp only at hSV)
        go_simp
        try with_reducible rfl
      try simp only [Act.put, pA, pB, pC, pD, pE, pF]
      refine tK2 (i := 11) (v := ?_) rfl (by kernel_rfl) (fun _ _ _ h => h) (Or.inl ⟨by rfl, ?_⟩) (by assumption) ?_
      rotate_left
      · intro V hSV
        (try dsimp only at hSV)
        go_simp
        try with_reducible rfl
      try simp only [Act.put, pA, pB, pC, pD, pE, pF]
      refine tK2 (i := 12) (v := ?_) rfl (by kernel_rfl) (fun _ _ _ h => h) (Or.inl ⟨by rfl, ?_⟩) (by assumption) ?_
      rotate_left
      · intro V hSV
        (try dsimp only at hSV)
        go_simp
        try with_reducible rfl
      try simp only [Act.put, pA, pB, pC, pD, pE, pF]
      refine tK2 (i := 13) (v := ?_) rfl (by kernel_rfl) (fun _ _ _ h => h) (Or.inl ⟨by rfl, ?_⟩) (by assumption) ?_
      rotate_left
      · intro V hSV
        (try dsimp only at hSV)
        go_simp
        try with_reducible rfl
      try simp only [Act.put, pA, pB, pC, pD, pE, pF]
      refine tK2 (i := 14) (v := ?_) rfl (by kernel_rfl) (fun _ _ _ h => h) (Or.inl ⟨by rfl, ?_⟩) (by assumption) ?_
      rotate_left
      · intro V hSV
        (try dsimp only at hSV)
        go_simp
        try with_reducible rfl
      try simp only [Act.put, pA, pB, pC, pD, pE, pF]
      refine tK2 (i := 15) (v := ?_) rfl (by kernel_rfl) (fun _ _ _ h => h) (Or.inl ⟨by rfl, ?_⟩) (by assumption) ?_
      rotate_left
      · intro V hSV
        (try dsimp only at hSV)
        go_simp
        try with_reducible rfl
      try simp only [Act.put, pA, pB, pC, pD, pE, pF]
      refine tK2 (i := 16) (v := ?_) rfl (by kernel_rfl) (fun _ _ _ h => h) (Or.inl ⟨by rfl, ?_⟩) (by assumption) ?_
      rotate_left
      · intro V hSV
        (try dsimp only at hSV)
        go_simp
        try with_reducible rfl
      try simp only [Act.put, pA, pB, pC, pD, pE, pF]
      refine tK2 (i := 17) (v := ?_) rfl (by kernel_rfl) (fun _ _ _ h => h) (Or.inl ⟨by rfl, ?_⟩) (by assumption) ?_
      rotate_left
      · intro V hSV
        (try dsimp only at hSV)
        go_simp
        try with_reducible rfl
      try simp only [Act.put, pA, pB, pC, pD, pE, pF]
      as_aux_lemma =>
        refine tK2 (i := 18) (v := ?_) rfl (by kernel_rfl) (fun _ _ _ h => h) (Or.inl ⟨by rfl, ?_⟩) (by assumption) ?_
        rotate_left
        · intro V hSV
          (try dsimp only at hSV)
          go_simp
          try with_reducible rfl
        try simp only [Act.put, pA, pB, pC, pD, pE, pF]
        refine tK2 (i := 19) (v := ?_) rfl (by kernel_rfl) (fun _ _ _ h => h) (Or.inl ⟨by rfl, ?_⟩) (by assumption) ?_
        rotate_left
        · intro V hSV
          (try dsimp only at hSV)
          go_simp
          try with_reducible rfl
        try simp only [Act.put, pA, pB, pC, pD, pE, pF]
        refine tK2 (i := 20) (v := ?_) rfl (by kernel_rfl) (fun _ _ _ h => h) (Or.inl ⟨by rfl, ?_⟩) (by assumption) ?_
        rotate_left
        · intro V hSV
          (try dsimp only at hSV)
          go_simp
          try with_reducible rfl
        try simp only [Act.put, pA, pB, pC, pD, pE, pF]
        refine tK2 (i := 21) (v := ?_) rfl (by kernel_rfl) (fun _ _ _ h => h) (Or.inl ⟨by rfl, ?_⟩) (by assumption) ?_
        rotate_left
        · intro V hSV
          (try dsimp only at hSV)
          go_simp
          try with_reducible rfl
        try simp only [Act.put, pA, pB, pC, pD, pE, pF]
        refine tK2 (i := 22) (v := ?_) rfl (by kernel_rfl) (fun _ _ _ h => h) (Or.inl ⟨by rfl, ?_⟩) (by assumption) ?_
        rotate_left
        · intro V hSV
          (try dsimp only at hSV)
          go_simp
          try with_reducible rfl
        try simp only [Act.put, pA, pB, pC, pD, pE, pF]
        refine tK2 (i := 23) (v := ?_) rfl (by kernel_rfl) (fun _ _ _ h => h) (Or.inl ⟨by rfl, ?_⟩) (by assumption) ?_
        rotate_left
        · intro V hSV
          (try dsimp only at hSV)
          go_simp
          try with_reducible rfl
        try simp only [Act.put, pA, pB, pC, pD, pE, pF]
        refine tK2 (i := 24) (v := ?_) rfl (by kernel_rfl) (fun _ _ _ h => h) (Or.inl ⟨by rfl, ?_⟩) (by assumption) ?_
        rotate_left
        · intro V hSV
          (try dsimp only at hSV)
          go_simp
          try with_reducible rfl
        try simp only [Act.put, pA, pB, pC, pD, pE, pF]
        refine tK2 (i := 25) (v := ?_) rfl (by kernel_rfl) (fun _ _ _ h => h) (Or.inl ⟨by rfl, ?_⟩) (by assumption) ?_
        rotate_left
        · intro V hSV
          (try dsimp only at hSV)
          go_simp
          try with_reducible rfl
        try simp only [Act.put, pA, pB, pC, pD, pE, pF]
        refine tK2 (i := 26) (v := ?_) rfl (by kernel_rfl) (fun _ _ _ h => h) (Or.inl ⟨by rfl, ?_⟩) (by assumption) ?_
        rotate_left
        · intro V hSV
          (try dsimp only at hSV)
          go_simp
          try with_reducible rfl
        try simp only [Act.put, pA, pB, pC, pD, pE, pF]
        refine tK2 (i := 27) (v := ?_) rfl (by kernel_rfl) (fun _ _ _ h => h) (Or.inl ⟨by rfl, ?_⟩) (by assumption) ?_
        rotate_left
        · intro V hSV
          (try dsimp only at hSV)
          go_simp
          try with_reducible rfl
        try simp only [Act.put, pA, pB, pC, pD, pE, pF]
        refine tK2 (i := 28) (v := ?_) rfl (by kernel_rfl) (fun _ _ _ h => h) (Or.inl ⟨by rfl, ?_⟩) (by assumption) ?_
        rotate_left
        · intro V hSV
          (try dsimp only at hSV)
          go_simp
          try with_reducible rfl
        try simp only [Act.put, pA, pB, pC, pD, pE, pF]
        refine tK2 (i := 29) (v := ?_) rfl (by kernel_rfl) (fun _ _ _ h => h) (Or.inl ⟨by rfl, ?_⟩) (by assumption) ?_
        rotate_left
        · intro V hSV
          (try dsimp only at hSV)
          go_simp
          try with_reducible rfl
        try simp only [Act.put, pA, pB, pC, pD, pE, pF]
        refine tK2 (i := 30) (v := ?_) rfl (by kernel_rfl) (fun _ _ _ h => h) (Or.inl ⟨by rfl, ?_⟩) (by assumption) ?_
        rotate_left
        · intro V hSV
          (try dsimp only at hSV)
          go_simp
          try with_reducible rfl
        try simp only [Act.put, pA, pB, pC, pD, pE, pF]
        refine tK2 (i := 31) (v := ?_) rfl (by kernel_rfl) (fun _ _ _ h => h) (Or.inl ⟨by rfl, ?_⟩) (by assumption) ?_
        rotate_left
        · intro V hSV
          (try dsimp only at hSV)
          go_simp
          try with_reducible rfl
        try simp only [Act.put, pA, pB, pC, pD, pE, pF]
        refine tK2 (i := 32) (v := ?_) rfl (by kernel_rfl) (fun _ _ _ h => h) (Or.inl ⟨by rfl, ?_⟩) (by assumption) ?_
        rotate_left
        · intro V hSV
          (try dsimp only at hSV)
          go_simp
          try with_reducible rfl
        try simp only [Act.put, pA, pB, pC, pD, pE, pF]
        refine tK2 (i := 33) (v := ?_) rfl (by kernel_rfl) (fun _ _ _ h => h) (Or.inl ⟨by rfl, ?_⟩) (by assumption) ?_
        rotate_left
        · intro V hSV
          (try dsimp only at hSV)
          go_simp
          try with_reducible rfl
        try simp only [Act.put, pA, pB, pC, pD, pE, pF]
        refine tK2 (i := 34) (v := ?_) rfl (by kernel_rfl) (fun _ _ _ h => h) (Or.inl ⟨by rfl, ?_⟩) (by assumption) ?_
        rotate_left
        · intro V hSV
          (try dsimp only at hSV)
          go_simp
          try with_reducible rfl
        try simp only [Act.put, pA, pB, pC, pD, pE, pF]
        refine wpAnyH_ready (rs := [35]) (by kernel_rfl) (by simp) (AllReadyH.cons rfl (fun K hK => ?_) AllReadyH.nil)
        rw [if_pos (by rfl)]
        try simp only [List.getElem_toArray, List.getElem_cons_zero, List.getElem_cons_succ]
        go_simp
        refine (HT.out _ (by with_reducible assumption)).mono ?_
        rintro e w1 ⟨rfl, h1⟩
        refine hK.out _ _ h1 (fun hHeld => ?_)
        clear hK K
        try simp only [Act.put, pA, pB, pC, pD, pE, pF]
        as_aux_lemma =>
          refine tK2 (i := 36) (v := ?_) rfl (by kernel_rfl) (fun _ _ _ h => h) (Or.inl ⟨by rfl, ?_⟩) (by assumption) ?_
          rotate_left
          · intro V hSV
            (try dsimp only at hSV)
            go_simp
            try with_reducible rfl
          try simp only [Act.put, pA, pB, pC, pD, pE, pF]
          refine tK2 (i := 37) (v := ?_) rfl (by kernel_rfl) (fun _ _ _ h => h) (Or.inl ⟨by rfl, ?_⟩) (by assumption) ?_
          rotate_left
          · intro V hSV
            (try dsimp only at hSV)
            go_simp
            try with_reducible rfl
          try simp only [Act.put, pA, pB, pC, pD, pE, pF]
          refine tK2 (i := 38) (v := ?_) rfl (by kernel_rfl) (fun _ _ _ h => h) (Or.inl ⟨by rfl, ?_⟩) (by assumption) ?_
          rotate_left
          · intro V hSV
            (try dsimp only at hSV)
            go_simp
            try with_reducible rfl
          try simp only [Act.put, pA, pB, pC, pD, pE, pF]
          refine tK2 (i := 39) (v := ?_) rfl (by kernel_rfl) (fun _ _ _ h => h) (Or.inl ⟨by rfl, ?_⟩) (by assumption) ?_
          rotate_left
          · intro V hSV
            (try dsimp only at hSV)
            go_simp
            try with_reducible rfl
          try simp only [Act.put, pA, pB, pC, pD, pE, pF]
          refine tK2 (i := 40) (v := ?_) rfl (by kernel_rfl) (fun _ _ _ h => h) (Or.inl ⟨by rfl, ?_⟩) (by assumption) ?_
          rotate_left
          · intro V hSV
            (try dsimp only at hSV)
            go_simp
            try with_reducible rfl
          try simp only [Act.put, pA, pB, pC, pD, pE, pF]
          refine tK2 (i := 41) (v := ?_) rfl (by kernel_rfl) (fun _ _ _ h => h) (Or.inl ⟨by rfl, ?_⟩) (by assumption) ?_
          rotate_left
          · intro V hSV
            (try dsimp only at hSV)
            go_simp
            try with_reducible rfl
          try simp only [Act.put, pA, pB, pC, pD, pE, pF]
          refine tK2 (i := 42) (v := ?_) rfl (by kernel_rfl) (fun _ _ _ h => h) (Or.inl ⟨by rfl, ?_⟩) (by assumption) ?_
          rotate_left
          · intro V hSV
            (try dsimp only at hSV)
            go_simp
            try with_reducible rfl
          try simp only [Act.put, pA, pB, pC, pD, pE, pF]
          refine tK2 (i := 43) (v := ?_) rfl (by kernel_rfl) (fun _ _ _ h => h) (Or.inl ⟨by rfl, ?_⟩) (by assumption) ?_
          rotate_left
          · intro V hSV
            (try dsimp only at hSV)
            go_simp
            try with_reducible rfl
          try simp only [Act.put, pA, pB, pC, pD, pE, pF]
          refine tK2 (i := 45) (v := ?_) rfl (by kernel_rfl) (fun _ _ _ h => h) (Or.inl ⟨by rfl, ?_⟩) (by assumption) ?_
          rotate_left
          · intro V hSV
            (try dsimp only at hSV)
            go_simp
            try with_reducible rfl
          try simp only [Act.put, pA, pB, pC, pD, pE, pF]
          refine tK2 (i := 46) (v := ?_) rfl (by kernel_rfl) (fun _ _ _ h => h) (Or.inl ⟨by rfl, ?_⟩) (by assumption) ?_
          rotate_left
          · intro V hSV
            (try dsimp only at hSV)
            go_simp
            try with_reducible rfl
          try simp only [Act.put, pA, pB, pC, pD, pE, pF]
          refine tK2 (i := 47) (v := ?_) rfl (by kernel_rfl) (fun _ _ _ h => h) (Or.inl ⟨by rfl, ?_⟩) (by assumption) ?_
          rotate_left
          · intro V hSV
            (try dsimp only at hSV)
            go_simp
            try with_reducible rfl
          try simp only [Act.put, pA, pB, pC, pD, pE, pF]
          refine tK2 (i := 48) (v := ?_) rfl (by kernel_rfl) (fun _ _ _ h => h) (Or.inl ⟨by rfl, ?_⟩) (by assumption) ?_
          rotate_left
          · intro V hSV
            (try dsimp only at hSV)
            go_simp
            try with_reducible rfl
          try simp only [Act.put, pA, pB, pC, pD, pE, pF]
          refine tK2 (i := 49) (v := ?_) rfl (by kernel_rfl) (fun _ _ _ h => h) (Or.inl ⟨by rfl, ?_⟩) (by assumption) ?_
          rotate_left
          · intro V hSV
            (try dsimp only at hSV)
            go_simp
            try with_reducible rfl
          try simp only [Act.put, pA, pB, pC, pD, pE, pF]
          refine wpAnyH_ready (rs := [44, 50]) (by kernel_rfl) (by simp) (AllReadyH.cons rfl (fun K hK => ?_) (AllReadyH.cons rfl (fun K hK => ?_) AllReadyH.nil))
          rw [if_pos (by rfl)]
          try simp only [List.getElem_toArray, List.getElem_cons_zero, List.getElem_cons_succ]
          refine bs_wp (by rfl) (by rfl) ?_
          refine hK.out _ _ (HAl.out _ _ (by assumption)) (fun hA1 => ?_)
          clear hK K
          try simp only [Act.put, pA, pB, pC, pD, pE, pF]
          as_aux_lemma =>
            refine wpAnyH_ready (rs := [50]) (by kernel_rfl) (by simp) (AllReadyH.cons rfl (fun K hK => ?_) AllReadyH.nil)
            rw [if_pos (by rfl)]
            try simp only [List.getElem_toArray, List.getElem_cons_zero, List.getElem_cons_succ]
            refine bs_wp (by rfl) (by rfl) ?_
            refine hK.out _ _ (HAl.out _ _ (by assumption)) (fun hA2 => ?_)
            clear hK K
            try simp only [Act.put, pA, pB, pC, pD, pE, pF]
            refine wpAnyH_ready (rs := [51]) (by kernel_rfl) (by simp) (AllReadyH.cons rfl (fun K hK => ?_) AllReadyH.nil)
            rw [if_pos (by rfl)]
            try simp only [List.getElem_toArray, List.getElem_cons_zero, List.getElem_cons_succ]
            go_simp
            refine (HE1.out w1 h1).mono ?_
            rintro e w2 ⟨rfl, h2⟩
            refine hK.out _ _ h2 (fun hHeld => ?_)
            clear hK K
            try simp only [Act.put, pA, pB, pC, pD, pE, pF]
            as_aux_lemma =>
              refine tK2 (i := 52) (v := ?_) rfl (by kernel_rfl) (fun _ _ _ h => h) (Or.inl ⟨by rfl, ?_⟩) (by assumption) ?_
              rotate_left
              · intro V hSV
                (try dsimp only at hSV)
                go_simp
                try with_reducible rfl
              try simp only [Act.put, pA, pB, pC, pD, pE, pF]
              refine tK2 (i := 53) (v := ?_) rfl (by kernel_rfl) (fun _ _ _ h => h) (Or.inl ⟨by rfl, ?_⟩) (by assumption) ?_
              rotate_left
              · intro V hSV
                (try dsimp only at hSV)
                go_simp
                try with_reducible rfl
              try simp only [Act.put, pA, pB, pC, pD, pE, pF]
              refine tK2 (i := 54) (v := ?_) rfl (by kernel_rfl) (fun _ _ _ h => h) (Or.inl ⟨by rfl, ?_⟩) (by assumption) ?_
              rotate_left
              · intro V hSV
                (try dsimp only at hSV)
                go_simp
                try with_reducible rfl
              try simp only [Act.put, pA, pB, pC, pD, pE, pF]
              refine tK2 (i := 55) (v := ?_) rfl (by kernel_rfl) (fun _ _ _ h => h) (Or.inl ⟨by rfl, ?_⟩) (by assumption) ?_
              rotate_left
              · intro V hSV
                (try dsimp only at hSV)
                go_simp
                try with_reducible rfl
              try simp only [Act.put, pA, pB, pC, pD, pE, pF]
              refine tK2 (i := 56) (v := ?_) rfl (by kernel_rfl) (fun _ _ _ h => h) (Or.inl ⟨by rfl, ?_⟩) (by assumption) ?_
              rotate_left
              · intro V hSV
                (try dsimp only at hSV)
                go_simp
                try with_reducible rfl
              try simp only [Act.put, pA, pB, pC, pD, pE, pF]
              refine tK2 (i := 57) (v := ?_) rfl (by kernel_rfl) (fun _ _ _ h => h) (Or.inl ⟨by rfl, ?_⟩) (by assumption) ?_
              rotate_left
              · intro V hSV
                (try dsimp only at hSV)
                go_simp
                try with_reducible rfl
              try simp only [Act.put, pA, pB, pC, pD, pE, pF]
              refine tK2 (i := 58) (v := ?_) rfl (by kernel_rfl) (fun _ _ _ h => h) (Or.inl ⟨by rfl, ?_⟩) (by assumption) ?_
              rotate_left
              · intro V hSV
                (try dsimp only at hSV)
                go_simp
                try with_reducible rfl
              try simp only [Act.put, pA, pB, pC, pD, pE, pF]
              refine tK2 (i := 59) (v := ?_) rfl (by kernel_rfl) (fun _ _ _ h => h) (Or.inl ⟨by rfl, ?_⟩) (by assumption) ?_
              rotate_left
              · intro V hSV
                (try dsimp only at hSV)
                go_simp
                try with_reducible rfl
              try simp only [Act.put, pA, pB, pC, pD, pE, pF]
              refine tK2 (i := 60) (v := ?_) rfl (by kernel_rfl) (fun _ _ _ h => h) (Or.inl ⟨by rfl, ?_⟩) (by assumption) ?_
              rotate_left
              · intro V hSV
                (try dsimp only at hSV)
                go_simp
                try with_reducible rfl
              try simp only [Act.put, pA, pB, pC, pD, pE, pF]
              refine tK2 (i := 61) (v := ?_) rfl (by kernel_rfl) (fun _ _ _ h => h) (Or.inl ⟨by rfl, ?_⟩) (by assumption) ?_
              rotate_left
              · intro V hSV
                (try dsimp only at hSV)
                go_simp
                try with_reducible rfl
              try simp only [Act.put, pA, pB, pC, pD, pE, pF]
              refine tK2 (i := 62) (v := ?_) rfl (by kernel_rfl) (fun _ _ _ h => h) (Or.inl ⟨by rfl, ?_⟩) (by assumption) ?_
              rotate_left
              · intro V hSV
                (try dsimp only at hSV)
                go_simp
                try with_reducible rfl
              try simp only [Act.put, pA, pB, pC, pD, pE, pF]
              refine tK2 (i := 63) (v := ?_) rfl (by kernel_rfl) (fun _ _ _ h => h) (Or.inl ⟨by rfl, ?_⟩) (by assumption) ?_
              rotate_left
              · intro V hSV
                (try dsimp only at hSV)
                go_simp
                try with_reducible rfl
              try simp only [Act.put, pA, pB, pC, pD, pE, pF]
              refine tK2 (i := 64) (v := ?_) rfl (by kernel_rfl) (fun _ _ _ h => h) (Or.inl ⟨by rfl, ?_⟩) (by assumption) ?_
              rotate_left
              · intro V hSV
                (try dsimp only at hSV)
                go_simp
                try with_reducible rfl
              try simp only [Act.put, pA, pB, pC, pD, pE, pF]
              refine wpAnyH_ready (rs := [65]) (by kernel_rfl) (by simp) (AllReadyH.cons rfl (fun K hK => ?_) AllReadyH.nil)
              rw [if_pos (by rfl)]
              try simp only [List.getElem_toArray, List.getElem_cons_zero, List.getElem_cons_succ]
              go_simp
              refine (HB.out _ (by with_reducible assumption)).mono ?_
              rintro e w3 ⟨rfl, h3⟩
              refine hK.out _ _ h3 (fun hHeld => ?_)
              clear hK K
              try simp only [Act.put, pA, pB, pC, pD, pE, pF]
              as_aux_lemma =>
                refine tK2 (i := 66) (v := ?_) rfl (by kernel_rfl) (fun _ _ _ h => h) (Or.inl ⟨by rfl, ?_⟩) (by assumption) ?_
                rotate_left
                · intro V hSV
                  (try dsimp only at hSV)
                  go_simp
                  try with_reducible rfl
                try simp only [Act.put, pA, pB, pC, pD, pE, pF]
                refine tK2 (i := 67) (v := ?_) rfl (by kernel_rfl) (fun _ _ _ h => h) (Or.inl ⟨by rfl, ?_⟩) (by assumption) ?_
                rotate_left
                · intro V hSV
                  (try dsimp only at hSV)
                  go_simp
                  try with_reducible rfl
                try simp only [Act.put, pA, pB, pC, pD, pE, pF]
                refine tK2 (i := 68) (v := ?_) rfl (by kernel_rfl) (fun _ _ _ h => h) (Or.inl ⟨by rfl, ?_⟩) (by assumption) ?_
                rotate_left
                · intro V hSV
                  (try dsimp only at hSV)
                  go_simp
                  try with_reducible rfl
                try simp only [Act.put, pA, pB, pC, pD, pE, pF]
                refine tK2 (i := 69) (v := ?_) rfl (by kernel_rfl) (fun _ _ _ h => h) (Or.inl ⟨by rfl, ?_⟩) (by assumption) ?_
                rotate_left
                · intro V hSV
                  (try dsimp only at hSV)
                  go_simp
                  try with_reducible rfl
                try simp only [Act.put, pA, pB, pC, pD, pE, pF]
                refine tK2 (i := 70) (v := ?_) rfl (by kernel_rfl) (fun _ _ _ h => h) (Or.inl ⟨by rfl, ?_⟩) (by assumption) ?_
                rotate_left
                · intro V hSV
                  (try dsimp only at hSV)
                  go_simp
                  try with_reducible rfl
                try simp only [Act.put, pA, pB, pC, pD, pE, pF]
                refine tK2 (i := 71) (v := ?_) rfl (by kernel_rfl) (fun _ _ _ h => h) (Or.inl ⟨by rfl, ?_⟩) (by assumption) ?_
                rotate_left
                · intro V hSV
                  (try dsimp only at hSV)
                  go_simp
                  try with_reducible rfl
                try simp only [Act.put, pA, pB, pC, pD, pE, pF]
                refine tK2 (i := 72) (v := ?_) rfl (by kernel_rfl) (fun _ _ _ h => h) (Or.inl ⟨by rfl, ?_⟩) (by assumption) ?_
                rotate_left
                · intro V hSV
                  (try dsimp only at hSV)
                  go_simp
                  try with_reducible rfl
                try simp only [Act.put, pA, pB, pC, pD, pE, pF]
                refine tK2 (i := 73) (v := ?_) rfl (by kernel_rfl) (fun _ _ _ h => h) (Or.inl ⟨by rfl, ?_⟩) (by assumption) ?_
                rotate_left
                · intro V hSV
                  (try dsimp only at hSV)
                  go_simp
                  try with_reducible rfl
                try simp only [Act.put, pA, pB, pC, pD, pE, pF]
                refine tK2 (i := 74) (v := ?_) rfl (by kernel_rfl) (fun _ _ _ h => h) (Or.inl ⟨by rfl, ?_⟩) (by assumption) ?_
                rotate_left
                · intro V hSV
                  (try dsimp only at hSV)
                  go_simp
                  try with_reducible rfl
                try simp only [Act.put, pA, pB, pC, pD, pE, pF]
                refine tK2 (i := 75) (v := ?_) rfl (by kernel_rfl) (fun _ _ _ h => h) (Or.inl ⟨by rfl, ?_⟩) (by assumption) ?_
                rotate_left
                · intro V hSV
                  (try dsimp only at hSV)
                  go_simp
                  try with_reducible rfl
                try simp only [Act.put, pA, pB, pC, pD, pE, pF]
                refine tK2 (i := 76) (v := ?_) rfl (by kernel_rfl) (fun _ _ _ h => h) (Or.inl ⟨by rfl, ?_⟩) (by assumption) ?_
                rotate_left
                · intro V hSV
                  (try dsimp only at hSV)
                  go_simp
                  try with_reducible rfl
                try simp only [Act.put, pA, pB, pC, pD, pE, pF]
                refine tK2 (i := 77) (v := ?_) rfl (by kernel_rfl) (fun _ _ _ h => h) (Or.inl ⟨by rfl, ?_⟩) (by assumption) ?_
                rotate_left
                · intro V hSV
                  (try dsimp only at hSV)
                  go_simp
                  try with_reducible rfl
                try simp only [Act.put, pA, pB, pC, pD, pE, pF]
                refine tK2 (i := 78) (v := ?_) rfl (by kernel_rfl) (fun _ _ _ h => h) (Or.inl ⟨by rfl, ?_⟩) (by assumption) ?_
                rotate_left
                · intro V hSV
                  (try dsimp only at hSV)
                  go_simp
                  try with_reducible rfl
                try simp only [Act.put, pA, pB, pC, pD, pE, pF]
                refine wpAnyH_ready (rs := [79]) (by kernel_rfl) (by simp) (AllReadyH.cons rfl (fun K hK => ?_) AllReadyH.nil)
                rw [if_pos (by rfl)]
                try simp only [List.getElem_toArray, List.getElem_cons_zero, List.getElem_cons_succ]
                go_simp
                refine (HF.out _ (by with_reducible assumption)).mono ?_
                rintro e w4 ⟨rfl, h4⟩
                refine hK.out _ _ h4 (fun hHeld => ?_)
                clear hK K
                try simp only [Act.put, pA, pB, pC, pD, pE, pF]
                as_aux_lemma =>
                  refine tK2 (i := 80) (v := ?_) rfl (by kernel_rfl) (fun _ _ _ h => h) (Or.inl ⟨by rfl, ?_⟩) (by assumption) ?_
                  rotate_left
                  · intro V hSV
                    (try dsimp only at hSV)
                    go_simp
                    try with_reducible rfl
                  try simp only [Act.put, pA, pB, pC, pD, pE, pF]
                  refine tK2 (i := 81) (v := ?_) rfl (by kernel_rfl) (fun _ _ _ h => h) (Or.inl ⟨by rfl, ?_⟩) (by assumption) ?_
                  rotate_left
                  · intro V hSV
                    (try dsimp only at hSV)
                    go_simp
                    try with_reducible rfl
                  try simp only [Act.put, pA, pB, pC, pD, pE, pF]
                  refine wpAnyH_done (by kernel_rfl) ?_ _
                  try simp only [Act.put, pA, pB, pC, pD, pE, pF]
                  go_wp2
                  exact ⟨⟨k + 1, by omega, by go_num, HBb.out.trans (h4.mono HBb.out.size)⟩, by simp [intOf]; omega⟩
          rw [if_pos (by rfl)]
          try simp only [List.getElem_toArray, List.getElem_cons_zero, List.getElem_cons_succ]
          refine bs_wp (by rfl) (by rfl) ?_
          refine hK.out _ _ (HAl.out _ _ (by assumption)) (fun hA1 => ?_)
          clear hK K
          try simp only [Act.put, pA, pB, pC, pD, pE, pF]
          as_aux_lemma =>
            refine wpAnyH_ready (rs := [44]) (by kernel_rfl) (by simp) (AllReadyH.cons rfl (fun K hK => ?_) AllReadyH.nil)
            rw [if_pos (by rfl)]
            try simp only [List.getElem_toArray, List.getElem_cons_zero, List.getElem_cons_succ]
            refine bs_wp (by rfl) (by rfl) ?_
            refine hK.out _ _ (HAl.out _ _ (by assumption)) (fun hA2 => ?_)
            clear hK K
            try simp only [Act.put, pA, pB, pC, pD, pE, pF]
            refine wpAnyH_ready (rs := [51]) (by kernel_rfl) (by simp) (AllReadyH.cons rfl (fun K hK => ?_) AllReadyH.nil)
            rw [if_pos (by rfl)]
            try simp only [List.getElem_toArray, List.getElem_cons_zero, List.getElem_cons_succ]
            go_simp
            refine (HE2.out w1 h1).mono ?_
            rintro e w2 ⟨rfl, h2⟩
            refine hK.out _ _ h2 (fun hHeld => ?_)
            clear hK K
            try simp only [Act.put, pA, pB, pC, pD, pE, pF]
            as_aux_lemma =>
              refine tK2 (i := 52) (v := ?_) rfl (by kernel_rfl) (fun _ _ _ h => h) (Or.inl ⟨by rfl, ?_⟩) (by assumption) ?_
              rotate_left
              · intro V hSV
                (try dsimp only at hSV)
                go_simp
                try with_reducible rfl
              try simp only [Act.put, pA, pB, pC, pD, pE, pF]
              refine tK2 (i := 53) (v := ?_) rfl (by kernel_rfl) (fun _ _ _ h => h) (Or.inl ⟨by rfl, ?_⟩) (by assumption) ?_
              rotate_left
              · intro V hSV
                (try dsimp only at hSV)
                go_simp
                try with_reducible rfl
              try simp only [Act.put, pA, pB, pC, pD, pE, pF]
              refine tK2 (i := 54) (v := ?_) rfl (by kernel_rfl) (fun _ _ _ h => h) (Or.inl ⟨by rfl, ?_⟩) (by assumption) ?_
              rotate_left
              · intro V hSV
                (try dsimp only at hSV)
                go_simp
                try with_reducible rfl
              try simp only [Act.put, pA, pB, pC, pD, pE, pF]
              refine tK2 (i := 55) (v := ?_) rfl (by kernel_rfl) (fun _ _ _ h => h) (Or.inl ⟨by rfl, ?_⟩) (by assumption) ?_
              rotate_left
              · intro V hSV
                (try dsimp only at hSV)
                go_simp
                try with_reducible rfl
              try simp only [Act.put, pA, pB, pC, pD, pE, pF]
              refine tK2 (i := 56) (v := ?_) rfl (by kernel_rfl) (fun _ _ _ h => h) (Or.inl ⟨by rfl, ?_⟩) (by assumption) ?_
              rotate_left
              · intro V hSV
                (try dsimp only at hSV)
                go_simp
                try with_reducible rfl
              try simp only [Act.put, pA, pB, pC, pD, pE, pF]
              refine tK2 (i := 57) (v := ?_) rfl (by kernel_rfl) (fun _ _ _ h => h) (Or.inl ⟨by rfl, ?_⟩) (by assumption) ?_
              rotate_left
              · intro V hSV
                (try dsimp only at hSV)
                go_simp
                try with_reducible rfl
              try simp only [Act.put, pA, pB, pC, pD, pE, pF]
              refine tK2 (i := 58) (v := ?_) rfl (by kernel_rfl) (fun _ _ _ h => h) (Or.inl ⟨by rfl, ?_⟩) (by assumption) ?_
              rotate_left
              · intro V hSV
                (try dsimp only at hSV)
                go_simp
                try with_reducible rfl
              try simp only [Act.put, pA, pB, pC, pD, pE, pF]
              refine tK2 (i := 59) (v := ?_) rfl (by kernel_rfl) (fun _ _ _ h => h) (Or.inl ⟨by rfl, ?_⟩) (by assumption) ?_
              rotate_left
              · intro V hSV
                (try dsimp only at hSV)
                go_simp
                try with_reducible rfl
              try simp only [Act.put, pA, pB, pC, pD, pE, pF]
              refine tK2 (i := 60) (v := ?_) rfl (by kernel_rfl) (fun _ _ _ h => h) (Or.inl ⟨by rfl, ?_⟩) (by assumption) ?_
              rotate_left
              · intro V hSV
                (try dsimp only at hSV)
                go_simp
                try with_reducible rfl
              try simp only [Act.put, pA, pB, pC, pD, pE, pF]
              refine tK2 (i := 61) (v := ?_) rfl (by kernel_rfl) (fun _ _ _ h => h) (Or.inl ⟨by rfl, ?_⟩) (by assumption) ?_
              rotate_left
              · intro V hSV
                (try dsimp only at hSV)
                go_simp
                try with_reducible rfl
              try simp only [Act.put, pA, pB, pC, pD, pE, pF]
              refine tK2 (i := 62) (v := ?_) rfl (by kernel_rfl) (fun _ _ _ h => h) (Or.inl ⟨by rfl, ?_⟩) (by assumption) ?_
              rotate_left
              · intro V hSV
                (try dsimp only at hSV)
                go_simp
                try with_reducible rfl
              try simp only [Act.put, pA, pB, pC, pD, pE, pF]
              refine tK2 (i := 63) (v := ?_) rfl (by kernel_rfl) (fun _ _ _ h => h) (Or.inl ⟨by rfl, ?_⟩) (by assumption) ?_
              rotate_left
              · intro V hSV
                (try dsimp only at hSV)
                go_simp
                try with_reducible rfl
              try simp only [Act.put, pA, pB, pC, pD, pE, pF]
              refine tK2 (i := 64) (v := ?_) rfl (by kernel_rfl) (fun _ _ _ h => h) (Or.inl ⟨by rfl, ?_⟩) (by assumption) ?_
              rotate_left
              · intro V hSV
                (try dsimp only at hSV)
                go_simp
                try with_reducible rfl
              try simp only [Act.put, pA, pB, pC, pD, pE, pF]
              refine wpAnyH_ready (rs := [65]) (by kernel_rfl) (by simp) (AllReadyH.cons rfl (fun K hK => ?_) AllReadyH.nil)
              rw [if_pos (by rfl)]
              try simp only [List.getElem_toArray, List.getElem_cons_zero, List.getElem_cons_succ]
              go_simp
              refine (HB.out _ (by with_reducible assumption)).mono ?_
              rintro e w3 ⟨rfl, h3⟩
              refine hK.out _ _ h3 (fun hHeld => ?_)
              clear hK K
              try simp only [Act.put, pA, pB, pC, pD, pE, pF]
              as_aux_lemma =>
                refine tK2 (i := 66) (v := ?_) rfl (by kernel_rfl) (fun _ _ _ h => h) (Or.inl ⟨by rfl, ?_⟩) (by assumption) ?_
                rotate_left
                · intro V hSV
                  (try dsimp only at hSV)
                  go_simp
                  try with_reducible rfl
                try simp only [Act.put, pA, pB, pC, pD, pE, pF]
                refine tK2 (i := 67) (v := ?_) rfl (by kernel_rfl) (fun _ _ _ h => h) (Or.inl ⟨by rfl, ?_⟩) (by assumption) ?_
                rotate_left
                · intro V hSV
                  (try dsimp only at hSV)
                  go_simp
                  try with_reducible rfl
                try simp only [Act.put, pA, pB, pC, pD, pE, pF]
                refine tK2 (i := 68) (v := ?_) rfl (by kernel_rfl) (fun _ _ _ h => h) (Or.inl ⟨by rfl, ?_⟩) (by assumption) ?_
                rotate_left
                · intro V hSV
                  (try dsimp only at hSV)
                  go_simp
                  try with_reducible rfl
                try simp only [Act.put, pA, pB, pC, pD, pE, pF]
                refine tK2 (i := 69) (v := ?_) rfl (by kernel_rfl) (fun _ _ _ h => h) (Or.inl ⟨by rfl, ?_⟩) (by assumption) ?_
                rotate_left
                · intro V hSV
                  (try dsimp only at hSV)
                  go_simp
                  try with_reducible rfl
                try simp only [Act.put, pA, pB, pC, pD, pE, pF]
                refine tK2 (i := 70) (v := ?_) rfl (by kernel_rfl) (fun _ _ _ h => h) (Or.inl ⟨by rfl, ?_⟩) (by assumption) ?_
                rotate_left
                · intro V hSV
                  (try dsimp only at hSV)
                  go_simp
                  try with_reducible rfl
                try simp only [Act.put, pA, pB, pC, pD, pE, pF]
                refine tK2 (i := 71) (v := ?_) rfl (by kernel_rfl) (fun _ _ _ h => h) (Or.inl ⟨by rfl, ?_⟩) (by assumption) ?_
                rotate_left
                · intro V hSV
                  (try dsimp only at hSV)
                  go_simp
                  try with_reducible rfl
                try simp only [Act.put, pA, pB, pC, pD, pE, pF]
                refine tK2 (i := 72) (v := ?_) rfl (by kernel_rfl) (fun _ _ _ h => h) (Or.inl ⟨by rfl, ?_⟩) (by assumption) ?_
                rotate_left
                · intro V hSV
                  (try dsimp only at hSV)
                  go_simp
                  try with_reducible rfl
                try simp only [Act.put, pA, pB, pC, pD, pE, pF]
                refine tK2 (i := 73) (v := ?_) rfl (by kernel_rfl) (fun _ _ _ h => h) (Or.inl ⟨by rfl, ?_⟩) (by assumption) ?_
                rotate_left
                · intro V hSV
                  (try dsimp only at hSV)
                  go_simp
                  try with_reducible rfl
                try simp only [Act.put, pA, pB, pC, pD, pE, pF]
                refine tK2 (i := 74) (v := ?_) rfl (by kernel_rfl) (fun _ _ _ h => h) (Or.inl ⟨by rfl, ?_⟩) (by assumption) ?_
                rotate_left
                · intro V hSV
                  (try dsimp only at hSV)
                  go_simp
                  try with_reducible rfl
                try simp only [Act.put, pA, pB, pC, pD, pE, pF]
                refine tK2 (i := 75) (v := ?_) rfl (by kernel_rfl) (fun _ _ _ h => h) (Or.inl ⟨by rfl, ?_⟩) (by assumption) ?_
                rotate_left
                · intro V hSV
                  (try dsimp only at hSV)
                  go_simp
                  try with_reducible rfl
                try simp only [Act.put, pA, pB, pC, pD, pE, pF]
                refine tK2 (i := 76) (v := ?_) rfl (by kernel_rfl) (fun _ _ _ h => h) (Or.inl ⟨by rfl, ?_⟩) (by assumption) ?_
                rotate_left
                · intro V hSV
                  (try dsimp only at hSV)
                  go_simp
                  try with_reducible rfl
                try simp only [Act.put, pA, pB, pC, pD, pE, pF]
                refine tK2 (i := 77) (v := ?_) rfl (by kernel_rfl) (fun _ _ _ h => h) (Or.inl ⟨by rfl, ?_⟩) (by assumption) ?_
                rotate_left
                · intro V hSV
                  (try dsimp only at hSV)
                  go_simp
                  try with_reducible rfl
                try simp only [Act.put, pA, pB, pC, pD, pE, pF]
                refine tK2 (i := 78) (v := ?_) rfl (by kernel_rfl) (fun _ _ _ h => h) (Or.inl ⟨by rfl, ?_⟩) (by assumption) ?_
                rotate_left
                · intro V hSV
                  (try dsimp only at hSV)
                  go_simp
                  try with_reducible rfl
                try simp only [Act.put, pA, pB, pC, pD, pE, pF]
                refine wpAnyH_ready (rs := [79]) (by kernel_rfl) (by simp) (AllReadyH.cons rfl (fun K hK => ?_) AllReadyH.nil)
                rw [if_pos (by rfl)]
                try simp only [List.getElem_toArray, List.getElem_cons_zero, List.getElem_cons_succ]
                go_simp
                refine (HF.out _ (by with_reducible assumption)).mono ?_
                rintro e w4 ⟨rfl, h4⟩
                refine hK.out _ _ h4 (fun hHeld => ?_)
                clear hK K
                try simp only [Act.put, pA, pB, pC, pD, pE, pF]
                as_aux_lemma =>
                  refine tK2 (i := 80) (v := ?_) rfl (by kernel_rfl) (fun _ _ _ h => h) (Or.inl ⟨by rfl, ?_⟩) (by assumption) ?_
                  rotate_left
                  · intro V hSV
                    (try dsimp only at hSV)
                    go_simp
                    try with_reducible rfl
                  try simp only [Act.put, pA, pB, pC, pD, pE, pF]
                  refine tK2 (i := 81) (v := ?_) rfl (by kernel_rfl) (fun _ _ _ h => h) (Or.inl ⟨by rfl, ?_⟩) (by assumption) ?_
                  rotate_left
                  · intro V hSV
                    (try dsimp only at hSV)
                    go_simp
                    try with_reducible rfl
                  try simp only [Act.put, pA, pB, pC, pD, pE, pF]
                  refine wpAnyH_done (by kernel_rfl) ?_ _
                  try simp only [Act.put, pA, pB, pC, pD, pE, pF]
                  go_wp2
                  exact ⟨⟨k + 1, by omega, by go_num, HBb.out.trans (h4.mono HBb.out.size)⟩, by simp [intOf]; omega⟩
    · obtain rfl : k = n := by omega
      have hki : ¬ (k : Int) < (k : Int) := by omega
      go_wp2
      go_ret
      exact ⟨rfl, hb⟩
end Go.Proofs.YtcaeeackccgclaaGreatDoor
