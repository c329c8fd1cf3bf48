/- What must be in any case. -/
import Derived.Test.YtcpomkgfcpfedaaGreatDoorSb2
namespace Go.Proofs.YtcpomkgfcpfedaaGreatDoor
open Go.RowKit Go.Shelf Go.Maps Go.WideMaps Go.Sort

set_option maxHeartbeats 2000000 in
set_option maxRecDepth 100000 in
theorem newMachine_begun (w : World) :
    Calls Tryz.prog 21 #[.slice none 0 0, .int .i64 100] w fun e w' => e = .returned (.pointer (some ⟨w.heap.size + 1, 0, none⟩)) ∧ McAt w' (w.heap.size + 1) (bm0 (.slice none 0 0) w.heap.size) ∧ w'.ownsMap Tryz.prog 9 fileE w.heap.size 0 (byD []) ∧ Below w.heap.size w w' := by
  have hmm := @run_makeMap Tryz.prog
  have h1 : ∀ o : Obj, Below w.heap.size w ((w.alloc (.map #[] 0)).alloc o) := fun o => ((Below.refl _ w).alloc (Nat.le_refl _) _).alloc (by rw [World.size_alloc]; omega) _
  have h2 : ∀ o : Obj, ((w.alloc (.map #[] 0)).alloc o).ownsMap Tryz.prog 9 fileE w.heap.size 0 (byD []) := fun o => (World.ownsMap_made (H := Unit) w Tryz.prog 9 fileE).alloc o
  have h3 : ∀ cs : Array Value, cs = (mcL (bm0 (.slice none 0 0) w.heap.size)).toArray → McAt ((w.alloc (.map #[] 0)).alloc (.cells cs 57)) (w.heap.size + 1) (bm0 (.slice none 0 0) w.heap.size) := fun cs e => by
    refine ⟨?_, rfl⟩
    have := heap_alloc_new (w.alloc (.map #[] 0)) (.cells cs 57)
    rw [World.size_alloc] at this
    rw [this, e]
  have H1 : Hid (∀ o : Obj, Below w.heap.size w ((w.alloc (.map #[] 0)).alloc o)) := h1
  have H2 : Hid (∀ o : Obj, ((w.alloc (.map #[] 0)).alloc o).ownsMap Tryz.prog 9 fileE w.heap.size 0 (byD [])) := h2
  have H3 : Hid (∀ cs : Array Value, cs = (mcL (bm0 (.slice none 0 0) w.heap.size)).toArray → McAt ((w.alloc (.map #[] 0)).alloc (.cells cs 57)) (w.heap.size + 1) (bm0 (.slice none 0 0) w.heap.size)) := h3
  clear h1 h2 h3
  go_enter Tryz.func21, Tryz.ntmps21
  go_wp2
  go_ret
  exact ⟨rfl, H3.out _ rfl, H2.out _, H1.out _⟩

def bs1 : ByteArray := ⟨#[115, 101, 116, 32, 97, 32, 104, 105]⟩
def bs2 : ByteArray := ⟨#[109, 97, 107, 101, 32, 111, 117, 116, 32, 97]⟩
def bs3 : ByteArray := ⟨#[103, 111, 116, 111, 32, 53]⟩
theorem b_path : pathOk (bA [111, 117, 116]) = true := by
  have hn : nameOk (⟨([111, 117, 116] : List UInt8).toArray⟩ : ByteArray) = true := by
    unfold nameOk
    rw [Lib.toList_data]
    decide
  show (decide ((bA [111, 117, 116]).size ≤ 100) && (nameOk (⟨([111, 117, 116] : List UInt8).toArray⟩ : ByteArray) && true)) = true
  rw [hn]
  decide
theorem b_l1 : linF 2 bs1.data.toList = some bl1 := rfl
theorem b_l2 : linF 2 bs2.data.toList = some bl2 := by
  have e : linF 2 bs2.data.toList = (if pathOk (bA [111, 117, 116]) = true then some { Ln.none with wd := tMake, pa := tOut } else none).bind (fun l' => foldP 2 [0] [[97]] l') := rfl
  rw [e, if_pos b_path]
  rfl
theorem b_bad : badF 2 [bs1, bs2] = none := by
  refine bad_none fun j hj => ?_
  match j, hj with
  | 0, _ => show (linF 2 bs1.data.toList).isSome = true; rw [b_l1]; rfl
  | 1, _ => show (linF 2 bs2.data.toList).isSome = true; rw [b_l2]; rfl
theorem b_lns : lnsF 2 [bs1, bs2] = [bl1, bl2] := by
  unfold lnsF
  rw [List.filterMap_cons, List.filterMap_cons, b_l1, b_l2]
  rfl
theorem b_chk : chkF [bs1, bs2] = (0, 0) := by
  unfold chkF
  rw [if_neg (by rintro (h | ⟨s, h, h2⟩); exact absurd h (by decide); simp at h; rcases h with rfl | rfl; exact absurd h2 (by decide); exact absurd h2 (by decide)), show badF [bs1, bs2].length [bs1, bs2] = none from b_bad]
theorem b_chk3 : chkF [bs3] = (0, 1) := by
  unfold chkF
  rw [if_neg (by rintro (h | ⟨s, h, h2⟩); exact absurd h (by decide); simp at h; rcases h with rfl; exact absurd h2 (by decide)), show badF [bs3].length [bs3] = some 0 from by decide]

set_option maxHeartbeats 4000000 in
set_option maxRecDepth 100000 in
theorem Run_begun (g0 c0 : Nat) (w : World) (ht : TxAt w (some ⟨g0, 0, none⟩) [bs1, bs2]) (hm : MaxIs w) :
    Calls Tryz.prog 10 #[.slice none 0 0, .slice (some ⟨g0, 0, none⟩) 2 c0, .int .i64 100] w fun e w' => ∃ v, e = .returned (.tuple #[v, .int .i64 0, .int .i64 2, .int .i64 0]) ∧ w'.ownsRow w.heap.size 37 3 v 1 (flCells [bfl]) ∧ Below w.heap.size w w' := by
  have HC : Hid (Calls Tryz.prog 20 #[.slice none 0 0] w fun e w' => e = .returned (.int .i64 0) ∧ Hid (Below w.heap.size w w')) := (Check_any none 0 [] w (.inl rfl) hm).mono fun e w' q => ⟨q.1, q.2⟩
  have HL : Hid (∀ V, Hid (Below w.heap.size w V) → Calls Tryz.prog 7 #[.slice (some ⟨g0, 0, none⟩) 2 c0] V fun e w' => ∃ g cap, e = .returned (.tuple #[.slice (some ⟨g, 0, none⟩) 2 cap, .int .i64 0, .int .i64 0]) ∧ Hid (Below V.heap.size V w' ∧ TwoAt w' g)) := by
    intro V hV
    refine (linesOf_any (some ⟨g0, 0, none⟩) c0 [bs1, bs2] V (ht.below hV.out) (hm.up hV.out) (by decide)).mono ?_
    rintro e w' ⟨v, h1, h2, h3⟩
    rw [b_chk] at h1 h3
    obtain ⟨h4, h5⟩ := h3 rfl
    rw [show lnsF [bs1, bs2].length [bs1, bs2] = [bl1, bl2] from b_lns] at h4
    have h4 : w'.ownsRow V.heap.size 43 7 v (1 + 1) ((lnC bl1).toList ++ (lnC bl2).toList) := h4
    obtain ⟨g, cap, hv⟩ := own_block h4
    subst hv
    refine ⟨g, cap, h1, h2, (h4.lt g rfl).2, fun j v hv => ?_⟩
    have := h4.cells rfl j v hv
    rwa [addr_add, Nat.zero_add] at this
  clear ht hm
  go_enter Tryz.func10, Tryz.ntmps10
  go_wp2_with (first
    | (go_at_call 20; refine HC.out.mono ?_; rintro e w1 ⟨rfl, H1⟩)
    | (go_at_call 7; refine (HL.out _ H1).mono ?_; rintro e w2 ⟨g, cap, rfl, H2⟩)
    | (go_at_call 21; refine (newMachine_begun _).mono ?_; rintro e w3 ⟨rfl, q1, q2, q3⟩; have H3 : Hid (McAt w3 (w2.heap.size + 1) (bm0 (.slice none 0 0) w2.heap.size) ∧ w3.ownsMap Tryz.prog 9 fileE w2.heap.size 0 (byD []) ∧ Below w2.heap.size w2 w3) := ⟨q1, q2, q3⟩; clear q1 q2 q3)
    | (go_at_call 22; refine (run_begun (.slice none 0 0) (w2.heap.size + 1) w2.heap.size g cap w3 H3.out.1 H3.out.2.1 (H2.out.2.keep (H3.out.2.2.block g H2.out.2.lt) H3.out.2.2.size) (by omega) (by have := H2.out.2.lt; omega)).mono ?_; rintro e w4 ⟨rfl, q1, q2, q3⟩; have H4 : Hid (McAt w4 (w2.heap.size + 1) (bm2 (.slice none 0 0) w2.heap.size) ∧ (∃ n', n' ≤ 1 ∧ w4.ownsMap Tryz.prog 9 fileE w2.heap.size n' (byD [bfl])) ∧ UpC (w2.heap.size + 1) w2.heap.size w3 w4) := ⟨q1, q2, q3⟩; clear q1 q2 q3)
    | go_in)
  obtain ⟨P, hP⟩ : ∃ P, P = w2.heap.size + 1 := ⟨_, rfl⟩
  rw [← hP] at H3 H4 ⊢
  have HPe : Hid (P = w2.heap.size + 1) := hP
  clear hP
  have m4 := H4.out.1
  have s1 : w4.cell? ⟨P, 13, none⟩ = some (.int .i64 0) := m4.c13
  have s2 : w4.cell? ⟨P, 10, none⟩ = some (.int .i64 98) := m4.c10
  have HM : Hid (Calls Tryz.prog 23 #[.pointer (some ⟨P, 0, none⟩)] w4.drew fun e w' => ∃ v, e = .returned v ∧ (w'.cell? ⟨P, 13, none⟩ = some (.int .i64 0) ∧ w'.cell? ⟨P, 10, none⟩ = some (.int .i64 98)) ∧ Hid (w'.ownsRow w4.heap.size 37 3 v 1 (flCells [bfl]) ∧ Below w4.heap.size w4 w')) := by
    obtain ⟨n', h1, h2⟩ := H4.out.2.1
    refine (madeFiles_any (bm2 (.slice none 0 0) w2.heap.size) P n' [bfl] w4.drew ⟨m4.at_, m4.len⟩ (ownsMap_heap h2 rfl) (by omega) (List.pairwise_singleton _ _) (by decide)).mono ?_
    rintro e w' ⟨v, k1, k2, k3⟩
    have k3 : Below w4.heap.size w4 w' := ⟨k3.os, k3.tape, k3.output, k3.size, k3.block⟩
    have m5 := m4.below k3
    exact ⟨v, k1, ⟨m5.c13, m5.c10⟩, k2, k3⟩
  have HS : Hid (w4.drew.cell? ⟨P, 13, none⟩ = some (.int .i64 0) ∧ w4.drew.cell? ⟨P, 10, none⟩ = some (.int .i64 98)) := ⟨s1, s2⟩
  clear m4
  go_region_held3 (fun V => V.cell? ⟨P, 13, none⟩ = some (.int .i64 0) ∧ V.cell? ⟨P, 10, none⟩ = some (.int .i64 98)) (first | assumption | exact HS.out | go_keep) (first
    | (go_at_call 23; refine HM.out.mono ?_; rintro e w5 ⟨v5, rfl, hS5, H5⟩)
    | fail)
  have hw2 : IntKind.i64.wrap 2 = 2 := by rw [IntKind.wrap_i64]; decide
  rw [hw2]
  go_wp2
  refine bodyPost_ret (v := .tuple #[v5, .int .i64 0, .int .i64 2, .int .i64 0]) (by simp [results, Tryz.results10]) rfl ?_
  have hb4 : Below w.heap.size w w4 := by
    have h1 := H1.out
    have h2 := H2.out.1
    have h3 := H3.out.2.2
    have h4 := H4.out.2.2
    have hp := HPe.out
    have s2 := h2.size
    have s1 := h1.size
    exact ⟨h4.os.trans (h3.os.trans (h2.os.trans h1.os)), h4.tape.trans (h3.tape.trans (h2.tape.trans h1.tape)), h4.output.trans (h3.output.trans (h2.output.trans h1.output)), Nat.le_trans s1 (Nat.le_trans s2 (Nat.le_trans h3.size h4.size)), fun b hb => (h4.block b (Nat.lt_of_lt_of_le (by omega) h3.size) (by omega) (by omega)).trans ((h3.block b (by omega)).trans ((h2.block b (by omega)).trans (h1.block b hb)))⟩
  exact ⟨v5, rfl, row_low H5.out.1 hb4.size, below_low hb4 H5.out.2 hb4.size⟩

theorem two_texts (w : World) : TxAt (w.alloc (.cells #[.string ⟨#[115, 101, 116, 32, 97, 32, 104, 105]⟩, .string ⟨#[109, 97, 107, 101, 32, 111, 117, 116, 32, 97]⟩] 9)) (some ⟨w.heap.size, 0, none⟩) [bs1, bs2] := by
  refine .inr ⟨w.heap.size, 0, rfl, by rw [World.size_alloc]; omega, fun j hj => ?_⟩
  rw [Nat.zero_add, Lib.cell_of_heap (heap_alloc_new w _)]
  match j, hj with
  | 0, _ => rfl
  | 1, _ => rfl
theorem one_text (w : World) : TxAt (w.alloc (.cells #[.string ⟨#[103, 111, 116, 111, 32, 53]⟩] 9)) (some ⟨w.heap.size, 0, none⟩) [bs3] := by
  refine .inr ⟨w.heap.size, 0, rfl, by rw [World.size_alloc]; omega, fun j hj => ?_⟩
  rw [Nat.zero_add, Lib.cell_of_heap (heap_alloc_new w _)]
  match j, hj with
  | 0, _ => rfl

set_option maxHeartbeats 4000000 in
set_option maxRecDepth 100000 in
theorem sbegun_any (w : World) (hm : MaxIs w) :
    Calls Tryz.prog 6 #[] w fun e w' => e = .returned (.bool true) ∧ Below w.heap.size w w' := by
  have hb1 : Below w.heap.size w (w.alloc (.cells #[.string ⟨#[115, 101, 116, 32, 97, 32, 104, 105]⟩, .string ⟨#[109, 97, 107, 101, 32, 111, 117, 116, 32, 97]⟩] 9)) := (Below.refl _ w).alloc (Nat.le_refl _) _
  have hR := Run_begun w.heap.size 2 _ (two_texts w) (hm.up hb1)
  have HR : Hid (Calls Tryz.prog 10 #[.slice none 0 0, .slice (some ⟨w.heap.size, 0, none⟩) 2 2, .int .i64 100] (w.alloc (.cells #[.string ⟨#[115, 101, 116, 32, 97, 32, 104, 105]⟩, .string ⟨#[109, 97, 107, 101, 32, 111, 117, 116, 32, 97]⟩] 9)) fun e w' => ∃ g cap, e = .returned (.tuple #[.slice (some ⟨g, 0, none⟩) 1 cap, .int .i64 0, .int .i64 2, .int .i64 0]) ∧ Hid (w'.cell? ⟨g, 1, none⟩ = some (.string ⟨#[104, 105]⟩) ∧ g < w'.heap.size ∧ Below w.heap.size w w')) := by
    refine hR.mono ?_
    rintro e w' ⟨v, k1, k2, k3⟩
    obtain ⟨g, cap, hv⟩ := own_block k2
    subst hv
    refine ⟨g, cap, k1, ?_, (k2.lt g rfl).2, below_low hb1 k3 hb1.size⟩
    have := k2.cells rfl 1 (.string ⟨#[104, 105]⟩) rfl
    rwa [addr_add, Nat.zero_add] at this
  have HC : Hid (∀ V, Hid (Below w.heap.size w V) → Calls Tryz.prog 4 #[.slice (some ⟨V.heap.size, 0, none⟩) 1 1] (V.alloc (.cells #[.string ⟨#[103, 111, 116, 111, 32, 53]⟩] 9)) fun e w' => e = .returned (.tuple #[.int .i64 0, .int .i64 1]) ∧ Hid (Below V.heap.size V w')) := by
    intro V hV
    have hb : Below V.heap.size V (V.alloc (.cells #[.string ⟨#[103, 111, 116, 111, 32, 53]⟩] 9)) := (Below.refl _ V).alloc (Nat.le_refl _) _
    refine (SCheck_any (some ⟨V.heap.size, 0, none⟩) 1 [bs3] _ (one_text V) ((hm.up hV.out).up hb) (by decide)).mono ?_
    rintro e w' ⟨k1, k2⟩
    rw [b_chk3] at k1
    exact ⟨k1, below_low hb k2 hb.size⟩
  clear hR hb1 hm
  go_enter Tryz.func6, Tryz.ntmps6
  go_wp2_with (first
    | (go_at_call 10; refine HR.out.mono ?_; rintro e w1 ⟨g, cap, rfl, H1⟩)
    | (go_at_call 4; refine (HC.out w1 H1.out.2.2).mono ?_; rintro e w2 ⟨rfl, H2⟩; have ct : w2.cell? ⟨g, 1, none⟩ = some (.string ⟨#[104, 105]⟩) := ((H2.out.cell (p := ⟨g, 1, none⟩) H1.out.2.1).trans H1.out.1))
    | go_in)
  go_ret
  exact ⟨rfl, below_low H1.out.2.2 H2.out H1.out.2.2.size⟩
end Go.Proofs.YtcpomkgfcpfedaaGreatDoor
