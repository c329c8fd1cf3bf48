/- The splitter adds a token; takes bytes. -/
import Derived.Test.YtdfimmekhbkglaaDoorTkS
namespace Go.Proofs.YtdfimmekhbkglaaDoor
open Go.RowKit Go.Shelf

theorem heap_al (w : World) (o : Obj) (g : Nat) (hg : g < w.heap.size) : (w.alloc o).heap[g]? = w.heap[g]? := ((Below.refl w.heap.size w).alloc (Nat.le_refl _) o).block g hg

set_option maxHeartbeats 4000000 in
set_option maxRecDepth 100000 in
theorem add_any {B P : Nat} {L : List UInt8} {tv iv : Value} {w : World} {p : Sp} (h : TS B P L tv iv w p) (k : Nat) (hk : p.toks.length ≤ 100000) :
    Calls Tryd.prog 25 #[.pointer (some ⟨P, 0, none⟩), .int .i64 k] w fun e w' => e = .returned (.tuple #[]) ∧ ∃ tv', TS B P L tv' iv w' (p.add k) ∧ Below B w w' := by
  obtain ⟨i0, hi, hz0, hz1, hz2⟩ := info_p infT
  have H : Hid (TS B P L tv iv w p) := h
  have c1 := h.c1
  have c2 := h.c2
  have hPl := h.lt
  have hBl : B ≤ w.heap.size := by have := h.hB; omega
  have hadd : p.add k = { p with toks := p.toks ++ [⟨k, [], 0, p.pos⟩] } := rfl
  rw [hadd]
  have HNW : Hid (∀ (j : Nat) (u : Value), (tc ⟨k, [], 0, p.pos⟩)[j]? = some u → ((w.alloc (.cells #[.int .i64 k, .string ⟨#[]⟩, .int .i64 0, .int .i64 p.pos] 30)).drew).cell? ((⟨w.heap.size, 0, none⟩ : Addr).add j) = some u) := new_tok w ⟨k, [], 0, p.pos⟩
  have hone := tc_one ⟨k, [], 0, p.pos⟩
  have hnl : (tc ⟨k, [], 0, p.pos⟩).length = 1 * 4 := rfl
  have q1 : p.toks.length + 1 ≤ maxLen := by unfold maxLen; omega
  have q2 : (p.toks.length + 1) * 40 ≤ 140737488355328 := by omega
  have HOW : Hid (((w.alloc (.cells #[.int .i64 k, .string ⟨#[]⟩, .int .i64 0, .int .i64 p.pos] 30)).drew).ownsRow B 30 4 tv p.toks.length (tcs p.toks)) := h.ot.alloc _
  have q3 : B ≤ ((w.alloc (.cells #[.int .i64 k, .string ⟨#[]⟩, .int .i64 0, .int .i64 p.pos] 30)).drew).heap.size := by show B ≤ (w.alloc _).heap.size; rw [World.size_alloc]; omega
  have q4 : ((w.alloc (.cells #[.int .i64 k, .string ⟨#[]⟩, .int .i64 0, .int .i64 p.pos] 30)).drew).heap.size = w.heap.size + 1 := by show (w.alloc _).heap.size = _; rw [World.size_alloc]
  have HPUT : Hid (∀ {w1 w' : World} {g1 cap1 : Nat}, w1.ownsRow B 30 4 (.slice (some ⟨g1, 0, none⟩) (p.toks.length + 1) cap1) (p.toks.length + 1) (tcs p.toks ++ tc ⟨k, [], 0, p.pos⟩) → ((w.alloc (.cells #[.int .i64 k, .string ⟨#[]⟩, .int .i64 0, .int .i64 p.pos] 30)).drew).grownBy w1 tv.ownBlock → (tv.ownBlock = some g1 ∨ g1 = w.heap.size + 1) → (∀ g : Nat, w'.heap[g]? = (w1.setCell ⟨P, 2, none⟩ (.slice (some ⟨g1, 0, none⟩) (p.toks.length + 1) cap1)).heap[g]?) → TS B P L (.slice (some ⟨g1, 0, none⟩) (p.toks.length + 1) cap1) iv w' { p with toks := p.toks ++ [⟨k, [], 0, p.pos⟩] }) := by
    intro w1 w' g1 cap1 a1 a2 a3 a4
    exact H.out.put ⟨k, [], 0, p.pos⟩ (W := (w.alloc _).drew) (fun g hg => heap_al w _ g hg) (by rw [q4]; omega) a1 a2 (by rw [q4]; exact a3) a4
  have HP1 : Hid (∀ {w1 : World}, ((w.alloc (.cells #[.int .i64 k, .string ⟨#[]⟩, .int .i64 0, .int .i64 p.pos] 30)).drew).grownBy w1 tv.ownBlock → w1.cell? ⟨P, 2, none⟩ = some tv ∧ w1.frozen? ⟨P, 2, none⟩ = false ∧ Below B w w1) := by
    intro w1 hg
    have e1 : w1.heap[P]? = w.heap[P]? := (hg.block P (by rw [q4]; omega) (fun e => H.out.nt e.symm)).trans (heap_al w _ P hPl)
    exact ⟨by rw [Lib.cell_of_heap (e1.trans H.out.blk)]; rfl, Lib.frozen_of_heap (e1.trans H.out.blk) 2, (((Below.refl B w).alloc hBl _).drew).grown hg q3 (fun j hj => (H.out.ot.lt j hj).1)⟩
  generalize tc ⟨k, [], 0, p.pos⟩ = news at *
  generalize tcs p.toks = ts at *
  generalize p.pos = x at *
  generalize p.toks.length = n at *
  clear h hadd hk
  go_enter Tryd.func25, Tryd.ntmps25
  go_wp2
  go_region_law (first
      | ((refine step_append_lies ((w.alloc (.cells #[.int .i64 k, .string ⟨#[]⟩, .int .i64 0, .int .i64 x] 30)).drew) (by rfl) (Operand.tmp 8) (Operand.tmp 15) 23 (by rfl) B 30 i0 (.agg #[.int .i64 0, .string ⟨#[]⟩, .int .i64 0, .int .i64 0]) 4 40 Tryd.underlying23 hi hz0 hz1 hz2 rfl (by decide) tv n ts (by rfl) HOW.out ⟨w.heap.size, 0, none⟩ 1 1 news (by rfl) hnl HNW.out hone (by decide) q1 q2 q3 (w.heap.size + 1) q4 ?_; intro g' cap' w1 hown1 hgrow hat hltg; obtain ⟨d2, f2, hb1⟩ := HP1.out hgrow))
      | fail)
  all_goals
    have HF : Hid (w1.ownsRow B 30 4 (.slice (some ⟨g', 0, none⟩) (n + 1) cap') (n + 1) (ts ++ news) ∧ ((w.alloc (.cells #[.int .i64 k, .string ⟨#[]⟩, .int .i64 0, .int .i64 x] 30)).drew).grownBy w1 tv.ownBlock ∧ (tv.ownBlock = some g' ∨ g' = w.heap.size + 1) ∧ Below B w w1) := ⟨hown1, hgrow, hat, hb1⟩
    clear hown1 hgrow hat hb1 hltg
    go_wp2
    go_end0
    exact ⟨rfl, _, HPUT.out HF.out.1 HF.out.2.1 HF.out.2.2.1 (fun g => rfl), HF.out.2.2.2.setCell (p := ⟨P, 2, none⟩) H.out.hB _⟩

/-- Nothing but answers of the tape has gone. -/
def Dr (w W : World) : Prop := ∃ n, W = w.drewN n
theorem Dr.refl (w : World) : Dr w w := ⟨0, rfl⟩
theorem Dr.drewN {w W : World} (h : Dr w W) (m : Nat) : Dr w (W.drewN m) := by
  obtain ⟨n, rfl⟩ := h
  exact ⟨n + m, by rw [World.drewN_drewN]⟩
theorem Dr.drew {w W : World} (h : Dr w W) : Dr w W.drew := h.drewN 1
theorem Dr.trans {w W V : World} (h : Dr w W) (h' : Dr W V) : Dr w V := by
  obtain ⟨m, rfl⟩ := h'
  exact h.drewN m

set_option maxHeartbeats 4000000 in
set_option maxRecDepth 100000 in
theorem take_any {B P : Nat} {L : List UInt8} {tv iv : Value} {w : World} {p : Sp} (h : TS B P L tv iv w p) (hL : L.length ≤ 6000) (hp : p.pos ≤ L.length) (F : Nat) (hh : UInt8 → Bool) (hF : ∀ W, Dr w W → Says F #[] W hh) :
    Calls Tryd.prog 26 #[.pointer (some ⟨P, 0, none⟩), .func (.func F) #[] #[]] w fun e w' => e = .returned (.string (mkB ((L.drop p.pos).take (rch hh (L.drop p.pos))))) ∧ TS B P L tv iv w' { p with pos := p.pos + rch hh (L.drop p.pos) } ∧ Below B w w' ∧ ∀ g : Nat, g ≠ P → w'.heap[g]? = w.heap[g]? := by
  have H : Hid (TS B P L tv iv w p) := h
  have HRe : Hid (∀ W, Dr w W → Calls Tryd.prog 30 #[.pointer (some ⟨P, 0, none⟩)] W fun e w' => e = .returned (.string (mkB (L.drop p.pos))) ∧ Dr w w') := fun W hW => by
    obtain ⟨n, rfl⟩ := hW
    refine (rest_any (h.drewN n) hp).mono ?_
    rintro e w' ⟨he, m, rfl⟩
    exact ⟨he, Dr.drewN ⟨n, rfl⟩ m⟩
  have HRc : Hid (∀ W, Dr w W → Calls Tryd.prog 42 #[.string (mkB (L.drop p.pos)), .func (.func F) #[] #[]] W fun e w' => e = .returned (.int .i64 (rch hh (L.drop p.pos))) ∧ w' = W) := fun W hW => by
    have := reach_any F hh (mkB (L.drop p.pos)) W (by rw [mk_size, List.length_drop]; omega) (hF W hW)
    rwa [mk_data] at this
  have c0 := h.c0
  have c1 := h.c1
  have f1 := h.fz 1
  have hsz := mk_size L
  have hle := rch_le hh (L.drop p.pos)
  rw [List.length_drop] at hle
  have HSP : Hid (∀ w' : World, (∀ g : Nat, w'.heap[g]? = (w.setCell ⟨P, 1, none⟩ (.int .i64 ((p.pos + rch hh (L.drop p.pos) : Nat) : Int))).heap[g]?) → TS B P L tv iv w' { p with pos := p.pos + rch hh (L.drop p.pos) }) := fun w' hw => h.setPos _ hw
  have hsl := sl_mid L p.pos (p.pos + rch hh (L.drop p.pos)) _ _ rfl rfl (by omega) (by omega)
  rw [Nat.add_sub_cancel_left] at hsl
  generalize mkB ((L.drop p.pos).take (rch hh (L.drop p.pos))) = out at *
  generalize mkB (L.drop p.pos) = rs at *
  generalize rch hh (L.drop p.pos) = k at *
  have hpi : (p.pos : Int) ≤ 6000 := by omega
  have hki : (k : Int) ≤ 6000 := by omega
  have hs1 : (p.pos : Int) + (k : Int) = ((p.pos + k : Nat) : Int) := by omega
  have hs2 : ((p.pos + k : Nat) : Int) ≤ (L.length : Int) := by omega
  have hs3 : (p.pos : Int) ≤ ((p.pos + k : Nat) : Int) := by omega
  obtain ⟨y, hy⟩ : ∃ y, y = p.pos + k := ⟨_, rfl⟩
  rw [← hy] at hsl hs1 hs2 hs3 HSP
  rw [← hy]
  have hw1 : IntKind.i64.wrap (y : Int) = (y : Int) := by rw [IntKind.wrap_i64]; omega
  generalize hx : p.pos = x at *
  clear h hF hle hy
  go_enter Tryd.func26, Tryd.ntmps26
  go_wp2
  go_region_with (first
    | (go_at_call 30; refine (HRe.out _ (Dr.drew (Dr.refl _))).mono ?_; rintro e w1 ⟨rfl, n1, rfl⟩)
    | (go_at_call 42; refine (HRc.out _ ⟨_, rfl⟩).mono ?_; rintro e w' ⟨rfl, rfl⟩)
    | fail)
  all_goals
    have HT : Hid (TS B P L tv iv ((w.drewN n1).setCell ⟨P, 1, none⟩ (.int .i64 (y : Int))) { p with pos := y }) := HSP.out _ (fun g => rfl)
    have HKP : Hid (∀ g : Nat, g ≠ P → ((w.drewN n1).setCell ⟨P, 1, none⟩ (.int .i64 (y : Int))).heap[g]? = w.heap[g]?) := fun g hg => Below.heap_setCell (w.drewN n1) ⟨P, 1, none⟩ _ g hg
    have HBL : Hid (Below B w ((w.drewN n1).setCell ⟨P, 1, none⟩ (.int .i64 (y : Int)))) := (below_drewN (Below.refl B w) n1).setCell (p := ⟨P, 1, none⟩) H.out.hB _
    have d0 := HT.out.c0
    have d1 := HT.out.c1
    generalize (w.drewN n1).setCell ⟨P, 1, none⟩ (.int .i64 (y : Int)) = w2 at *
    go_wp2
    go_quiet (fail)
    go_wp2
    go_ret
    exact ⟨rfl, HT.out.drewN nq, below_drewN HBL.out nq, HKP.out⟩

set_option maxHeartbeats 4000000 in
set_option maxRecDepth 100000 in
theorem take_cap {B P : Nat} {L : List UInt8} {tv iv : Value} {w : World} {p : Sp} (h : TS B P L tv iv w p) (hL : L.length ≤ 6000) (hp : p.pos ≤ L.length) (F : Nat) (u : Value) (hh : UInt8 → Bool) (hF : ∀ W, Dr w W → Says F #[u] W hh) :
    Calls Tryd.prog 26 #[.pointer (some ⟨P, 0, none⟩), .func (.func F) #[] #[u]] w fun e w' => e = .returned (.string (mkB ((L.drop p.pos).take (rch hh (L.drop p.pos))))) ∧ TS B P L tv iv w' { p with pos := p.pos + rch hh (L.drop p.pos) } ∧ Below B w w' ∧ ∀ g : Nat, g ≠ P → w'.heap[g]? = w.heap[g]? := by
  have H : Hid (TS B P L tv iv w p) := h
  have HRe : Hid (∀ W, Dr w W → Calls Tryd.prog 30 #[.pointer (some ⟨P, 0, none⟩)] W fun e w' => e = .returned (.string (mkB (L.drop p.pos))) ∧ Dr w w') := fun W hW => by
    obtain ⟨n, rfl⟩ := hW
    refine (rest_any (h.drewN n) hp).mono ?_
    rintro e w' ⟨he, m, rfl⟩
    exact ⟨he, Dr.drewN ⟨n, rfl⟩ m⟩
  have HRc : Hid (∀ W, Dr w W → Calls Tryd.prog 42 #[.string (mkB (L.drop p.pos)), .func (.func F) #[] #[u]] W fun e w' => e = .returned (.int .i64 (rch hh (L.drop p.pos))) ∧ w' = W) := fun W hW => by
    have := reach_cap F u hh (mkB (L.drop p.pos)) W (by rw [mk_size, List.length_drop]; omega) (hF W hW)
    rwa [mk_data] at this
  have c0 := h.c0
  have c1 := h.c1
  have f1 := h.fz 1
  have hsz := mk_size L
  have hle := rch_le hh (L.drop p.pos)
  rw [List.length_drop] at hle
  have HSP : Hid (∀ w' : World, (∀ g : Nat, w'.heap[g]? = (w.setCell ⟨P, 1, none⟩ (.int .i64 ((p.pos + rch hh (L.drop p.pos) : Nat) : Int))).heap[g]?) → TS B P L tv iv w' { p with pos := p.pos + rch hh (L.drop p.pos) }) := fun w' hw => h.setPos _ hw
  have hsl := sl_mid L p.pos (p.pos + rch hh (L.drop p.pos)) _ _ rfl rfl (by omega) (by omega)
  rw [Nat.add_sub_cancel_left] at hsl
  generalize mkB ((L.drop p.pos).take (rch hh (L.drop p.pos))) = out at *
  generalize mkB (L.drop p.pos) = rs at *
  generalize rch hh (L.drop p.pos) = k at *
  have hpi : (p.pos : Int) ≤ 6000 := by omega
  have hki : (k : Int) ≤ 6000 := by omega
  have hs1 : (p.pos : Int) + (k : Int) = ((p.pos + k : Nat) : Int) := by omega
  have hs2 : ((p.pos + k : Nat) : Int) ≤ (L.length : Int) := by omega
  have hs3 : (p.pos : Int) ≤ ((p.pos + k : Nat) : Int) := by omega
  obtain ⟨y, hy⟩ : ∃ y, y = p.pos + k := ⟨_, rfl⟩
  rw [← hy] at hsl hs1 hs2 hs3 HSP
  rw [← hy]
  have hw1 : IntKind.i64.wrap (y : Int) = (y : Int) := by rw [IntKind.wrap_i64]; omega
  generalize hx : p.pos = x at *
  clear h hF hle hy
  go_enter Tryd.func26, Tryd.ntmps26
  go_wp2
  go_region_with (first
    | (go_at_call 30; refine (HRe.out _ (Dr.drew (Dr.refl _))).mono ?_; rintro e w1 ⟨rfl, n1, rfl⟩)
    | (go_at_call 42; refine (HRc.out _ ⟨_, rfl⟩).mono ?_; rintro e w' ⟨rfl, rfl⟩)
    | fail)
  all_goals
    have HT : Hid (TS B P L tv iv ((w.drewN n1).setCell ⟨P, 1, none⟩ (.int .i64 (y : Int))) { p with pos := y }) := HSP.out _ (fun g => rfl)
    have HKP : Hid (∀ g : Nat, g ≠ P → ((w.drewN n1).setCell ⟨P, 1, none⟩ (.int .i64 (y : Int))).heap[g]? = w.heap[g]?) := fun g hg => Below.heap_setCell (w.drewN n1) ⟨P, 1, none⟩ _ g hg
    have HBL : Hid (Below B w ((w.drewN n1).setCell ⟨P, 1, none⟩ (.int .i64 (y : Int)))) := (below_drewN (Below.refl B w) n1).setCell (p := ⟨P, 1, none⟩) H.out.hB _
    have d0 := HT.out.c0
    have d1 := HT.out.c1
    generalize (w.drewN n1).setCell ⟨P, 1, none⟩ (.int .i64 (y : Int)) = w2 at *
    go_wp2
    go_quiet (fail)
    go_wp2
    go_ret
    exact ⟨rfl, HT.out.drewN nq, below_drewN HBL.out nq, HKP.out⟩
end Go.Proofs.YtdfimmekhbkglaaDoor
