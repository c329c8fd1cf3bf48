/- Tokens without their places; are two lists of tokens the same; choosing. -/
import Derived.Test.YtdfimmekhbkglaaDoorTkLs
import Derived.Test.YtdfimmekhbkglaaDoorTkEm
namespace Go.Proofs.YtdfimmekhbkglaaDoor
open Go.RowKit Go.Shelf

/-- Appending, shut: the walk is not to look into it. -/
def appS (ats : Array TypeId) (ty : TypeId) (args : Array Value) : Sem Value := Builtin.append_ ats ty args
theorem appS_eq (ats : Array TypeId) (ty : TypeId) (args : Array Value) : Builtin.append_ ats ty args = appS ats ty args := rfl
attribute [local go_sem ↓] appS_eq

def chs (c : Int) (m : Nat) : Nat := ((if c < 0 then -(c + 1) else c) % (m : Int)).toNat
theorem chs_lt (c : Int) {m : Nat} (h : 0 < m) : chs c m < m := by
  unfold chs
  have h2 := Int.emod_nonneg (if c < 0 then -(c + 1) else c) (show (m : Int) ≠ 0 by omega)
  have h3 := Int.emod_lt_of_pos (if c < 0 then -(c + 1) else c) (show 0 < (m : Int) by omega)
  omega

set_option maxHeartbeats 2000000 in
theorem choose_any (c : Int) (m : Nat) (w : World) (h0 : -9223372036854775808 ≤ c) (h1 : c ≤ 9223372036854775807) (hm : 0 < m) :
    Calls Tryd.prog 8 #[.int .i64 c, .int .i64 m] w fun e w' => e = .returned (.int .i64 (chs c m : Int)) ∧ w' = w := by
  have hmi : (0 : Int) < (m : Int) := by omega
  have hm0 : ((m : Int) == 0) = false := by simp; omega
  have key : ∀ d : Int, 0 ≤ d → d.tmod (m : Int) = ((d % (m : Int)).toNat : Int) ∧ d % (m : Int) = ((d % (m : Int)).toNat : Int) := fun d hd => by
    have h2 := Int.emod_nonneg d (show (m : Int) ≠ 0 by omega)
    refine ⟨?_, by omega⟩
    rw [Int.tmod_eq_emod_of_nonneg hd]
    omega
  by_cases hc : c < 0
  · obtain ⟨d, hd⟩ : ∃ d : Int, d = -(c + 1) := ⟨_, rfl⟩
    obtain ⟨hr1, hr2⟩ := key d (by omega)
    have HC : Hid (chs c m = (d % (m : Int)).toNat) := by unfold Hid chs; rw [if_pos hc, hd]
    have x1 : wrap64 (c + 1) = c + 1 := by unfold wrap64; omega
    have x2 : IntKind.i64.wrap (c + 1) = c + 1 := by rw [IntKind.wrap_i64]; omega
    have x3 : wrap64 (-(c + 1)) = d := by unfold wrap64; omega
    have x4 : IntKind.i64.wrap (-(c + 1)) = d := by rw [IntKind.wrap_i64]; omega
    have hd0 : 0 ≤ d := by omega
    generalize (d % (m : Int)).toNat = r at *
    clear key hd h0 h1
    go_enter Tryd.func8, Tryd.ntmps8
    go_wp2
    go_ret
    exact ⟨by rw [HC.out]; simp, rfl⟩
  · obtain ⟨hr1, hr2⟩ := key c (by omega)
    have HC : Hid (chs c m = (c % (m : Int)).toNat) := by unfold Hid chs; rw [if_neg hc]
    have hc0 : 0 ≤ c := by omega
    generalize (c % (m : Int)).toNat = r at *
    clear key h1 hc
    go_enter Tryd.func8, Tryd.ntmps8
    go_wp2
    go_ret
    exact ⟨by rw [HC.out]; simp, rfl⟩


def zT (t : Tk) : Tk := { t with pos := 0 }
theorem app_zero (N c : Nat) (ao : Option Addr) (W : World) : (Builtin.append_ #[23, 23] 23 #[.slice (some ⟨N, 0, none⟩) 0 0, .slice ao 0 c]).run Tryd.prog W = .ok (.slice (some ⟨N, 0, none⟩) 0 0) W := by
  obtain ⟨i0, hi, hz0, hz1, hz2⟩ := info_p infT
  cases ao <;> simp [Builtin.append_, run_underlying Tryd.underlying23, sizeOf, typeInfo, hi, Builtin.lenOf, Builtin.firstCells, loadCells, loadCellsFrom, storeCells]

theorem tcs_one (l : List Tk) : ∀ u ∈ tcs l, u.oneCell' = true := by
  intro u hu
  obtain ⟨t, _, ht⟩ := List.mem_flatMap.1 hu
  exact tc_one t u ht
/-- A token's place is struck. -/
theorem tcs_zero (l : List Tk) (k : Nat) (h : k < l.length) : (tcs ((l.take k).map zT ++ l.drop k)).set (k * 4 + 3) (.int .i64 0) = tcs ((l.take (k + 1)).map zT ++ l.drop (k + 1)) := by
  have e1 : l.drop k = l[k] :: l.drop (k + 1) := List.drop_eq_getElem_cons h
  have e2 : l.take (k + 1) = l.take k ++ [l[k]] := List.take_succ_eq_append_getElem h
  have a1 : tcs ((l.take k).map zT ++ l.drop k) = tcs ((l.take k).map zT) ++ (tc l[k] ++ tcs (l.drop (k + 1))) := by unfold tcs; rw [e1, List.flatMap_append, List.flatMap_cons]
  have a2 : tcs ((l.take (k + 1)).map zT ++ l.drop (k + 1)) = tcs ((l.take k).map zT) ++ (tc (zT l[k]) ++ tcs (l.drop (k + 1))) := by
    unfold tcs
    rw [e2, List.map_append, List.append_assoc, List.flatMap_append]
    show _ ++ List.flatMap tc (zT l[k] :: l.drop (k + 1)) = _
    rw [List.flatMap_cons]
  have hl : (tcs ((l.take k).map zT)).length = k * 4 := by rw [tcs_len, List.length_map, List.length_take, Nat.min_eq_left (by omega)]
  rw [a1, a2, List.set_append_right _ _ (by omega), hl, show k * 4 + 3 - k * 4 = 3 from by omega, List.set_append_left _ _ (by show 3 < 4; omega)]
  rfl

set_option maxHeartbeats 4000000 in
set_option maxRecDepth 100000 in
theorem bare_any (B : Nat) (v : Value) (l : List Tk) (w : World) (h : w.ownsRow B 30 4 v l.length (tcs l)) (hn : l.length ≤ 100000) :
    Calls Tryd.prog 10 #[v] w fun e w' => ∃ v', e = .returned v' ∧ w'.ownsRow w.heap.size 30 4 v' l.length (tcs (l.map zT)) ∧ Below w.heap.size w w' := by
  obtain ⟨i0, hi, hz0, hz1, hz2⟩ := info_p infT
  have hown0 : (w.alloc (.cells #[] 30)).ownsRow w.heap.size 30 4 (.slice (some ⟨w.heap.size, 0, none⟩) 0 0) 0 [] :=
    ⟨rfl, .inr ⟨w.heap.size, 0, #[], rfl, Nat.le_refl _, heap_alloc_new w _, Nat.le_refl _, by decide, rfl, rfl⟩⟩
  have hzA : (w.alloc (.cells #[] 30)).heap.size = w.heap.size + 1 := World.size_alloc _ _
  -- the append
  obtain ⟨v1, w1, hr1, ho1, hb1⟩ : ∃ v1 w1, (appS #[23, 23] 23 #[.slice (some ⟨w.heap.size, 0, none⟩) 0 0, v]).run Tryd.prog (w.alloc (.cells #[] 30)) = .ok v1 w1 ∧ w1.ownsRow w.heap.size 30 4 v1 l.length (tcs l) ∧ Below w.heap.size w w1 := by
    have hb0 : Below w.heap.size w (w.alloc (.cells #[] 30)) := (Below.refl _ w).alloc (Nat.le_refl _) _
    rcases Nat.eq_zero_or_pos l.length with e | e
    · have hl : l = [] := List.length_eq_zero_iff.1 e
      subst hl
      obtain ⟨ao, c, rfl⟩ := row_shape h
      exact ⟨_, _, app_zero _ _ _ _, hown0, hb0⟩
    · obtain ⟨g, cap, rfl, hg1, hg2⟩ := h.form e
      obtain ⟨v1, w1, hr, ho, hg, _⟩ := run_append_own (P := Tryd.prog) (w.alloc (.cells #[] 30)) w.heap.size 23 23 30 i0 (.agg #[.int .i64 0, .string ⟨#[]⟩, .int .i64 0, .int .i64 0]) 4 40 Tryd.underlying23 hi hz0 hz1 hz2 rfl (by decide) (.slice (some ⟨w.heap.size, 0, none⟩) 0 0) 0 [] hown0 ⟨g, 0, none⟩ l.length cap (tcs l) (tcs_len l) (fun j u hu => by
          have hj : j < l.length * 4 := by have := (List.getElem?_eq_some_iff.1 hu).1; rw [tcs_len] at this; exact this
          rw [add0]
          exact (World.cell?_of_block (w := w) (((Below.refl w.heap.size w).alloc (Nat.le_refl _) _).block g hg2)).trans ((h.cellAt j hj).trans hu)) (tcs_one l) (by unfold maxLen; omega) (by omega) (by omega)
      rw [Nat.zero_add, List.nil_append] at ho
      exact ⟨v1, w1, hr, ho, hb0.grown hg (by omega) (fun k hk => by simp [Value.ownBlock] at hk; omega)⟩
  obtain ⟨ao1, c1, rfl⟩ := row_shape ho1
  have H1 : Hid (w1.ownsRow w.heap.size 30 4 (.slice ao1 l.length c1) l.length (tcs l) ∧ Below w.heap.size w w1) := ⟨ho1, hb1⟩
  obtain ⟨ao, c, rfl⟩ := row_shape h
  clear h ho1 hb1 hown0 hi hz0 hz1 hz2 hzA
  go_enter Tryd.func10, Tryd.ntmps10
  go_wp2
  go_loopw [4] (fun v wr => ∃ k : Nat, k ≤ l.length ∧ v = .int .i64 (k : Int) ∧ Hid (wr.ownsRow w.heap.size 30 4 (.slice ao1 l.length c1) l.length (tcs ((l.take k).map zT ++ l.drop k)) ∧ Below w.heap.size w wr)) (fun v _ => l.length - (intOf v).toNat)
  case atStart => exact ⟨0, Nat.zero_le _, rfl, by simpa using H1.out.1, H1.out.2⟩
  case round =>
    obtain ⟨k, hk, rfl, HI⟩ := hrel
    by_cases hlt : k < l.length
    · have hki : (k : Int) < (l.length : Int) := by omega
      rcases HI.out.1.2 with ⟨_, e0⟩ | ⟨g, cap, cur, hv, hB, hg, hle, hm, hs, ht⟩
      · omega
      cases hv
      have hxl := tcs_len ((l.take k).map zT ++ l.drop k)
      have hll : ((l.take k).map zT ++ l.drop k).length = l.length := by simp; omega
      rw [hll] at hxl
      have hcs : k * 4 + 3 < cur.size := by omega
      have hcc : wr.cell? ⟨g, k * 4 + 3, none⟩ = some cur[k * 4 + 3] := by rw [Lib.cell_of_heap hg, Array.getElem?_eq_getElem hcs]
      have hff : wr.frozen? ⟨g, k * 4 + 3, none⟩ = false := Lib.frozen_of_heap hg _
      obtain ⟨k1, hk1⟩ : ∃ k1, k1 = k + 1 := ⟨_, rfl⟩
      have hk2 : (k : Int) + 1 = (k1 : Int) := by omega
      have hw2 : IntKind.i64.wrap (k1 : Int) = (k1 : Int) := by rw [IntKind.wrap_i64]; omega
      have HE : Hid ((wr.setCell ⟨g, k * 4 + 3, none⟩ (.int .i64 0)).ownsRow w.heap.size 30 4 (.slice (some ⟨g, 0, none⟩) l.length c1) l.length (tcs ((l.take k1).map zT ++ l.drop k1)) ∧ Below w.heap.size w (wr.setCell ⟨g, k * 4 + 3, none⟩ (.int .i64 0)) ∧ k1 = k + 1) := by
        refine ⟨⟨?_, .inr ⟨g, c1, cur.setIfInBounds (k * 4 + 3) (.int .i64 0), rfl, hB, Go.Joins.block_setCell hg _, hle, hm, by simpa using hs, ?_⟩⟩, HI.out.2.setCell (p := ⟨g, k * 4 + 3, none⟩) hB _, hk1⟩
        · rw [tcs_len]; simp; omega
        · rw [Array.toList_setIfInBounds, List.take_set, ht, tcs_zero l k hlt, hk1]
      generalize cur[k * 4 + 3] = old at *
      clear hg hs ht hm hle hcs hxl hll hk1
      go_wp2
      refine ⟨⟨k1, by rw [HE.out.2.2]; exact hlt, rfl, HE.out.1, HE.out.2.1⟩, ?_⟩
      have := HE.out.2.2
      simp [intOf]; omega
    · have hki : ¬ (k : Int) < (l.length : Int) := by omega
      have hke : k = l.length := by omega
      have HE : Hid (wr.ownsRow w.heap.size 30 4 (.slice ao1 l.length c1) l.length (tcs (l.map zT)) ∧ Below w.heap.size w wr) := by
        have := HI.out
        rw [hke, List.take_length, List.drop_length, List.append_nil] at this
        exact this
      clear hke
      go_wp2
      go_ret
      exact ⟨_, rfl, HE.out⟩

set_option maxHeartbeats 4000000 in
set_option maxRecDepth 100000 in
theorem sameTokens_any (B B' : Nat) (v v' : Value) (l : List Tk) (n n' : Nat) (w : World) (hn1 : n = l.length) (hn2 : n' = l.length) (h : w.ownsRow B 30 4 v n (tcs l)) (h' : w.ownsRow B' 30 4 v' n' (tcs l)) (hn : l.length ≤ 100000) :
    Calls Tryd.prog 9 #[v, v'] w fun e w' => e = .returned (.bool true) ∧ ∃ m, w' = w.drewN m := by
  subst hn1 hn2
  obtain ⟨ao, c, rfl⟩ := row_shape h
  obtain ⟨ao', c', rfl⟩ := row_shape h'
  have H : Hid (w.ownsRow B 30 4 (.slice ao l.length c) l.length (tcs l) ∧ w.ownsRow B' 30 4 (.slice ao' l.length c') l.length (tcs l)) := ⟨h, h'⟩
  clear h h'
  go_enter Tryd.func9, Tryd.ntmps9
  go_wp2
  go_loopw [5] (fun v wr => ∃ k : Nat, k ≤ l.length ∧ v = .int .i64 (k : Int) ∧ ∃ m, wr = w.drewN m) (fun v _ => l.length - (intOf v).toNat)
  case atStart => exact ⟨0, Nat.zero_le _, rfl, 0, rfl⟩
  case round =>
    obtain ⟨k, hk, rfl, m, rfl⟩ := hrel
    by_cases hlt : k < l.length
    · have hki : (k : Int) < (l.length : Int) := by omega
      obtain ⟨g, cap, hv, _, _⟩ := H.out.1.form (by omega)
      cases hv
      obtain ⟨g', cap', hv', _, _⟩ := H.out.2.form (by omega)
      cases hv'
      have hc : ∀ j, j < 4 → w.cell? ⟨g, k * 4 + j, none⟩ = (tc l[k])[j]? := fun j hj => (H.out.1.cellAt (k * 4 + j) (by omega)).trans (tcs_at l k hlt j hj)
      have hc' : ∀ j, j < 4 → w.cell? ⟨g', k * 4 + j, none⟩ = (tc l[k])[j]? := fun j hj => (H.out.2.cellAt (k * 4 + j) (by omega)).trans (tcs_at l k hlt j hj)
      have c0 : w.cell? ⟨g, k * 4, none⟩ = some (.int .i64 (l[k].kind : Int)) := hc 0 (by omega)
      have c1 : w.cell? ⟨g, k * 4 + 1, none⟩ = some (.string (mkB l[k].text)) := hc 1 (by omega)
      have c2 : w.cell? ⟨g, k * 4 + 2, none⟩ = some (.int .i64 (l[k].num : Int)) := hc 2 (by omega)
      have c3 : w.cell? ⟨g, k * 4 + 3, none⟩ = some (.int .i64 (l[k].pos : Int)) := hc 3 (by omega)
      have d0 : w.cell? ⟨g', k * 4, none⟩ = some (.int .i64 (l[k].kind : Int)) := hc' 0 (by omega)
      have d1 : w.cell? ⟨g', k * 4 + 1, none⟩ = some (.string (mkB l[k].text)) := hc' 1 (by omega)
      have d2 : w.cell? ⟨g', k * 4 + 2, none⟩ = some (.int .i64 (l[k].num : Int)) := hc' 2 (by omega)
      have d3 : w.cell? ⟨g', k * 4 + 3, none⟩ = some (.int .i64 (l[k].pos : Int)) := hc' 3 (by omega)
      obtain ⟨k1, hk1⟩ : ∃ k1, k1 = k + 1 := ⟨_, rfl⟩
      have hk2 : (k : Int) + 1 = (k1 : Int) := by omega
      have hw2 : IntKind.i64.wrap (k1 : Int) = (k1 : Int) := by rw [IntKind.wrap_i64]; omega
      have HK : Hid (k1 = k + 1) := hk1
      generalize mkB l[k].text = x1 at *
      generalize (l[k].kind : Int) = x0 at *
      generalize (l[k].num : Int) = x2 at *
      generalize (l[k].pos : Int) = x3 at *
      clear hc hc' hk1
      go_wp2
      go_quiet (fail)
      go_wp2
      refine ⟨⟨k1, by rw [HK.out]; exact hlt, rfl, m + nq, rfl⟩, ?_⟩
      have := HK.out
      simp [intOf]; omega
    · have hki : ¬ (k : Int) < (l.length : Int) := by omega
      go_wp2
      go_ret
      exact ⟨rfl, m, rfl⟩
end Go.Proofs.YtdfimmekhbkglaaDoor
