/- One thing is deleted from a row. -/
import Derived.Test.YtfddhdpnoliamaaQuG
namespace Go.Proofs.Ytfddhdpnoliamaa
open Go.RowKit Go.Shelf

theorem run_clear_one {P : Program} (w : World) (t e ty : TypeId) (z : Value) (ht : P.underlying t = some (.slice e)) (hv : ∀ w, (zeroValue e).run P w = .ok z w) (b o c : Nat) (cur : Array Value) (e' : TypeId) (hg : w.heap[b]? = some (.cells cur e' (0, 0)))
    (hfit : o + z.cells.size ≤ cur.size) (h1 : ∀ v ∈ z.cells.toList, v.oneCell' = true) :
    (Builtin.clear_ #[t] ty #[.slice (some ⟨b, o, none⟩) 1 c]).run P w = .ok (.tuple #[]) (w.setRow b (cur.toList.take o ++ z.cells.toList ++ cur.toList.drop (o + z.cells.size)).toArray) := by
  have hz : (Builtin.zeroCells z.cells 1).toList = z.cells.toList := by
    apply List.ext_getElem
    · simp [Builtin.zeroCells]
    · intro i h1 h2
      have h3 : i < z.cells.size := by simpa using h2
      simp [Builtin.zeroCells, Nat.mod_eq_of_lt h3, getElem!_pos z.cells i h3]
  have hst := run_storeCells_at P b o e' z.cells.toList 0 cur w hg (by simpa using hfit) h1
  simp only [Nat.add_zero, Array.length_toList] at hst
  simp [Builtin.clear_, run_underlying ht, hv, hz, hst]

theorem setCells_row (g : Nat) (t : TypeId) : ∀ (vs : List Value) (o : Nat) (cur : Array Value) (w : World), w.heap[g]? = some (.cells cur t (0, 0)) → o + vs.length ≤ cur.size →
    w.setCells g o vs = w.setRow g (cur.toList.take o ++ vs ++ cur.toList.drop (o + vs.length)).toArray
  | [], o, cur, w, hg, _ => by
    simp only [World.setCells, List.append_nil, List.length_nil, Nat.add_zero, List.take_append_drop, Array.toArray_toList]
    rw [setRow_self w g cur t (0, 0) hg]
  | v :: r, o, cur, w, hg, hl => by
    have ho : o < cur.size := by simp at hl; omega
    have e1 : w.setCell ⟨g, o, none⟩ v = w.setRow g (cur.setIfInBounds o v) := setCell_eq_setRow w g o cur t (0, 0) v hg
    have ih := setCells_row g t r (o + 1) (cur.setIfInBounds o v) (w.setRow g (cur.setIfInBounds o v)) (setRow_heap w g cur _ t _ hg) (by simp at hl ⊢; omega)
    rw [World.setCells, e1, ih, setRow_setRow]
    congr 2
    have e := list_seg_step cur.toList o v r (by simp at hl ⊢; omega)
    simpa [Array.toList_setIfInBounds, Nat.add_assoc] using e

theorem upd_row {w : World} {g : Nat} (a : Array Value) : Upd [g] [g] w (w.setRow g a) :=
  ⟨rfl, rfl, rfl, by simp, fun k _ hk => setRow_other w g k a (by simpa using hk), fun _ h => .inl h⟩

/-- What stands in a row when one thing is gone. -/
theorem del_list (l news z : List Value) (s i n : Nat) (hi : i < n) (hl : n * s ≤ l.length) (hn : news = (l.take (n * s)).drop ((i + 1) * s)) (hz : z.length = s) :
    ((l.take (i * s) ++ news ++ l.drop (i * s + news.length)).take ((n - 1) * s) ++ z ++ (l.take (i * s) ++ news ++ l.drop (i * s + news.length)).drop ((n - 1) * s + s)).take ((n - 1) * s) = l.take (i * s) ++ (l.take (n * s)).drop ((i + 1) * s) := by
  have e1 : (i + 1) * s ≤ n * s := Nat.mul_le_mul_right _ (by omega)
  have e2 : (i + 1) * s = i * s + s := Nat.succ_mul _ _
  have e3 : n * s = (n - 1) * s + s := by rw [← Nat.succ_mul]; congr 1; omega
  have hnl : news.length = n * s - (i + 1) * s := by rw [hn, List.length_drop, List.length_take, Nat.min_eq_left hl]
  have hA : (l.take (i * s) ++ news).length = (n - 1) * s := by rw [List.length_append, List.length_take, Nat.min_eq_left (by omega), hnl]; omega
  rw [List.append_assoc, List.take_append_of_le_length (by rw [List.length_take, List.length_append, List.length_append, List.length_take, List.length_drop, Nat.min_eq_left (by omega : i * s ≤ l.length)]; omega)]
  rw [List.take_take, Nat.min_self, List.take_append_of_le_length (by omega), List.take_of_length_le (by omega), hn]

set_option maxHeartbeats 4000000 in
set_option maxRecDepth 100000 in
theorem delJ_any (g cap n i : Nat) (cur : Array Value) (w : World) (hg : w.heap[g]? = some (.cells cur 34 (0, 0))) (hc : cur.size = cap * 3) (hn : n ≤ cap) (hi : i < n) (one : ∀ u ∈ cur.toList.take (n * 3), u.oneCell' = true) :
    Calls Try.prog 40 #[.slice (some ⟨g, 0, none⟩) n cap, .int .i64 (i : Int), .int .i64 ((i + 1 : Nat) : Int)] w fun e w' => e = .returned (.slice (some ⟨g, 0, none⟩) (n - 1) cap) ∧ (∃ cur', w'.heap[g]? = some (.cells cur' 34 (0, 0)) ∧ cur'.size = cur.size ∧ cur'.toList.take ((n - 1) * 3) = cur.toList.take (i * 3) ++ (cur.toList.take (n * 3)).drop ((i + 1) * 3)) ∧ Upd [g] [g] w w' := by
  obtain ⟨i0, hi0, hz1⟩ : ∃ i0, Try.prog.info? 34 = some i0 ∧ i0.size = 3 := by
    have h : (Try.prog.info? 34).map (fun i => i.size) = some 3 := by kernel_rfl
    cases hq : Try.prog.info? 34 with
    | none => rw [hq] at h; cases h
    | some i0 => rw [hq] at h; exact ⟨i0, rfl, Option.some.inj h⟩
  have hcl : cur.toList.length = cap * 3 := by rw [Array.length_toList]; exact hc
  obtain ⟨news, hnews⟩ : ∃ news, news = (cur.toList.take (n * 3)).drop ((i + 1) * 3) := ⟨_, rfl⟩
  have hnl : news.length = (n - (i + 1)) * 3 := by rw [hnews, List.length_drop, List.length_take, Nat.min_eq_left (by omega)]; omega
  have hone : ∀ u ∈ news, u.oneCell' = true := fun u hu => one u (List.mem_of_mem_drop (by rw [hnews] at hu; exact hu))
  have hcell : ∀ (j : Nat) (u : Value), news[j]? = some u → w.cell? ⟨g, (i + 1) * 3 + j, none⟩ = some u := by
    intro j u hu
    have hj := (List.getElem?_eq_some_iff.1 hu).1
    rw [hnews, List.getElem?_drop, List.getElem?_take] at hu
    split at hu
    · rw [Lib.cell_of_heap hg]
      simpa using hu
    · cases hu
  obtain ⟨A, hA, hsrc⟩ : ∃ A : Addr, (if cap = i + 1 then some (⟨g, 0, none⟩ : Addr) else some ⟨g, (i + 1) * 3, none⟩) = some A ∧ ∀ j u, news[j]? = some u → w.drew.cell? (A.add j) = some u := by
    by_cases h : cap = i + 1
    · refine ⟨⟨g, 0, none⟩, by simp [h], fun j u hu => ?_⟩
      have h0 : news.length = 0 := by rw [hnl]; have : n - (i + 1) = 0 := by omega
                                      rw [this, Nat.zero_mul]
      rw [List.length_eq_zero_iff.1 h0] at hu
      simp at hu
    · refine ⟨⟨g, (i + 1) * 3, none⟩, by simp [h], fun j u hu => ?_⟩
      rw [Addr.add_lit]
      exact hcell j u hu
  obtain ⟨c1, hc1⟩ : ∃ c1, c1 = (cur.toList.take (i * 3) ++ news ++ cur.toList.drop (i * 3 + news.length)).toArray := ⟨_, rfl⟩
  have hs1 : c1.size = cur.size := by rw [hc1]; simp [hnl, hc]; omega
  have HW : Hid (w.drew.setCells g (0 + i * 3) news = w.drew.setRow g c1) := by
    have := setCells_row g 34 news (i * 3) cur w.drew hg (by rw [hnl, hc]; omega)
    rw [Nat.zero_add]
    show _ = _
    rw [this, hc1]
  have HS : Hid (news.length = (n - (i + 1)) * 3 ∧ (∀ j u, news[j]? = some u → w.drew.cell? (A.add j) = some u) ∧ (∀ u ∈ news, u.oneCell' = true) ∧ i + (n - (i + 1)) ≤ cap ∧ (∀ j, j < news.length → (w.drew.cell? ⟨g, 0 + i * 3 + j, none⟩).isSome = true ∧ w.drew.frozen? ⟨g, 0 + i * 3 + j, none⟩ = false)) := by
    refine ⟨hnl, hsrc, hone, by omega, fun j hj => ⟨?_, Lib.frozen_of_heap (w := w.drew) hg _⟩⟩
    rw [Lib.cell_of_heap (w := w.drew) hg, Array.getElem?_eq_getElem (by rw [hc]; rw [hnl] at hj; omega)]
    rfl
  have hg1 : (w.drew.setRow g c1).heap[g]? = some (.cells c1 34 (0, 0)) := setRow_heap w.drew g cur c1 _ _ hg
  obtain ⟨c2, hc2⟩ : ∃ c2, c2 = (c1.toList.take ((n - 1) * 3) ++ ([.int .i64 0, .string ⟨#[]⟩, .int .i64 0] : List Value) ++ c1.toList.drop ((n - 1) * 3 + 3)).toArray := ⟨_, rfl⟩
  have hs2 : c2.size = cur.size := by rw [hc2]; simp [hs1, hc]; omega
  have hcr : ∀ ty, (Builtin.clear_ #[30] ty #[.slice (some ⟨g, (n - 1) * 3, none⟩) 1 (cap - (n - 1))]).run Try.prog (w.drew.setRow g c1) = .ok (.tuple #[]) ((w.drew.setRow g c1).setRow g c2) := by
    intro ty
    have := run_clear_one (P := Try.prog) (w.drew.setRow g c1) 30 34 ty (.agg #[.int .i64 0, .string ⟨#[]⟩, .int .i64 0]) Try.underlying30 Try.zeroValue34 g ((n - 1) * 3) (cap - (n - 1)) c1 34 hg1 (by show _ + 3 ≤ _; rw [hs1, hc]; omega) (by decide)
    rw [this, hc2]
    rfl
  have HE : Hid (((w.drew.setRow g c1).setRow g c2).heap[g]? = some (.cells c2 34 (0, 0)) ∧ c2.size = cur.size ∧ c2.toList.take ((n - 1) * 3) = cur.toList.take (i * 3) ++ (cur.toList.take (n * 3)).drop ((i + 1) * 3)) := by
    refine ⟨setRow_heap _ g c1 c2 _ _ hg1, hs2, ?_⟩
    rw [hc2, hc1]
    have := del_list cur.toList news [.int .i64 0, .string ⟨#[]⟩, .int .i64 0] 3 i n hi (by rw [hcl]; omega) hnews rfl
    simpa using this
  have HU : Hid (Upd [g] [g] w ((w.drew.setRow g c1).setRow g c2)) := by
    have a : Upd [g] [g] w w.drew := (Upd.refl [g] w).drewN 1
    exact a.trans ((upd_row c1).trans (upd_row c2))
  have k1 : (i : Int) ≤ ((i + 1 : Nat) : Int) := by omega
  have k2 : ((i + 1 : Nat) : Int) ≤ (n : Int) := by omega
  have k3 : (n : Int) ≤ (cap : Int) := by omega
  have k4 : ¬ (i : Int) = ((i + 1 : Nat) : Int) := by omega
  have k5 : ((i : Int) == ((i + 1 : Nat) : Int)) = false := by simpa using k4
  obtain ⟨i1, hi1⟩ : ∃ i1, i1 = i + 1 := ⟨_, rfl⟩
  obtain ⟨n1, hn1⟩ : ∃ n1, n1 = n - 1 := ⟨_, rfl⟩
  have HI : Hid (i + (n - i1) = n - 1) := by show _ = _; omega
  rw [← hi1] at HS HE hA k1 k2 k4 k5 ⊢
  rw [← hn1] at HI hcr ⊢
  have k6 : (n1 : Int) ≤ (n : Int) := by omega
  have k7 : i ≤ cap := by omega
  have k8 : i1 ≤ cap := by omega
  have k9 : n1 ≤ cap := by omega
  have k10 : n1 ≤ n := by omega
  have k11 : n - n1 = 1 := by omega
  have k12 : i ≤ i1 := by omega
  have k13 : i1 ≤ n := by omega
  have k14 : ¬ cap = n1 := by omega
  rw [← hn1] at HE
  generalize w.drew.setRow g c1 = W1 at *
  generalize W1.setRow g c2 = W2 at *
  clear hg hc hn hi one hcl hnews hnl hone hcell hsrc hs1 hc1 hc2 hs2 hg1 hi1 hn1
  have HI0 : Hid (Try.prog.info? 34 = some i0 ∧ i0.size = 3) := ⟨hi0, hz1⟩
  clear hi0 hz1
  try simp only [Nat.mul_one] at hA hcr
  go_enter Try.func40, Try.ntmps40
  go_wp2
  go_region_law (first
      | (refine step_append_room rfl (.tmp 22) (.tmp 25) 30 rfl 34 i0 3 Try.underlying30 HI0.out.1 HI0.out.2 g 0 i cap (by simp [Act.eval, Act.put]) A (n - i1) (cap - i1) news (by simp [Act.eval, Act.put]) HS.out.1 HS.out.2.1 HS.out.2.2.1 HS.out.2.2.2.1 HS.out.2.2.2.2 ?_; rw [HW.out, HI.out])
      | fail)
  all_goals
    go_wp2
    go_ret
    exact ⟨rfl, ⟨c2, HE.out⟩, HU.out⟩

set_option maxHeartbeats 4000000 in
set_option maxRecDepth 100000 in
theorem delT_any (g cap n i : Nat) (cur : Array Value) (w : World) (hg : w.heap[g]? = some (.cells cur 64 (0, 0))) (hc : cur.size = cap * 1) (hn : n ≤ cap) (hi : i < n) (one : ∀ u ∈ cur.toList.take (n * 1), u.oneCell' = true) :
    Calls Try.prog 41 #[.slice (some ⟨g, 0, none⟩) n cap, .int .i64 (i : Int), .int .i64 ((i + 1 : Nat) : Int)] w fun e w' => e = .returned (.slice (some ⟨g, 0, none⟩) (n - 1) cap) ∧ (∃ cur', w'.heap[g]? = some (.cells cur' 64 (0, 0)) ∧ cur'.size = cur.size ∧ cur'.toList.take ((n - 1) * 1) = cur.toList.take (i * 1) ++ (cur.toList.take (n * 1)).drop ((i + 1) * 1)) ∧ Upd [g] [g] w w' := by
  obtain ⟨i0, hi0, hz1⟩ : ∃ i0, Try.prog.info? 64 = some i0 ∧ i0.size = 1 := by
    have h : (Try.prog.info? 64).map (fun i => i.size) = some 1 := by kernel_rfl
    cases hq : Try.prog.info? 64 with
    | none => rw [hq] at h; cases h
    | some i0 => rw [hq] at h; exact ⟨i0, rfl, Option.some.inj h⟩
  have hcl : cur.toList.length = cap * 1 := by rw [Array.length_toList]; exact hc
  obtain ⟨news, hnews⟩ : ∃ news, news = (cur.toList.take (n * 1)).drop ((i + 1) * 1) := ⟨_, rfl⟩
  have hnl : news.length = (n - (i + 1)) * 1 := by rw [hnews, List.length_drop, List.length_take, Nat.min_eq_left (by omega)]; omega
  have hone : ∀ u ∈ news, u.oneCell' = true := fun u hu => one u (List.mem_of_mem_drop (by rw [hnews] at hu; exact hu))
  have hcell : ∀ (j : Nat) (u : Value), news[j]? = some u → w.cell? ⟨g, (i + 1) * 1 + j, none⟩ = some u := by
    intro j u hu
    have hj := (List.getElem?_eq_some_iff.1 hu).1
    rw [hnews, List.getElem?_drop, List.getElem?_take] at hu
    split at hu
    · rw [Lib.cell_of_heap hg]
      simpa using hu
    · cases hu
  obtain ⟨A, hA, hsrc⟩ : ∃ A : Addr, (if cap = i + 1 then some (⟨g, 0, none⟩ : Addr) else some ⟨g, (i + 1) * 1, none⟩) = some A ∧ ∀ j u, news[j]? = some u → w.drew.cell? (A.add j) = some u := by
    by_cases h : cap = i + 1
    · refine ⟨⟨g, 0, none⟩, by simp [h], fun j u hu => ?_⟩
      have h0 : news.length = 0 := by rw [hnl]; have : n - (i + 1) = 0 := by omega
                                      rw [this, Nat.zero_mul]
      rw [List.length_eq_zero_iff.1 h0] at hu
      simp at hu
    · refine ⟨⟨g, (i + 1) * 1, none⟩, by simp [h], fun j u hu => ?_⟩
      rw [Addr.add_lit]
      exact hcell j u hu
  obtain ⟨c1, hc1⟩ : ∃ c1, c1 = (cur.toList.take (i * 1) ++ news ++ cur.toList.drop (i * 1 + news.length)).toArray := ⟨_, rfl⟩
  have hs1 : c1.size = cur.size := by rw [hc1]; simp [hnl, hc]; omega
  have HW : Hid (w.drew.setCells g (0 + i * 1) news = w.drew.setRow g c1) := by
    have := setCells_row g 64 news (i * 1) cur w.drew hg (by rw [hnl, hc]; omega)
    rw [Nat.zero_add]
    show _ = _
    rw [this, hc1]
  have HS : Hid (news.length = (n - (i + 1)) * 1 ∧ (∀ j u, news[j]? = some u → w.drew.cell? (A.add j) = some u) ∧ (∀ u ∈ news, u.oneCell' = true) ∧ i + (n - (i + 1)) ≤ cap ∧ (∀ j, j < news.length → (w.drew.cell? ⟨g, 0 + i * 1 + j, none⟩).isSome = true ∧ w.drew.frozen? ⟨g, 0 + i * 1 + j, none⟩ = false)) := by
    refine ⟨hnl, hsrc, hone, by omega, fun j hj => ⟨?_, Lib.frozen_of_heap (w := w.drew) hg _⟩⟩
    rw [Lib.cell_of_heap (w := w.drew) hg, Array.getElem?_eq_getElem (by rw [hc]; rw [hnl] at hj; omega)]
    rfl
  have hg1 : (w.drew.setRow g c1).heap[g]? = some (.cells c1 64 (0, 0)) := setRow_heap w.drew g cur c1 _ _ hg
  obtain ⟨c2, hc2⟩ : ∃ c2, c2 = (c1.toList.take ((n - 1) * 1) ++ ([.pointer none] : List Value) ++ c1.toList.drop ((n - 1) * 1 + 1)).toArray := ⟨_, rfl⟩
  have hs2 : c2.size = cur.size := by rw [hc2]; simp [hs1, hc]; omega
  have hcr : ∀ ty, (Builtin.clear_ #[54] ty #[.slice (some ⟨g, (n - 1) * 1, none⟩) 1 (cap - (n - 1))]).run Try.prog (w.drew.setRow g c1) = .ok (.tuple #[]) ((w.drew.setRow g c1).setRow g c2) := by
    intro ty
    have := run_clear_one (P := Try.prog) (w.drew.setRow g c1) 54 64 ty (.pointer none) Try.underlying54 Try.zeroValue64 g ((n - 1) * 1) (cap - (n - 1)) c1 64 hg1 (by show _ + 1 ≤ _; rw [hs1, hc]; omega) (by decide)
    rw [this, hc2]
    rfl
  have HE : Hid (((w.drew.setRow g c1).setRow g c2).heap[g]? = some (.cells c2 64 (0, 0)) ∧ c2.size = cur.size ∧ c2.toList.take ((n - 1) * 1) = cur.toList.take (i * 1) ++ (cur.toList.take (n * 1)).drop ((i + 1) * 1)) := by
    refine ⟨setRow_heap _ g c1 c2 _ _ hg1, hs2, ?_⟩
    rw [hc2, hc1]
    have := del_list cur.toList news [.pointer none] 1 i n hi (by rw [hcl]; omega) hnews rfl
    simpa using this
  have HU : Hid (Upd [g] [g] w ((w.drew.setRow g c1).setRow g c2)) := by
    have a : Upd [g] [g] w w.drew := (Upd.refl [g] w).drewN 1
    exact a.trans ((upd_row c1).trans (upd_row c2))
  have k1 : (i : Int) ≤ ((i + 1 : Nat) : Int) := by omega
  have k2 : ((i + 1 : Nat) : Int) ≤ (n : Int) := by omega
  have k3 : (n : Int) ≤ (cap : Int) := by omega
  have k4 : ¬ (i : Int) = ((i + 1 : Nat) : Int) := by omega
  have k5 : ((i : Int) == ((i + 1 : Nat) : Int)) = false := by simpa using k4
  obtain ⟨i1, hi1⟩ : ∃ i1, i1 = i + 1 := ⟨_, rfl⟩
  obtain ⟨n1, hn1⟩ : ∃ n1, n1 = n - 1 := ⟨_, rfl⟩
  have HI : Hid (i + (n - i1) = n - 1) := by show _ = _; omega
  rw [← hi1] at HS HE hA k1 k2 k4 k5 ⊢
  rw [← hn1] at HI hcr ⊢
  have k6 : (n1 : Int) ≤ (n : Int) := by omega
  have k7 : i ≤ cap := by omega
  have k8 : i1 ≤ cap := by omega
  have k9 : n1 ≤ cap := by omega
  have k10 : n1 ≤ n := by omega
  have k11 : n - n1 = 1 := by omega
  have k12 : i ≤ i1 := by omega
  have k13 : i1 ≤ n := by omega
  have k14 : ¬ cap = n1 := by omega
  rw [← hn1] at HE
  generalize w.drew.setRow g c1 = W1 at *
  generalize W1.setRow g c2 = W2 at *
  clear hg hc hn hi one hcl hnews hnl hone hcell hsrc hs1 hc1 hc2 hs2 hg1 hi1 hn1
  have HI0 : Hid (Try.prog.info? 64 = some i0 ∧ i0.size = 1) := ⟨hi0, hz1⟩
  clear hi0 hz1
  try simp only [Nat.mul_one] at hA hcr
  go_enter Try.func41, Try.ntmps41
  go_wp2
  go_region_law (first
      | (refine step_append_room rfl (.tmp 22) (.tmp 25) 54 rfl 64 i0 1 Try.underlying54 HI0.out.1 HI0.out.2 g 0 i cap (by simp [Act.eval, Act.put]) A (n - i1) (cap - i1) news (by simp [Act.eval, Act.put]) HS.out.1 HS.out.2.1 HS.out.2.2.1 HS.out.2.2.2.1 HS.out.2.2.2.2 ?_; rw [HW.out, HI.out])
      | fail)
  all_goals
    go_wp2
    go_ret
    exact ⟨rfl, ⟨c2, HE.out⟩, HU.out⟩
end Go.Proofs.Ytfddhdpnoliamaa
