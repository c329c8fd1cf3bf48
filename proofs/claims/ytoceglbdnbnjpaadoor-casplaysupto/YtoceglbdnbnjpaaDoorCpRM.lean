/- Rows of one's own, or slices that are full. -/
import Derived.Test.YtoceglbdnbnjpaaDoorTq6
import Derived.ArgAppend
namespace Go.Proofs.YtoceglbdnbnjpaaDoor
open Go.RowKit Go.Shelf

theorem own_heapL {w w' : World} {base : Nat} {e : TypeId} {size : Nat} {v : Value} {n : Nat} {xs : List Value} (h : w.ownsRow base e size v n xs) (hh : ∀ g, v.ownBlock = some g → w'.heap[g]? = w.heap[g]?) : w'.ownsRow base e size v n xs := by
  refine ⟨h.1, ?_⟩
  rcases h.2 with hn | ⟨g, cap, cur, rfl, hb, hgg, rest⟩
  · exact .inl hn
  · exact .inr ⟨g, cap, cur, rfl, hb, (hh g rfl).trans hgg, rest⟩

theorem row_shape {w : World} {base : Nat} {e : TypeId} {size : Nat} {v : Value} {n : Nat} {xs : List Value} (h : w.ownsRow base e size v n xs) : ∃ ao cap, v = .slice ao n cap := by
  rcases h.2 with ⟨rfl, rfl⟩ | ⟨g, cap, cur, rfl, _⟩
  · exact ⟨_, _, rfl⟩
  · exact ⟨_, _, rfl⟩

theorem nodup_swap {A X X' C : List Nat} {N : Nat} (h : (A ++ (X ++ C)).Nodup) (hl : ∀ g ∈ A ++ (X ++ C), g < N) (hX : X'.Nodup) (hn : ∀ g ∈ X', g ∈ X ∨ N ≤ g) : (A ++ (X' ++ C)).Nodup := by
  rw [List.nodup_append] at h ⊢
  obtain ⟨h1, h2, h3⟩ := h
  rw [List.nodup_append] at h2
  obtain ⟨h4, h5, h6⟩ := h2
  refine ⟨h1, List.nodup_append.2 ⟨hX, h5, fun x hx y hy e => ?_⟩, fun x hx y hy e => ?_⟩
  · subst e
    rcases hn x hx with e | e
    · exact h6 x e x hy rfl
    · have := hl x (by simp [hy]); omega
  · subst e
    rcases List.mem_append.1 hy with hy | hy
    · rcases hn x hy with e | e
      · exact h3 x hx x (by simp [e]) rfl
      · have := hl x (by simp [hx]); omega
    · exact h3 x hx x (by simp [hy]) rfl

theorem Upd.set {I : List Nat} (w : World) (a : Addr) (v : Value) (ha : a.block ∈ I) : Upd I I w (w.setCell a v) :=
  ⟨rfl, rfl, rfl, by simp [World.setCell], fun g _ hg => Below.heap_setCell w a v g (fun e => hg (e ▸ ha)), fun _ h => .inl h⟩

theorem add0 (g j : Nat) : (⟨g, 0, none⟩ : Addr).add j = ⟨g, j, none⟩ := by
  unfold Addr.add
  split <;> simp_all
theorem heap_al (w : World) (o : Obj) (g : Nat) (hg : g < w.heap.size) : (w.alloc o).heap[g]? = w.heap[g]? := ((Below.refl w.heap.size w).alloc (Nat.le_refl _) o).block g hg
/-- Appending, shut: the walk is not to look into it. -/
def appS (ats : Array TypeId) (ty : TypeId) (args : Array Value) : Sem Value := Builtin.append_ ats ty args
theorem appS_eq (ats : Array TypeId) (ty : TypeId) (args : Array Value) : Builtin.append_ ats ty args = appS ats ty args := rfl
def ob (v : Value) : List Nat := v.ownBlock.toList
theorem mem_ob {v : Value} {g : Nat} : g ∈ ob v ↔ v.ownBlock = some g := by unfold ob; cases v.ownBlock <;> simp [eq_comm]

/-- A row of one's own, or a slice that is full over the head of a block of one's own. -/
def RowL (W : World) (B : Nat) (e : TypeId) (sz : Nat) (v : Value) (n : Nat) (xs : List Value) : Prop :=
  W.ownsRow B e sz v n xs ∨ (∃ g cur, v = .slice (some ⟨g, 0, none⟩) n n ∧ B ≤ g ∧ W.heap[g]? = some (.cells cur e (0, 0)) ∧ n ≤ maxLen ∧ xs.length = n * sz ∧ cur.toList.take (n * sz) = xs)

section
variable {W W' : World} {B : Nat} {e : TypeId} {sz : Nat} {v : Value} {n : Nat} {xs : List Value}
theorem RowL.len (h : RowL W B e sz v n xs) : xs.length = n * sz := by
  rcases h with h | ⟨g, cur, _, _, _, _, h, _⟩
  · exact h.1
  · exact h
theorem RowL.shape (h : RowL W B e sz v n xs) : ∃ ao c, v = .slice ao n c := by
  rcases h with h | ⟨g, cur, h, _⟩
  · exact row_shape h
  · exact ⟨_, _, h⟩
theorem RowL.keep (h : RowL W B e sz v n xs) (hh : ∀ g, v.ownBlock = some g → W'.heap[g]? = W.heap[g]?) : RowL W' B e sz v n xs := by
  rcases h with h | ⟨g, cur, hv, h2, h3, h4⟩
  · exact .inl (own_heapL h hh)
  · refine .inr ⟨g, cur, hv, h2, ?_, h4⟩
    rw [hh g (by rw [hv]; rfl)]
    exact h3
theorem RowL.lt (h : RowL W B e sz v n xs) : ∀ g, v.ownBlock = some g → B ≤ g ∧ g < W.heap.size := by
  rcases h with h | ⟨g, cur, hv, h2, h3, h4⟩
  · exact h.lt
  · intro k hk
    rw [hv] at hk
    simp [Value.ownBlock] at hk
    subst hk
    exact ⟨h2, (Array.getElem?_eq_some_iff.1 h3).1⟩
/-- Where its cells are. -/
theorem RowL.form (h : RowL W B e sz v n xs) (hn : 0 < n) : ∃ g cap, v = .slice (some ⟨g, 0, none⟩) n cap ∧ n ≤ cap ∧ ∀ j, j < n * sz → W.cell? ⟨g, j, none⟩ = xs[j]? := by
  rcases h with h | ⟨g, cur, hv, h2, h3, h4, h5, h6⟩
  · rcases h.2 with ⟨_, e0⟩ | ⟨g, cap, cur, hv, h2, h3, h4, h5, h6, h7⟩
    · omega
    · exact ⟨g, cap, hv, h4, fun j hj => by rw [Lib.cell_of_heap h3, ← h7, List.getElem?_take_of_lt hj]; simp⟩
  · exact ⟨g, n, hv, Nat.le_refl _, fun j hj => by rw [Lib.cell_of_heap h3, ← h6, List.getElem?_take_of_lt hj]; simp⟩
end

/-- A slice that is full is appended to: a new row of one's own. -/
theorem append_full {P : Program} (w : World) (base : Nat) (t ty e : TypeId) (i : TypeInfo) (z : Value) (size bytes : Nat) (ht : P.underlying t = some (.slice e)) (hi : P.info? e = some i) (hz : i.zero = some z)
    (hsize : i.size = size) (hby : i.bytes = bytes) (hzs : z.cells.size = size)
    (b : Addr) (n k : Nat) (xs : List Value) (hxl : xs.length = n * size) (holds : ∀ j u, xs[j]? = some u → w.cell? (b.add j) = some u)
    (a : Addr) (m c : Nat) (news : List Value) (hl : news.length = m * size) (hnews : ∀ j u, news[j]? = some u → w.cell? (a.add j) = some u)
    (hfull : k < n + m) (h63 : n + m ≤ maxLen) (hbytes : (n + m) * bytes ≤ 140737488355328) (hbase : base ≤ w.heap.size) :
    ∃ cap w', (Builtin.append_ #[t, t] ty #[.slice (some b) n k, .slice (some a) m c]).run P w = .ok (.slice (some ⟨w.heap.size, 0, none⟩) (n + m) cap) w' ∧
      w'.ownsRow base e size (.slice (some ⟨w.heap.size, 0, none⟩) (n + m) cap) (n + m) (xs ++ news) ∧ w.grownBy w' none := by
  subst hsize
  subst hby
  have hs : n + m ≤ 9223372036854775807 := by simp only [maxLen] at h63; omega
  have hlen : (xs ++ news).length = (n + m) * i.size := by rw [List.length_append, hxl, hl, Nat.add_mul]
  have hge := grownCap_ge w (n + m) k e
  have hcm := grownCap_le_maxLen w (n + m) k e h63
  refine ⟨_, _, run_append_grow (P := P) w t ty e i z ht hi hz b n k xs hxl holds a m c news hl hnews hfull (by omega) (growslice_fits (by omega) hbytes), ⟨hlen, .inr ⟨w.heap.size, _, _, rfl, hbase, heap_alloc_new w.drew _, hge, hcm, ?_, ?_⟩⟩, ⟨rfl, rfl, rfl, by simp, fun g hg _ => heap_al w.drew _ g hg⟩⟩
  · simp only [Array.size_append, List.size_toArray, size_zeroCells, hzs, hxl, hl, ← Nat.add_mul]
    congr 1
    omega
  · simp only [Array.toList_append, List.append_assoc]
    rw [← List.append_assoc, ← hlen]
    exact List.take_left

/-- One row is appended to, whatever it is. -/
theorem RowL.app {P : Program} {w : World} {base : Nat} {e : TypeId} {size : Nat} {v : Value} {n : Nat} {xs : List Value} (h : RowL w base e size v n xs) (t ty : TypeId) (i : TypeInfo) (z : Value) (bytes : Nat) (ht : P.underlying t = some (.slice e)) (hi : P.info? e = some i) (hz : i.zero = some z)
    (hsize : i.size = size) (hby : i.bytes = bytes) (hzs : z.cells.size = size) (hsz : 0 < size)
    (a : Addr) (m c : Nat) (news : List Value) (hl : news.length = m * size) (hnews : ∀ j u, news[j]? = some u → w.cell? (a.add j) = some u) (h1 : ∀ u ∈ news, u.oneCell' = true)
    (hm : 0 < m) (h63 : n + m ≤ maxLen) (hbytes : (n + m) * bytes ≤ 140737488355328) (hbase : base ≤ w.heap.size) :
    ∃ g cap w', (Builtin.append_ #[t, t] ty #[v, .slice (some a) m c]).run P w = .ok (.slice (some ⟨g, 0, none⟩) (n + m) cap) w' ∧
      w'.ownsRow base e size (.slice (some ⟨g, 0, none⟩) (n + m) cap) (n + m) (xs ++ news) ∧ w.grownBy w' v.ownBlock ∧ (v.ownBlock = some g ∨ g = w.heap.size) := by
  rcases h with h | ⟨g, cur, rfl, h2, h3, h4, h5, h6⟩
  · obtain ⟨g, cap, w', a1, a2, a3, a4, _⟩ := run_append_lies (P := P) w t ty base e i z size bytes ht hi hz hsize hby hzs hsz v n xs h a m c news hl hnews h1 hm h63 hbytes hbase w.heap.size rfl
    exact ⟨g, cap, w', a1, a2, a3, a4⟩
  · have holds : ∀ j u, xs[j]? = some u → w.cell? ((⟨g, 0, none⟩ : Addr).add j) = some u := fun j u hu => by
      have hj : j < n * size := by rw [← h5]; exact (List.getElem?_eq_some_iff.1 hu).1
      rw [add0, Lib.cell_of_heap h3, ← hu, ← h6, List.getElem?_take_of_lt hj]
      simp
    obtain ⟨cap, w', a1, a2, a3⟩ := append_full (P := P) w base t ty e i z size bytes ht hi hz hsize hby hzs ⟨g, 0, none⟩ n n xs h5 holds a m c news hl hnews (by omega) h63 hbytes hbase
    exact ⟨w.heap.size, cap, w', a1, a2, ⟨a3.os, a3.tape, a3.output, a3.size, fun k hk _ => a3.block k hk (by simp)⟩, .inr rfl⟩
theorem addO (g o j : Nat) : (⟨g, o, none⟩ : Addr).add j = ⟨g, o + j, none⟩ := by
  unfold Addr.add
  split <;> simp_all

theorem app_none {P : Program} (w : World) (t ty e : TypeId) (i : TypeInfo) (ht : P.underlying t = some (.slice e)) (hi : P.info? e = some i) (b a : Addr) (n c : Nat) :
    (Builtin.append_ #[t, t] ty #[.slice (some b) n n, .slice (some a) 0 c]).run P w = .ok (.slice (some b) n n) w := by
  simp [Builtin.append_, run_underlying ht, sizeOf, typeInfo, hi, Builtin.lenOf, Builtin.firstCells, loadCells, loadCellsFrom, storeCells]

/-- The block in which a row lies, and what it holds. -/
theorem RowL.at {W : World} {B : Nat} {e : TypeId} {sz : Nat} {v : Value} {n : Nat} {xs : List Value} (h : RowL W B e sz v n xs) (hn : 0 < n) : ∃ g cap cur, v = .slice (some ⟨g, 0, none⟩) n cap ∧ n ≤ cap ∧ B ≤ g ∧ n ≤ maxLen ∧ W.heap[g]? = some (.cells cur e (0, 0)) ∧ cur.toList.take (n * sz) = xs := by
  rcases h with h | ⟨g, cur, hv, h2, h3, h4, h5, h6⟩
  · rcases h.2 with ⟨_, e0⟩ | ⟨g, cap, cur, hv, h2, h3, h4, h5, h6, h7⟩
    · omega
    · exact ⟨g, cap, cur, hv, h4, h2, Nat.le_trans h4 h5, h3, h7⟩
  · exact ⟨g, n, cur, hv, Nat.le_refl _, h2, h4, h3, h6⟩

theorem RowL.cut {P : Program} {w : World} {base : Nat} {e : TypeId} {size : Nat} {g n cap : Nat} {xs : List Value} (h : RowL w base e size (.slice (some ⟨g, 0, none⟩) n cap) n xs) (t ty : TypeId) (i : TypeInfo) (z : Value) (bytes : Nat) (ht : P.underlying t = some (.slice e)) (hi : P.info? e = some i) (hz : i.zero = some z)
    (hsize : i.size = size) (hby : i.bytes = bytes) (hzs : z.cells.size = size) (k c : Nat) (hk : k < n) (ad : Addr) (had : n - (k + 1) ≠ 0 → ad = ⟨g, (k + 1) * size, none⟩) (hbytes : n * bytes ≤ 140737488355328) (hbase : base ≤ w.heap.size) :
    ∃ v' w', (Builtin.append_ #[t, t] ty #[.slice (some ⟨g, 0, none⟩) k k, .slice (some ad) (n - (k + 1)) c]).run P w = .ok v' w' ∧
      RowL w' base e size v' (n - 1) (xs.take (k * size) ++ xs.drop ((k + 1) * size)) ∧ w.grownBy w' none ∧ (v'.ownBlock = some g ∨ v'.ownBlock = some w.heap.size) := by
  obtain ⟨g', cap', cur, hv, hcap, hB, hmax, hg, htk⟩ := h.at (by omega)
  cases hv
  have hxl := h.len
  have hks : k * size ≤ n * size := Nat.mul_le_mul_right _ (by omega)
  have hk1s : (k + 1) * size ≤ n * size := Nat.mul_le_mul_right _ (by omega)
  have hcell : ∀ j u, xs[j]? = some u → w.cell? ⟨g, j, none⟩ = some u := fun j u hu => by
    have hj : j < n * size := by rw [← hxl]; exact (List.getElem?_eq_some_iff.1 hu).1
    rw [Lib.cell_of_heap hg, ← hu, ← htk, List.getElem?_take_of_lt hj]
    simp
  by_cases hlast : n - (k + 1) = 0
  · rw [hlast]
    refine ⟨_, w, app_none w t ty e i ht hi _ _ k c, ?_, ⟨rfl, rfl, rfl, Nat.le_refl _, fun _ _ _ => rfl⟩, .inl rfl⟩
    have hn : n = k + 1 := by omega
    subst hn
    have hd : xs.drop ((k + 1) * size) = [] := List.drop_eq_nil_of_le (by omega)
    rw [hd, List.append_nil]
    show RowL w base e size _ k _
    refine .inr ⟨g, cur, rfl, hB, hg, by omega, by rw [List.length_take]; omega, ?_⟩
    rw [← htk, List.take_take, Nat.min_eq_left hks]
  · have hadd := had hlast
    subst hadd
    have hl1 : (xs.take (k * size)).length = k * size := by rw [List.length_take]; omega
    have hl2 : (xs.drop ((k + 1) * size)).length = (n - (k + 1)) * size := by rw [List.length_drop, hxl, Nat.sub_mul]
    obtain ⟨cap2, w', a1, a2, a3⟩ := append_full (P := P) w base t ty e i z size bytes ht hi hz hsize hby hzs ⟨g, 0, none⟩ k k (xs.take (k * size)) hl1 (fun j u hu => by
        rw [add0]
        refine hcell j u ?_
        rw [List.getElem?_take] at hu
        split at hu
        · exact hu
        · cases hu) ⟨g, (k + 1) * size, none⟩ (n - (k + 1)) c (xs.drop ((k + 1) * size)) hl2 (fun j u hu => by
        rw [addO]
        refine hcell _ u ?_
        rw [List.getElem?_drop] at hu
        exact hu) (by omega) (by omega) (Nat.le_trans (Nat.mul_le_mul_right _ (by omega)) hbytes) hbase
    refine ⟨_, w', a1, ?_, a3, .inr rfl⟩
    have e1 : k + (n - (k + 1)) = n - 1 := by omega
    rw [e1] at a2 ⊢
    exact .inl a2

/-- A cell of a row is turned. -/
theorem take_setR (l : List Value) (n j : Nat) (u : Value) : (l.set j u).take n = (l.take n).set j u := by
  rw [List.take_set]
theorem RowL.set {W : World} {B : Nat} {e : TypeId} {sz : Nat} {g n cap : Nat} {xs : List Value} (h : RowL W B e sz (.slice (some ⟨g, 0, none⟩) n cap) n xs) (hn : 0 < n) (j : Nat) (u : Value) :
    W.frozen? ⟨g, j, none⟩ = false ∧ RowL (W.setCell ⟨g, j, none⟩ u) B e sz (.slice (some ⟨g, 0, none⟩) n cap) n (xs.set j u) := by
  rcases h with h | ⟨g', cur, hv, h2, h3, h4, h5, h6⟩
  · rcases h.2 with ⟨_, e0⟩ | ⟨g', cap', cur, hv, h2, h3, h4, h5, h6, h7⟩
    · omega
    · cases hv
      refine ⟨Lib.frozen_of_heap h3 j, .inl ⟨by rw [List.length_set]; exact h.1, .inr ⟨g, cap, cur.setIfInBounds j u, rfl, h2, ?_, h4, h5, by simpa using h6, ?_⟩⟩⟩
      · rw [Go.Joins.block_setCell h3]
      · rw [Array.toList_setIfInBounds, take_setR, h7]
  · cases hv
    refine ⟨Lib.frozen_of_heap h3 j, .inr ⟨g, cur.setIfInBounds j u, rfl, h2, ?_, h4, by rw [List.length_set]; exact h5, ?_⟩⟩
    · rw [Go.Joins.block_setCell h3]
    · rw [Array.toList_setIfInBounds, take_setR, h6]
end Go.Proofs.YtoceglbdnbnjpaaDoor
