/- The document's ring in memory; rows whose slice is full. -/
import Derived.Test.YtfddhdpnoliamaaQuRg
namespace Go.Proofs.Ytfddhdpnoliamaa
open Go.RowKit Go.Shelf

/-- A row of one's own, or a slice that is full over the head of a block of one's own. -/
def RowL (W : World) (B : Nat) (e : TypeId) (sz : Nat) (v : Value) (n : Nat) (xs : List Value) : Prop :=
  W.ownsRow B e sz v n xs ∨ (∃ g cur, v = .slice (some ⟨g, 0, none⟩) n n ∧ B ≤ g ∧ W.heap[g]? = some (.cells cur e (0, 0)) ∧ n ≤ maxLen ∧ xs.length = n * sz ∧ cur.toList.take (n * sz) = xs)

section
variable {W W' : World} {B : Nat} {e : TypeId} {sz : Nat} {v : Value} {n : Nat} {xs : List Value}
theorem RowL.len (h : RowL W B e sz v n xs) : xs.length = n * sz := by
  rcases h with h | ⟨g, cur, _, _, _, _, h, _⟩
  · exact h.1
  · exact h
theorem RowL.shape (h : RowL W B e sz v n xs) : ∃ ao c, v = .slice ao n c := by
  rcases h with h | ⟨g, cur, h, _⟩
  · exact row_shape h
  · exact ⟨_, _, h⟩
theorem RowL.keep (h : RowL W B e sz v n xs) (hh : ∀ g, v.ownBlock = some g → W'.heap[g]? = W.heap[g]?) : RowL W' B e sz v n xs := by
  rcases h with h | ⟨g, cur, hv, h2, h3, h4⟩
  · exact .inl (own_heap h hh)
  · refine .inr ⟨g, cur, hv, h2, ?_, h4⟩
    rw [hh g (by rw [hv]; rfl)]
    exact h3
theorem RowL.lt (h : RowL W B e sz v n xs) : ∀ g, v.ownBlock = some g → B ≤ g ∧ g < W.heap.size := by
  rcases h with h | ⟨g, cur, hv, h2, h3, h4⟩
  · exact h.lt
  · intro k hk
    rw [hv] at hk
    simp [Value.ownBlock] at hk
    subst hk
    exact ⟨h2, (Array.getElem?_eq_some_iff.1 h3).1⟩
/-- Where its cells are. -/
theorem RowL.form (h : RowL W B e sz v n xs) (hn : 0 < n) : ∃ g cap, v = .slice (some ⟨g, 0, none⟩) n cap ∧ n ≤ cap ∧ ∀ j, j < n * sz → W.cell? ⟨g, j, none⟩ = xs[j]? := by
  rcases h with h | ⟨g, cur, hv, h2, h3, h4, h5, h6⟩
  · rcases h.2 with ⟨_, e0⟩ | ⟨g, cap, cur, hv, h2, h3, h4, h5, h6, h7⟩
    · omega
    · exact ⟨g, cap, hv, h4, fun j hj => by rw [Lib.cell_of_heap h3, ← h7, List.getElem?_take_of_lt hj]; simp⟩
  · exact ⟨g, n, hv, Nat.le_refl _, fun j hj => by rw [Lib.cell_of_heap h3, ← h6, List.getElem?_take_of_lt hj]; simp⟩
end

theorem RowL.readJ {W : World} {B : Nat} {v : Value} {l : List Jb} (h : RowL W B 34 3 v l.length (jcs l)) : RowJ W v l := by
  obtain ⟨ao, c, hv⟩ := h.shape
  refine ⟨ao, c, hv, fun hl => ?_⟩
  obtain ⟨g, cap, hv2, _, hc⟩ := h.form hl
  rw [hv] at hv2
  cases hv2
  exact ⟨g, rfl, hc⟩

/-- A slice that is full is appended to: a new row of one's own. -/
theorem append_full {P : Program} (w : World) (base : Nat) (t ty e : TypeId) (i : TypeInfo) (z : Value) (size bytes : Nat) (ht : P.underlying t = some (.slice e)) (hi : P.info? e = some i) (hz : i.zero = some z)
    (hsize : i.size = size) (hby : i.bytes = bytes) (hzs : z.cells.size = size)
    (b : Addr) (n k : Nat) (xs : List Value) (hxl : xs.length = n * size) (holds : ∀ j u, xs[j]? = some u → w.cell? (b.add j) = some u)
    (a : Addr) (m c : Nat) (news : List Value) (hl : news.length = m * size) (hnews : ∀ j u, news[j]? = some u → w.cell? (a.add j) = some u)
    (hfull : k < n + m) (h63 : n + m ≤ maxLen) (hbytes : (n + m) * bytes ≤ 140737488355328) (hbase : base ≤ w.heap.size) :
    ∃ cap w', (Builtin.append_ #[t, t] ty #[.slice (some b) n k, .slice (some a) m c]).run P w = .ok (.slice (some ⟨w.heap.size, 0, none⟩) (n + m) cap) w' ∧
      w'.ownsRow base e size (.slice (some ⟨w.heap.size, 0, none⟩) (n + m) cap) (n + m) (xs ++ news) ∧ w.grownBy w' none := by
  subst hsize
  subst hby
  have hs : n + m ≤ 9223372036854775807 := by simp only [maxLen] at h63; omega
  have hlen : (xs ++ news).length = (n + m) * i.size := by rw [List.length_append, hxl, hl, Nat.add_mul]
  have hge := grownCap_ge w (n + m) k e
  have hcm := grownCap_le_maxLen w (n + m) k e h63
  refine ⟨_, _, run_append_grow (P := P) w t ty e i z ht hi hz b n k xs hxl holds a m c news hl hnews hfull (by omega) (growslice_fits (by omega) hbytes), ⟨hlen, .inr ⟨w.heap.size, _, _, rfl, hbase, heap_alloc_new w.drew _, hge, hcm, ?_, ?_⟩⟩, ⟨rfl, rfl, rfl, by simp, fun g hg _ => heap_al w.drew _ g hg⟩⟩
  · simp only [Array.size_append, List.size_toArray, size_zeroCells, hzs, hxl, hl, ← Nat.add_mul]
    congr 1
    omega
  · simp only [Array.toList_append, List.append_assoc]
    rw [← List.append_assoc, ← hlen]
    exact List.take_left

/-- One row is appended to, whatever it is. -/
theorem RowL.app {P : Program} {w : World} {base : Nat} {e : TypeId} {size : Nat} {v : Value} {n : Nat} {xs : List Value} (h : RowL w base e size v n xs) (t ty : TypeId) (i : TypeInfo) (z : Value) (bytes : Nat) (ht : P.underlying t = some (.slice e)) (hi : P.info? e = some i) (hz : i.zero = some z)
    (hsize : i.size = size) (hby : i.bytes = bytes) (hzs : z.cells.size = size) (hsz : 0 < size)
    (a : Addr) (m c : Nat) (news : List Value) (hl : news.length = m * size) (hnews : ∀ j u, news[j]? = some u → w.cell? (a.add j) = some u) (h1 : ∀ u ∈ news, u.oneCell' = true)
    (hm : 0 < m) (h63 : n + m ≤ maxLen) (hbytes : (n + m) * bytes ≤ 140737488355328) (hbase : base ≤ w.heap.size) :
    ∃ g cap w', (Builtin.append_ #[t, t] ty #[v, .slice (some a) m c]).run P w = .ok (.slice (some ⟨g, 0, none⟩) (n + m) cap) w' ∧
      w'.ownsRow base e size (.slice (some ⟨g, 0, none⟩) (n + m) cap) (n + m) (xs ++ news) ∧ w.grownBy w' v.ownBlock ∧ (v.ownBlock = some g ∨ g = w.heap.size) := by
  rcases h with h | ⟨g, cur, rfl, h2, h3, h4, h5, h6⟩
  · obtain ⟨g, cap, w', a1, a2, a3, a4, _⟩ := run_append_lies (P := P) w t ty base e i z size bytes ht hi hz hsize hby hzs hsz v n xs h a m c news hl hnews h1 hm h63 hbytes hbase w.heap.size rfl
    exact ⟨g, cap, w', a1, a2, a3, a4⟩
  · have holds : ∀ j u, xs[j]? = some u → w.cell? ((⟨g, 0, none⟩ : Addr).add j) = some u := fun j u hu => by
      have hj : j < n * size := by rw [← h5]; exact (List.getElem?_eq_some_iff.1 hu).1
      rw [add0, Lib.cell_of_heap h3, ← hu, ← h6, List.getElem?_take_of_lt hj]
      simp
    obtain ⟨cap, w', a1, a2, a3⟩ := append_full (P := P) w base t ty e i z size bytes ht hi hz hsize hby hzs ⟨g, 0, none⟩ n n xs h5 holds a m c news hl hnews (by omega) h63 hbytes hbase
    exact ⟨w.heap.size, cap, w', a1, a2, ⟨a3.os, a3.tape, a3.output, a3.size, fun k hk _ => a3.block k hk (by simp)⟩, .inr rfl⟩
end Go.Proofs.Ytfddhdpnoliamaa
