/- One is cut out of a row: append(s[:i:i], s[i+1:]...). -/
import Derived.Test.YtfddhdpnoliamaaQuRq
namespace Go.Proofs.Ytfddhdpnoliamaa
open Go.RowKit Go.Shelf

theorem addO (g o j : Nat) : (⟨g, o, none⟩ : Addr).add j = ⟨g, o + j, none⟩ := by
  unfold Addr.add
  split <;> simp_all

theorem app_none {P : Program} (w : World) (t ty e : TypeId) (i : TypeInfo) (ht : P.underlying t = some (.slice e)) (hi : P.info? e = some i) (b a : Addr) (n c : Nat) :
    (Builtin.append_ #[t, t] ty #[.slice (some b) n n, .slice (some a) 0 c]).run P w = .ok (.slice (some b) n n) w := by
  simp [Builtin.append_, run_underlying ht, sizeOf, typeInfo, hi, Builtin.lenOf, Builtin.firstCells, loadCells, loadCellsFrom, storeCells]

/-- The block in which a row lies, and what it holds. -/
theorem RowL.at {W : World} {B : Nat} {e : TypeId} {sz : Nat} {v : Value} {n : Nat} {xs : List Value} (h : RowL W B e sz v n xs) (hn : 0 < n) : ∃ g cap cur, v = .slice (some ⟨g, 0, none⟩) n cap ∧ n ≤ cap ∧ B ≤ g ∧ n ≤ maxLen ∧ W.heap[g]? = some (.cells cur e (0, 0)) ∧ cur.toList.take (n * sz) = xs := by
  rcases h with h | ⟨g, cur, hv, h2, h3, h4, h5, h6⟩
  · rcases h.2 with ⟨_, e0⟩ | ⟨g, cap, cur, hv, h2, h3, h4, h5, h6, h7⟩
    · omega
    · exact ⟨g, cap, cur, hv, h4, h2, Nat.le_trans h4 h5, h3, h7⟩
  · exact ⟨g, n, cur, hv, Nat.le_refl _, h2, h4, h3, h6⟩

theorem RowL.cut {P : Program} {w : World} {base : Nat} {e : TypeId} {size : Nat} {g n cap : Nat} {xs : List Value} (h : RowL w base e size (.slice (some ⟨g, 0, none⟩) n cap) n xs) (t ty : TypeId) (i : TypeInfo) (z : Value) (bytes : Nat) (ht : P.underlying t = some (.slice e)) (hi : P.info? e = some i) (hz : i.zero = some z)
    (hsize : i.size = size) (hby : i.bytes = bytes) (hzs : z.cells.size = size) (k c : Nat) (hk : k < n) (ad : Addr) (had : n - (k + 1) ≠ 0 → ad = ⟨g, (k + 1) * size, none⟩) (hbytes : n * bytes ≤ 140737488355328) (hbase : base ≤ w.heap.size) :
    ∃ v' w', (Builtin.append_ #[t, t] ty #[.slice (some ⟨g, 0, none⟩) k k, .slice (some ad) (n - (k + 1)) c]).run P w = .ok v' w' ∧
      RowL w' base e size v' (n - 1) (xs.take (k * size) ++ xs.drop ((k + 1) * size)) ∧ w.grownBy w' none ∧ (v'.ownBlock = some g ∨ v'.ownBlock = some w.heap.size) := by
  obtain ⟨g', cap', cur, hv, hcap, hB, hmax, hg, htk⟩ := h.at (by omega)
  cases hv
  have hxl := h.len
  have hks : k * size ≤ n * size := Nat.mul_le_mul_right _ (by omega)
  have hk1s : (k + 1) * size ≤ n * size := Nat.mul_le_mul_right _ (by omega)
  have hcell : ∀ j u, xs[j]? = some u → w.cell? ⟨g, j, none⟩ = some u := fun j u hu => by
    have hj : j < n * size := by rw [← hxl]; exact (List.getElem?_eq_some_iff.1 hu).1
    rw [Lib.cell_of_heap hg, ← hu, ← htk, List.getElem?_take_of_lt hj]
    simp
  by_cases hlast : n - (k + 1) = 0
  · rw [hlast]
    refine ⟨_, w, app_none w t ty e i ht hi _ _ k c, ?_, ⟨rfl, rfl, rfl, Nat.le_refl _, fun _ _ _ => rfl⟩, .inl rfl⟩
    have hn : n = k + 1 := by omega
    subst hn
    have hd : xs.drop ((k + 1) * size) = [] := List.drop_eq_nil_of_le (by omega)
    rw [hd, List.append_nil]
    show RowL w base e size _ k _
    refine .inr ⟨g, cur, rfl, hB, hg, by omega, by rw [List.length_take]; omega, ?_⟩
    rw [← htk, List.take_take, Nat.min_eq_left hks]
  · have hadd := had hlast
    subst hadd
    have hl1 : (xs.take (k * size)).length = k * size := by rw [List.length_take]; omega
    have hl2 : (xs.drop ((k + 1) * size)).length = (n - (k + 1)) * size := by rw [List.length_drop, hxl, Nat.sub_mul]
    obtain ⟨cap2, w', a1, a2, a3⟩ := append_full (P := P) w base t ty e i z size bytes ht hi hz hsize hby hzs ⟨g, 0, none⟩ k k (xs.take (k * size)) hl1 (fun j u hu => by
        rw [add0]
        refine hcell j u ?_
        rw [List.getElem?_take] at hu
        split at hu
        · exact hu
        · cases hu) ⟨g, (k + 1) * size, none⟩ (n - (k + 1)) c (xs.drop ((k + 1) * size)) hl2 (fun j u hu => by
        rw [addO]
        refine hcell _ u ?_
        rw [List.getElem?_drop] at hu
        exact hu) (by omega) (by omega) (Nat.le_trans (Nat.mul_le_mul_right _ (by omega)) hbytes) hbase
    refine ⟨_, w', a1, ?_, a3, .inr rfl⟩
    have e1 : k + (n - (k + 1)) = n - 1 := by omega
    rw [e1] at a2 ⊢
    exact .inl a2
end Go.Proofs.Ytfddhdpnoliamaa
