/- The document's book: all leases, sorted. -/
import Derived.Test.YtocahjnibdgmoaaLpI
namespace Go.Proofs.Ytocahjnibdgmoaa
open Go.RowKit Go.Shelf Go.Sort
attribute [local go_sem ↓] appS_eq

abbrev LL := List UInt8 × Int × Int
def lessL (x y : LL) : Prop := x.1 < y.1 ∨ (x.1 = y.1 ∧ x.2.1 < y.2.1)
theorem lessL_trans {x y z : LL} (h1 : lessL x y) (h2 : lessL y z) : lessL x z := by
  rcases h1 with h1 | ⟨h1, h1'⟩
  · rcases h2 with h2 | ⟨h2, _⟩
    · exact .inl (List.lt_trans h1 h2)
    · exact .inl (h2 ▸ h1)
  · rcases h2 with h2 | ⟨h2, h2'⟩
    · exact .inl (h1 ▸ h2)
    · exact .inr ⟨h1.trans h2, by omega⟩
theorem lessL_irr (x : LL) : ¬ lessL x x := by
  rintro (h | ⟨_, h⟩)
  · exact List.lt_irrefl _ h
  · omega
theorem lessL_tri (x y : LL) : lessL x y ∨ lessL y x ∨ (x.1 = y.1 ∧ x.2.1 = y.2.1) := by
  by_cases h1 : x.1 < y.1
  · exact .inl (.inl h1)
  · by_cases h2 : y.1 < x.1
    · exact .inr (.inl (.inl h2))
    · have e : x.1 = y.1 := List.le_antisymm (List.not_lt.1 h2) (List.not_lt.1 h1)
      rcases Int.lt_trichotomy x.2.1 y.2.1 with h | h | h
      · exact .inl (.inr ⟨e, h⟩)
      · exact .inr (.inr ⟨e, h⟩)
      · exact .inr (.inl (.inr ⟨e.symm, h⟩))
theorem lsP_less : ∀ (P : List Pj), P.Pairwise (fun x y => x.nm ≤ y.nm) → P.Pairwise (fun x y => x.nm ≠ y.nm) → (∀ p ∈ P, p.ts.Pairwise fun x y => x.1 < y.1) → (lsP P).Pairwise lessL
  | [], _, _, _ => .nil
  | p :: r, h1, h2, h3 => by
    rw [List.pairwise_cons] at h1 h2
    rw [lsP_cons, List.pairwise_append]
    refine ⟨List.pairwise_map.2 ((h3 p (by simp)).imp fun h => .inr ⟨rfl, h⟩), lsP_less r h1.2 h2.2 fun q hq => h3 q (by simp [hq]), fun x hx y hy => ?_⟩
    obtain ⟨q, _, rfl⟩ := List.mem_map.1 hx
    obtain ⟨p2, hp2, hn, _⟩ := mem_lsP.1 hy
    left
    rw [← hn]
    show p.nm < p2.nm
    have h4 := h1.1 p2 hp2
    have h5 := h2.1 p2 hp2
    by_cases h6 : p.nm < p2.nm
    · exact h6
    · exact absurd (List.le_antisymm h4 (List.not_lt.1 h6)) h5
/-- One is laid in. -/
theorem ins_less {O : List LL} {x : LL} {k : Nat} (hO : O.Pairwise lessL) (hk : k ≤ O.length) (h1 : ∀ (j : Nat) (hj : j < O.length), j < k → lessL O[j] x) (h2 : ∀ hk : k < O.length, ¬ lessL O[k] x) (hd : ∀ y ∈ O, ¬ (y.1 = x.1 ∧ y.2.1 = x.2.1)) : (O.take k ++ x :: O.drop k).Pairwise lessL := by
  have hgt : ∀ y ∈ O.drop k, lessL x y := fun _ hy => by
    obtain ⟨j, hj, rfl⟩ := List.getElem_of_mem hy
    rw [List.length_drop] at hj
    rw [List.getElem_drop]
    have h3 : lessL x O[k] := by
      rcases lessL_tri O[k] x with h | h | h
      · exact absurd h (h2 (by omega))
      · exact h
      · exact absurd h (hd _ (List.getElem_mem _))
    rw [List.pairwise_iff_getElem] at hO
    by_cases e : j = 0
    · subst e; exact h3
    · exact lessL_trans h3 (hO k (k + j) (by omega) (by omega) (by omega))
  have hO2 := hO
  rw [← List.take_append_drop k O, List.pairwise_append] at hO2
  rw [List.pairwise_append, List.pairwise_cons]
  refine ⟨hO2.1, ⟨hgt, hO2.2.1⟩, fun y hy z hz => ?_⟩
  rcases List.mem_cons.1 hz with rfl | hz
  · obtain ⟨j, hj, rfl⟩ := List.getElem_of_mem hy
    rw [List.length_take] at hj
    rw [List.getElem_take]
    exact h1 j (by omega) (by omega)
  · exact hO2.2.2 y hy z hz
theorem sorted_eq {A B : List LL} (hp : A.Perm B) (h1 : A.Pairwise lessL) (h2 : B.Pairwise lessL) : A = B :=
  List.Perm.eq_of_pairwise (le := lessL) (fun x _ _ _ h3 h4 => absurd (lessL_trans h3 h4) (lessL_irr x)) h1 h2 hp
theorem keys_apart {A : List LL} (h : A.Pairwise lessL) {x y : LL} (hx : x ∈ A) (hy : y ∈ A) (e : x.1 = y.1 ∧ x.2.1 = y.2.1) : x = y := by
  obtain ⟨i, hi, ei⟩ := List.mem_iff_getElem.1 hx
  obtain ⟨j, hj, ej⟩ := List.mem_iff_getElem.1 hy
  rw [List.pairwise_iff_getElem] at h
  have no : ∀ {u v : LL}, u.1 = v.1 ∧ u.2.1 = v.2.1 → ¬ lessL u v := fun {u v} e h => by
    rcases h with h | ⟨_, h⟩
    · rw [e.1] at h; exact List.lt_irrefl _ h
    · omega
  rcases Nat.lt_trichotomy i j with hij | hij | hij
  · have := h i j hi hj hij; rw [ei, ej] at this; exact absurd this (no e)
  · subst hij; exact ei.symm.trans ej
  · have := h j i hj hi hij; rw [ei, ej] at this; exact absurd this (no ⟨e.1.symm, e.2.symm⟩)

/-- While they are sorted. -/
structure SO (w : World) (A : List LL) (v : Value) (k : Nat) (O : List LL) (wr : World) : Prop where
  row : wr.ownsRow w.heap.size 52 3 v O.length (lcs O)
  nil : O = [] → v = .slice none 0 0
  bel : Below w.heap.size w wr
  perm : O.Perm (A.take k)
  less : O.Pairwise lessL

theorem SO.ins {w W1 W3 w2 : World} {A O : List LL} {u v2 : Value} {k k1 j t : Nat} {x : LL} (o : SO w A u k O W1) (hW : W3 = W1.drewN t) (hj : j ≤ O.length) (h1 : ∀ (i : Nat) (hi : i < O.length), i < j → lessL O[i] x) (h2 : ∀ hj : j < O.length, ¬ lessL O[j] x) (hd : ∀ y ∈ O, ¬ (y.1 = x.1 ∧ y.2.1 = x.2.1)) (htk : A.take k1 = A.take k ++ [x])
    (hr : w2.ownsRow W3.heap.size 52 3 v2 (O.length + 1) (lcs (O.take j ++ x :: O.drop j))) (hb : Below W3.heap.size W3 w2) : SO w A v2 k1 (O.take j ++ x :: O.drop j) w2 := by
  subst hW
  have hl : (O.take j ++ x :: O.drop j).length = O.length + 1 := by rw [List.length_append, List.length_cons, List.length_take, List.length_drop]; omega
  refine ⟨?_, fun e => ?_, ?_, ?_, ins_less o.less hj h1 h2 hd⟩
  · rw [hl]; exact own_low hr o.bel.size
  · rw [e] at hl; simp at hl
  · exact o.bel.trans (Below.trans (⟨rfl, rfl, rfl, Nat.le_refl _, fun _ _ => rfl⟩ : Below w.heap.size W1 (W1.drewN t)) (hb.mono o.bel.size))
  · rw [htk]
    refine List.perm_middle.trans ?_
    rw [List.take_append_drop]
    exact (List.Perm.cons x o.perm).trans (List.perm_append_comm (l₁ := [x]))

section
variable {B R : Nat} {a b c nw : Int} {nv sv tv av : Value} {d : Db} {P : List Pj} {w : World}
set_option maxHeartbeats 8000000 in
set_option maxRecDepth 100000 in
theorem Sorted_any (h : DB B R a b c nv sv tv av d w) (hA : d.A.length ≤ 1000) (hperm : d.A.Perm (lsP P)) (hles : (lsP P).Pairwise lessL) (hnd : d.A.Nodup) :
    Calls Try.prog 24 #[.pointer (some ⟨R, 0, none⟩)] w fun e w' => ∃ v, e = .returned v ∧ w'.ownsRow w.heap.size 52 3 v (lsP P).length (lcs (lsP P)) ∧ Below w.heap.size w w' := by
  have c7 := h.c7
  have hrow := h.ar
  obtain ⟨ao, cap, hv⟩ := hrow.shape
  subst hv
  have hRl : R < w.heap.size := (DS.lt h R List.mem_cons_self).2
  have HR : Hid (RowL w B 52 3 (.slice ao d.A.length cap) d.A.length (lcs d.A)) := hrow
  have HP : Hid (d.A.Perm (lsP P) ∧ (lsP P).Pairwise lessL ∧ d.A.Nodup) := ⟨hperm, hles, hnd⟩
  generalize d.A = A at *
  obtain ⟨n, hn⟩ : ∃ n, n = A.length := ⟨_, rfl⟩
  have HN : Hid (n = A.length ∧ n ≤ 1000 ∧ R < w.heap.size) := ⟨hn, by omega, hRl⟩
  rw [← hn] at c7
  have HC7 : Hid (w.cell? ⟨R, 7, none⟩ = some (.slice ao n cap)) := c7
  clear h hA hperm hles hrow hn hRl c7 hnd
  go_enter Try.func24, Try.ntmps24
  go_wp2
  go_loopw [3, 4] (fun v iv wr => ∃ k : Nat, k ≤ n ∧ iv = .int .i64 (k : Int) ∧ Hid (∃ O, SO w A v k O wr)) (fun _ iv _ => n - (RowKit.intOf iv).toNat)
  case atStart => exact ⟨0, Nat.zero_le _, rfl, [], World.ownsRow_nil _ _ _ _, fun _ => rfl, Below.refl _ _, .refl _, .nil⟩
  case round =>
    obtain ⟨k, hk, rfl, HO⟩ := hrel
    obtain ⟨O, hO⟩ := HO.out
    have c7 : wr.cell? ⟨R, 7, none⟩ = some (.slice ao n cap) := (hO.bel.cell (p := ⟨R, 7, none⟩) HN.out.2.2).trans HC7.out
    by_cases hlt : k < n
    · have hki : (k : Int) < (n : Int) := by omega
      have hkl : k < A.length := by have := HN.out.1; omega
      obtain ⟨g, cap', hv, e1, e2, e3⟩ := row_l HR.out k hkl
      cases hv
      have hgl : g < w.heap.size := World.block_lt_of_cell? w _ e1
      have f1 := (hO.bel.cell (p := ⟨g, k * 3, none⟩) hgl).trans e1
      have f2 := (hO.bel.cell (p := ⟨g, k * 3 + 1, none⟩) hgl).trans e2
      have f3 := (hO.bel.cell (p := ⟨g, k * 3 + 2, none⟩) hgl).trans e3
      have hxA : A[k] ∈ A := List.getElem_mem hkl
      have hnx : A.take (k + 1) = A.take k ++ [A[k]] := List.take_succ_eq_append_getElem hkl
      have hxn : A[k] ∉ A.take k := fun hm => by
        have := HP.out.2.2
        rw [← List.take_append_drop k A, List.nodup_append] at this
        exact this.2.2 _ hm _ (List.mem_iff_getElem.2 ⟨0, by rw [List.length_drop]; omega, by rw [List.getElem_drop]; rfl⟩) rfl
      have hOl : O.length ≤ 1000 := by rw [hO.perm.length_eq, List.length_take]; have := HN.out; omega
      clear e1 e2 e3
      generalize A[k] = x at *
      obtain ⟨nm, wk, tl⟩ := x
      simp only at f1 f2 f3
      obtain ⟨s, es⟩ : ∃ s : ByteArray, s = ⟨nm.toArray⟩ := ⟨_, rfl⟩
      have hsn : s.data.toList = nm := by rw [es]
      rw [← es] at f1
      have hdist : ∀ y ∈ O, ¬ (y.1 = nm ∧ y.2.1 = wk) := fun y hy e => by
        have hyA : y ∈ A.take k := hO.perm.mem_iff.1 hy
        have h1 : y ∈ lsP P := HP.out.1.mem_iff.1 (List.mem_of_mem_take hyA)
        have h2 : ((nm, wk, tl) : LL) ∈ lsP P := HP.out.1.mem_iff.1 hxA
        have := keys_apart HP.out.2.1 h1 h2 e
        exact hxn (this ▸ hyA)
      obtain ⟨k1, hk1⟩ : ∃ k1, k1 = k + 1 := ⟨_, rfl⟩
      have ek1 : (k : Int) + 1 = (k1 : Int) := by omega
      have ek2 : IntKind.i64.wrap (k1 : Int) = (k1 : Int) := by rw [IntKind.wrap_i64]; have := HN.out.2.1; omega
      obtain ⟨m, hm⟩ : ∃ m, m = O.length := ⟨_, rfl⟩
      obtain ⟨ov, oc, hov⟩ := row_shape hO.row
      rw [← hm] at hov
      -- the block of x
      obtain ⟨W1, hW1⟩ : ∃ W1, W1 = wr.alloc (.cells #[.string s, .int .i64 wk, .int .i64 tl] 52) := ⟨_, rfl⟩
      have hb1 : Below wr.heap.size wr W1 := by rw [hW1]; exact (Below.refl _ wr).alloc (Nat.le_refl _) _
      have hXb : W1.heap[wr.heap.size]? = some (.cells #[.string s, .int .i64 wk, .int .i64 tl] 52 (0, 0)) := by rw [hW1]; exact heap_alloc_new wr _
      have hO1 : SO w A u3 k O W1 := ⟨own_heapL hO.row fun g hg => hb1.block g (hO.row.lt g hg).2, hO.nil, hO.bel.trans (hb1.mono hO.bel.size), hO.perm, hO.less⟩
      have HO1 : Hid (SO w A u3 k O W1 ∧ m = O.length ∧ m ≤ 1000 ∧ (∀ y ∈ O, ¬ (y.1 = nm ∧ y.2.1 = wk)) ∧ A.take k1 = A.take k ++ [(nm, wk, tl)] ∧ k1 = k + 1 ∧ k < n ∧ s.data.toList = nm) := ⟨hO1, hm, by omega, hdist, by rw [hk1]; exact hnx, hk1, hlt, hsn⟩
      have x0 : W1.cell? ⟨wr.heap.size, 0, none⟩ = some (.string s) := Lib.cell_of_heap hXb 0
      have x1 : W1.cell? ⟨wr.heap.size, 1, none⟩ = some (.int .i64 wk) := Lib.cell_of_heap hXb 1
      have x2 : W1.cell? ⟨wr.heap.size, 2, none⟩ = some (.int .i64 tl) := Lib.cell_of_heap hXb 2
      subst hov
      clear hO hb1 hXb hO1 hdist hxn hnx hxA hOl hkl hgl hm hk1 hsn es hk HO
      go_wp2
      rw [← hW1]
      clear hW1 f1 f2 f3 c7
      generalize wr.heap.size = X at *
      go_loopw [6] (fun iv wy => ∃ j t : Nat, j ≤ m ∧ iv = .int .i64 (j : Int) ∧ wy = W1.drewN t ∧ Hid (∀ (i : Nat) (hi : i < O.length), i < j → lessL O[i] (nm, wk, tl))) (fun iv _ => m - (RowKit.intOf iv).toNat)
      case atStart => exact ⟨0, 0, Nat.zero_le _, rfl, rfl, by unfold Hid; omega⟩
      case round =>
        obtain ⟨j, t, hj, rfl, hwy, HL⟩ := hrel
        subst hwy
        obtain ⟨o1, hm, hmb, hdist, htk, hk1, hlt', hsn⟩ := HO1.out
        by_cases h0 : 0 < m
        · obtain ⟨go, co, hvo, hocm, -⟩ := RowL.form (.inl o1.row) (by omega)
          rw [← hm] at hvo
          cases hvo
          have HT : Hid (∀ j, j ≤ m → ∀ W3, (∃ t, W3 = W1.drewN t) → (∀ (i : Nat) (hi : i < O.length), i < j → lessL O[i] (nm, wk, tl)) → (∀ hj : j < O.length, ¬ lessL O[j] (nm, wk, tl)) →
              ∃ (Ad : Addr) (v1 v2 : Value) (w1 w2 : World), (if oc = j then some (⟨go, 0, none⟩ : Addr) else some ⟨go, j * 3, none⟩) = some Ad ∧
        (appS #[34, 34] 34 #[.slice (some ⟨W3.heap.size, 0, none⟩) 1 1, .slice (some Ad) (m - j) (oc - j)]).run Try.prog ((W3.alloc (.cells #[.string s, .int .i64 wk, .int .i64 tl] 52)).drew) = .ok v1 w1 ∧
        (appS #[34, 34] 34 #[.slice (some ⟨go, 0, none⟩) j j, v1]).run Try.prog w1 = .ok v2 w2 ∧ SO w A v2 k1 (O.take j ++ (nm, wk, tl) :: O.drop j) w2) := fun j hj W3 hW h1 h2 => by
            obtain ⟨t, hW⟩ := hW
            have hr : W3.ownsRow w.heap.size 52 3 (.slice (some ⟨go, 0, none⟩) O.length oc) O.length (lcs O) := by rw [hW, ← hm]; have := o1.row; rw [← hm] at this; exact this
            obtain ⟨Ad, v1, v2, w1, w2, p1, p2, p3, p4, p5⟩ := ins_two hr (by omega) (by omega) s wk tl j (by omega)
            rw [hsn] at p4
            exact ⟨Ad, v1, v2, w1, w2, p1, by rw [hm]; exact p2, p3, o1.ins hW (by omega) h1 h2 hdist htk p4 p5⟩
          by_cases hjm : j < m
          · have hjo : j < O.length := by omega
            obtain ⟨go', co', hvo, y0, y1, y2⟩ := row_l (w := W1) (l := O) (.inl o1.row) j hjo
            rw [← hm] at hvo
            cases hvo
            have hji : (j : Int) < (m : Int) := by omega
            obtain ⟨j1, hj1⟩ : ∃ j1, j1 = j + 1 := ⟨_, rfl⟩
            have ej1 : (j : Int) + 1 = (j1 : Int) := by omega
            have ej2 : IntKind.i64.wrap (j1 : Int) = (j1 : Int) := by rw [IntKind.wrap_i64]; omega
            have HJ : Hid (j1 = j + 1 ∧ j < m ∧ j < O.length) := ⟨hj1, hjm, hjo⟩
            obtain ⟨y, hy⟩ : ∃ y, y = O[j] := ⟨_, rfl⟩
            rw [← hy] at y0 y1
            obtain ⟨yn, yw, yt⟩ := y
            have HX : Hid (lessL (yn, yw, yt) (nm, wk, tl) → ∀ (i : Nat) (hi : i < O.length), i < j1 → lessL O[i] (nm, wk, tl)) := fun h i hi hlt => by
              by_cases e : i = j
              · subst e; rw [← hy]; exact h
              · exact HL.out i hi (by omega)
            have HY : Hid (¬ lessL (yn, yw, yt) (nm, wk, tl) → ∀ hj : j < O.length, ¬ lessL O[j] (nm, wk, tl)) := fun h _ => by rw [← hy]; exact h
            simp only at y0 y1
            obtain ⟨z, ez⟩ : ∃ z : ByteArray, z = ⟨yn.toArray⟩ := ⟨_, rfl⟩
            have hzn : z.data.toList = yn := by rw [ez]
            rw [← ez] at y0
            have hne : (z.toList == s.toList) = decide (yn = nm) := by rw [eqL]; simp [hzn, hsn]
            have hbl : Op.bytesLess z.toList s.toList = decide (yn < nm) := by rw [Lib.toList_data, Lib.toList_data, less_lt, hzn, hsn]
            have hoc : (j : Int) ≤ (oc : Int) := by omega
            have hoc2 : (m : Int) ≤ (oc : Int) := by omega
            have hjm2 : (j : Int) ≤ (m : Int) := by omega
            clear y2 hjm hy ez
            clear hjo hj1 hzn hsn
            clear o1 hm hmb hdist htk hk1 hlt' hj
            by_cases hb : yn < nm
            · rw [decide_eq_true hb] at hbl
              have HL2 : Hid _ := HX.out (.inl hb)
              clear hb hne HY HX HT
              go_wp2
              go_quiet (fail)
              go_wp2
              refine ⟨⟨j1, t + nq, by have := HJ.out; omega, rfl, by simp, HL2⟩, ?_⟩
              have := HJ.out
              simp [RowKit.intOf]; omega
            · rw [decide_eq_false hb] at hbl
              by_cases he : yn = nm
              · rw [decide_eq_true he] at hne
                by_cases hw : yw < wk
                · have HL2 : Hid _ := HX.out (.inr ⟨he, hw⟩)
                  clear hb he HY HX HT
                  go_wp2
                  go_quiet (fail)
                  go_wp2
                  refine ⟨⟨j1, t + nq, by have := HJ.out; omega, rfl, by simp, HL2⟩, ?_⟩
                  have := HJ.out
                  simp [RowKit.intOf]; omega
                · have HYN := HY.out (by rintro (h | ⟨_, h⟩); exact hb h; exact hw h)
                  clear hb he HY HX
                  go_wp2
                  go_quiet (fail)
                  go_wp2
                  obtain ⟨W3, hW3⟩ : ∃ W3, W3 = (W1.drewN t).drewN nq := ⟨_, rfl⟩
                  obtain ⟨Ad, v1, v2, w1, w2, hA, ha1, ha2, hE⟩ := HT.out j (by have := HJ.out; omega) W3 ⟨t + nq, by rw [hW3]; simp⟩ HL.out HYN
                  have HE : Hid (∃ O, SO w A v2 k1 O w2) := ⟨_, hE⟩
                  have y0' : W3.cell? ⟨X, 0, none⟩ = some (.string s) := by rw [hW3]; exact x0
                  have y1' : W3.cell? ⟨X, 1, none⟩ = some (.int .i64 wk) := by rw [hW3]; exact x1
                  have y2' : W3.cell? ⟨X, 2, none⟩ = some (.int .i64 tl) := by rw [hW3]; exact x2
                  rw [← hW3]
                  clear hW3 hE x0 x1 x2
                  go_region
                  all_goals
                    go_wp2
                    refine ⟨⟨k1, by have := HO1.out; omega, rfl, HE⟩, ?_⟩
                    have := HO1.out
                    simp [RowKit.intOf]; omega
              · rw [decide_eq_false he] at hne
                have HYN := HY.out (by rintro (h | ⟨h, _⟩); exact hb h; exact he h)
                clear hb he HY HX
                go_wp2
                go_quiet (fail)
                go_wp2
                obtain ⟨W3, hW3⟩ : ∃ W3, W3 = (W1.drewN t).drewN nq := ⟨_, rfl⟩
                obtain ⟨Ad, v1, v2, w1, w2, hA, ha1, ha2, hE⟩ := HT.out j (by have := HJ.out; omega) W3 ⟨t + nq, by rw [hW3]; simp⟩ HL.out HYN
                have HE : Hid (∃ O, SO w A v2 k1 O w2) := ⟨_, hE⟩
                have y0' : W3.cell? ⟨X, 0, none⟩ = some (.string s) := by rw [hW3]; exact x0
                have y1' : W3.cell? ⟨X, 1, none⟩ = some (.int .i64 wk) := by rw [hW3]; exact x1
                have y2' : W3.cell? ⟨X, 2, none⟩ = some (.int .i64 tl) := by rw [hW3]; exact x2
                rw [← hW3]
                clear hW3 hE x0 x1 x2
                go_region
                all_goals
                  go_wp2
                  refine ⟨⟨k1, by have := HO1.out; omega, rfl, HE⟩, ?_⟩
                  have := HO1.out
                  simp [RowKit.intOf]; omega
          · obtain rfl : j = m := by omega
            have hoc : (j : Int) ≤ (oc : Int) := by omega
            have HJ : Hid (j ≤ j) := hj
            have HYN : ∀ hj : j < O.length, ¬ lessL O[j] (nm, wk, tl) := fun h => by omega
            clear o1 hm hmb hdist htk hk1 hlt' hj hjm hsn hocm h0
            go_wp2
            go_quiet (fail)
            go_wp2
            obtain ⟨W3, hW3⟩ : ∃ W3, W3 = (W1.drewN t).drewN nq := ⟨_, rfl⟩
            obtain ⟨Ad, v1, v2, w1, w2, hA, ha1, ha2, hE⟩ := HT.out j (by have := HJ.out; omega) W3 ⟨t + nq, by rw [hW3]; simp⟩ HL.out HYN
            rw [Nat.sub_self] at ha1
            have HE : Hid (∃ O, SO w A v2 k1 O w2) := ⟨_, hE⟩
            have y0' : W3.cell? ⟨X, 0, none⟩ = some (.string s) := by rw [hW3]; exact x0
            have y1' : W3.cell? ⟨X, 1, none⟩ = some (.int .i64 wk) := by rw [hW3]; exact x1
            have y2' : W3.cell? ⟨X, 2, none⟩ = some (.int .i64 tl) := by rw [hW3]; exact x2
            rw [← hW3]
            clear hW3 hE x0 x1 x2
            go_region
            all_goals
              go_wp2
              refine ⟨⟨k1, by have := HO1.out; omega, rfl, HE⟩, ?_⟩
              have := HO1.out
              simp [RowKit.intOf]; omega
        · have e0 : O = [] := List.eq_nil_of_length_eq_zero (by omega)
          have hv := o1.nil e0
          cases hv
          have hj0 : j = 0 := by omega
          subst hj0
          have HT : Hid (∀ W3, (∃ t, W3 = W1.drewN t) → ∃ (v2 : Value) (w2 : World), (appS #[34, 34] 34 #[.slice (some ⟨W3.heap.size, 0, none⟩) 1 1, .slice none 0 0]).run Try.prog ((W3.alloc (.cells #[.string s, .int .i64 wk, .int .i64 tl] 52)).drew) = .ok (.slice (some ⟨W3.heap.size, 0, none⟩) 1 1) ((W3.alloc (.cells #[.string s, .int .i64 wk, .int .i64 tl] 52)).drew) ∧
      (appS #[34, 34] 34 #[.slice none 0 0, .slice (some ⟨W3.heap.size, 0, none⟩) 1 1]).run Try.prog ((W3.alloc (.cells #[.string s, .int .i64 wk, .int .i64 tl] 52)).drew) = .ok v2 w2 ∧ ∃ O, SO w A v2 k1 O w2) := fun W3 hW => by
            obtain ⟨t, hW⟩ := hW
            obtain ⟨v2, w2, p1, p2, p3, p4⟩ := ins_first W3 s wk tl
            rw [hsn] at p3
            refine ⟨v2, w2, p1, p2, _, o1.ins (j := 0) hW (by omega) (fun _ _ h => by omega) (fun h => by omega) hdist htk ?_ p4⟩
            rw [e0]
            exact p3
          have HV : Hid (k1 = k + 1 ∧ k < n) := ⟨hk1, hlt'⟩
          clear o1 hm hmb hdist htk hk1 hlt' hj hsn h0
          go_wp2
          go_quiet (fail)
          go_wp2
          obtain ⟨W3, hW3⟩ : ∃ W3, W3 = (W1.drewN t).drewN nq := ⟨_, rfl⟩
          obtain ⟨v2, w2, ha1, ha2, hE⟩ := HT.out W3 ⟨t + nq, by rw [hW3]; simp⟩
          have HE : Hid (∃ O, SO w A v2 k1 O w2) := hE
          have y0' : W3.cell? ⟨X, 0, none⟩ = some (.string s) := by rw [hW3]; exact x0
          have y1' : W3.cell? ⟨X, 1, none⟩ = some (.int .i64 wk) := by rw [hW3]; exact x1
          have y2' : W3.cell? ⟨X, 2, none⟩ = some (.int .i64 tl) := by rw [hW3]; exact x2
          rw [← hW3]
          clear hW3 hE x0 x1 x2
          go_region
          all_goals
            go_wp2
            refine ⟨⟨k1, by have := HV.out; omega, rfl, HE⟩, ?_⟩
            have := HV.out
            simp [RowKit.intOf]; omega
    · have hki : ¬ (k : Int) < (n : Int) := by omega
      have hkn : k = n := by omega
      have hp := hO.perm
      rw [List.take_of_length_le (by have := HN.out.1; omega)] at hp
      have hOe := sorted_eq (hp.trans HP.out.1) hO.less HP.out.2.1
      have HF : Hid (wr.ownsRow w.heap.size 52 3 u3 (lsP P).length (lcs (lsP P)) ∧ Below w.heap.size w wr) := by rw [← hOe]; exact ⟨hO.row, hO.bel⟩
      clear hO hp hOe hkn hlt hk HO
      go_wp2
      go_ret
      exact ⟨_, rfl, HF.out⟩
end
end Go.Proofs.Ytocahjnibdgmoaa
