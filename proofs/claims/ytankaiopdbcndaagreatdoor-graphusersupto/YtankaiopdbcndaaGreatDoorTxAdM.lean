/- A text among others that rise. -/
import Derived.Test.YtankaiopdbcndaaGreatDoorGcA0M
namespace Go.Proofs.YtankaiopdbcndaaGreatDoor
open Go.RowKit Go.Shelf Go.Sort
attribute [local go_sem ↓] appS_eq

/-- How adding ends. -/
def AdP (B : Nat) (v : Value) (l : List (List UInt8)) (s : ByteArray) (w : World) (e : Ending) (w' : World) : Prop := ∃ v', e = .returned v' ∧ w'.ownsRow B 9 1 v' (insN s.data.toList l).length ((insN s.data.toList l).map encStr) ∧ Below w.heap.size w w' ∧ ∀ g, v'.ownBlock = some g → v.ownBlock = some g ∨ w.heap.size ≤ g

theorem encS (s : ByteArray) : encStr s.data.toList = .string s := by
  show Value.string ⟨s.data.toList.toArray⟩ = _
  rw [Array.toArray_toList]
theorem al_at (W : World) (b : Nat) (cs : Array Value) (ty : TypeId) (k : Nat) (v : Value) (hb : b = W.heap.size) (hv : cs[k]? = some v) : (W.alloc (.cells cs ty)).cell? ⟨b, k, none⟩ = some v := by
  subst hb
  rw [Lib.cell_of_heap (heap_alloc_new W _)]
  exact hv
theorem heap_al (w : World) (o : Obj) (g : Nat) (hg : g < w.heap.size) : (w.alloc o).heap[g]? = w.heap[g]? := ((Below.refl w.heap.size w).alloc (Nat.le_refl _) o).block g hg
theorem eqL (a b : ByteArray) : (a.toList == b.toList) = decide (a.data.toList = b.data.toList) := by
  rw [Lib.toList_data, Lib.toList_data, Bool.eq_iff_iff]
  simp
theorem insN_take (s : List UInt8) : ∀ (l : List (List UInt8)) (k : Nat), k ≤ l.length → (∀ (j : Nat) (hj : j < l.length), j < k → l[j] < s) → (∀ hk : k < l.length, s < l[k]) → insN s l = l.take k ++ s :: l.drop k
  | [], k, hk, _, _ => by simp [insN]
  | m :: r, 0, _, _, h2 => by
    have h3 : s < m := h2 (by simp)
    unfold insN
    rw [if_neg (fun e => by rw [e] at h3; exact List.lt_irrefl _ h3), if_pos h3]
    rfl
  | m :: r, k + 1, hk, h1, h2 => by
    have h3 : m < s := h1 0 (by simp) (by omega)
    have ih := insN_take s r k (by simpa using hk) (fun j hj hjk => h1 (j + 1) (by simp; omega) (by omega)) (fun hk2 => h2 (by simp; omega))
    unfold insN
    rw [if_neg (fun e => by rw [e] at h3; exact List.lt_irrefl _ h3), if_neg (fun h4 => List.lt_irrefl _ (List.lt_trans h3 h4)), ih]
    rfl
theorem insN_has (s : List UInt8) : ∀ (l : List (List UInt8)) (k : Nat) (hk : k < l.length), (∀ (j : Nat) (hj : j < l.length), j < k → l[j] < s) → l[k] = s → insN s l = l
  | [], k, hk, _, _ => by simp at hk
  | m :: r, 0, _, _, h2 => by
    have h3 : m = s := h2
    unfold insN
    rw [if_pos h3.symm]
  | m :: r, k + 1, hk, h1, h2 => by
    have h3 : m < s := h1 0 (by simp) (by omega)
    have ih := insN_has s r k (by simpa using hk) (fun j hj hjk => h1 (j + 1) (by simp; omega) (by omega)) h2
    unfold insN
    rw [if_neg (fun e => by rw [e] at h3; exact List.lt_irrefl _ h3), if_neg (fun h4 => List.lt_irrefl _ (List.lt_trans h3 h4)), ih]

theorem app_empty (N n c : Nat) (hnc : n ≤ c) (W : World) : (Builtin.append_ #[23, 23] 23 #[.slice (some ⟨N, 0, none⟩) n c, .slice none 0 0]).run Tryz.prog W = .ok (.slice (some ⟨N, 0, none⟩) n c) W := by
  obtain ⟨i0, hi, hz0, hz1, hz2⟩ := info_parts infTx
  simp [Builtin.append_, run_underlying Tryz.underlying23, sizeOf, typeInfo, hi, Builtin.lenOf, Builtin.firstCells, storeCells, hnc]

set_option maxHeartbeats 4000000 in
set_option maxRecDepth 100000 in
theorem AddText_nil (B : Nat) (s : ByteArray) (w : World) (hB : B ≤ w.heap.size) :
    Calls Tryz.prog 24 #[.slice none 0 0, .string s] w fun e w' => ∃ v', e = .returned v' ∧ w'.ownsRow B 9 1 v' 1 [encStr s.data.toList] ∧ Below w.heap.size w w' ∧ ∀ g, v'.ownBlock = some g → w.heap.size ≤ g := by
  obtain ⟨i0, hi, hz0, hz1, hz2⟩ := info_parts infTx
  have hzA : (w.alloc (.cells #[.string s] 9)).heap.size = w.heap.size + 1 := World.size_alloc _ _
  obtain ⟨g', cap', w1, hrun, hown, hgrow, hat, hlt⟩ := run_append_lies (P := Tryz.prog) ((w.alloc (.cells #[.string s] 9)).drew) 23 23 B 9 i0 (.string ⟨#[]⟩) 1 16 Tryz.underlying23 hi hz0 hz1 hz2 rfl (by decide) (.slice none 0 0) 0 [] (World.ownsRow_nil _ _ _ _) ⟨w.heap.size, 0, none⟩ 1 1 [.string s] rfl (fun j u hu => by
    rw [add0]
    have h1 : j < 1 := (List.getElem?_eq_some_iff.1 hu).1
    have h0 : j = 0 := by omega
    subst h0
    exact al_at w _ _ _ 0 u rfl hu) (fun u hu => by rw [List.mem_singleton.1 hu]; rfl) (by decide) (by decide) (by decide) (by show B ≤ (w.alloc _).heap.size; omega) (w.heap.size + 1) hzA
  have hap2 : (appS #[23, 23] 23 #[.slice none 0 0, .slice (some ⟨w.heap.size, 0, none⟩) 1 1]).run Tryz.prog ((w.alloc (.cells #[.string s] 9)).drew) = .ok (.slice (some ⟨g', 0, none⟩) 1 cap') w1 := hrun
  have hap1 : (appS #[23, 23] 23 #[.slice (some ⟨w.heap.size, 0, none⟩) 1 1, .slice none 0 0]).run Tryz.prog ((w.alloc (.cells #[.string s] 9)).drew) = .ok (.slice (some ⟨w.heap.size, 0, none⟩) 1 1) ((w.alloc (.cells #[.string s] 9)).drew) := app_empty _ _ _ (Nat.le_refl _) _
  have HE : Hid (w1.ownsRow B 9 1 (.slice (some ⟨g', 0, none⟩) 1 cap') 1 [encStr s.data.toList] ∧ Below w.heap.size w w1 ∧ w.heap.size ≤ g') := by
    refine ⟨by rw [encS]; exact hown, (((Below.refl _ w).alloc (Nat.le_refl _) _).drew).grown hgrow (by show w.heap.size ≤ (w.alloc _).heap.size; omega) (fun k hk => by cases hk), ?_⟩
    rcases hat with e | e
    · cases e
    · omega
  clear hrun hown hgrow hat hlt hzA hB
  go_enter Tryz.func24, Tryz.ntmps24
  go_wp2
  go_loopw [5] (fun v wr => v = .int .i64 0 ∧ wr = w) (fun _ _ => 0)
  case atStart => exact ⟨rfl, rfl⟩
  case round =>
    obtain ⟨rfl, rfl⟩ := hrel
    go_wp2
    go_region
    all_goals
      go_wp2
      go_ret
      exact ⟨_, rfl, HE.out.1, HE.out.2.1, fun g hg => by simp [Value.ownBlock] at hg; rw [← hg]; exact HE.out.2.2⟩

set_option maxHeartbeats 8000000 in
set_option maxRecDepth 100000 in
theorem AddText_some (B : Nat) (v : Value) (l : List (List UInt8)) (s : ByteArray) (w : World) (h : w.ownsRow B 9 1 v l.length (l.map encStr)) (h0 : 0 < l.length) (hn : l.length ≤ 1000000) :
    Calls Tryz.prog 24 #[v, .string s] w (AdP B v l s w) := by
  obtain ⟨g, cap, hv, hg1, hg2⟩ := h.form h0
  subst hv
  have hcap : l.length ≤ cap := by
    rcases h.2 with ⟨e, _⟩ | ⟨g', cap', cur, e, _, _, hle, _⟩
    · cases e
    · cases e; exact hle
  have HC : Hid (∀ (k : Nat) (hk : k < l.length), w.cell? ⟨g, k, none⟩ = some (.string ⟨(l[k]).toArray⟩)) := fun k hk => by
    refine (h.cellAt k (by omega)).trans ?_
    rw [List.getElem?_map, List.getElem?_eq_getElem hk]
    rfl
  -- both appends, at whatever place
  have HAp : Hid (∀ k : Nat, k ≤ l.length → ∃ (A : Addr) (v1 v2 : Value) (w1 w2 : World), (if cap = k then some (⟨g, 0, none⟩ : Addr) else some ⟨g, k, none⟩) = some A ∧
      (appS #[23, 23] 23 #[.slice (some ⟨w.heap.size, 0, none⟩) 1 1, .slice (some A) (l.length - k) (cap - k)]).run Tryz.prog ((w.alloc (.cells #[.string s] 9)).drew) = .ok v1 w1 ∧
      (appS #[23, 23] 23 #[.slice (some ⟨g, 0, none⟩) k k, v1]).run Tryz.prog w1 = .ok v2 w2 ∧ w2.ownsRow B 9 1 v2 (l.length + 1) ((l.take k ++ s.data.toList :: l.drop k).map encStr) ∧ Below w.heap.size w w2 ∧ ∀ x, v2.ownBlock = some x → w.heap.size ≤ x) := by
    intro k hk
    obtain ⟨i0, hi, hz0, hz1, hz2⟩ := info_parts infTx
    have hzA : ((w.alloc (.cells #[.string s] 9)).drew).heap.size = w.heap.size + 1 := World.size_alloc _ _
    have hAl : ∀ x : Nat, x < w.heap.size → ((w.alloc (.cells #[.string s] 9)).drew).heap[x]? = w.heap[x]? := fun x hx => heap_al w _ x hx
    have hlc : ∀ (j : Nat) (hj : j < l.length), ((w.alloc (.cells #[.string s] 9)).drew).cell? ⟨g, j, none⟩ = some (.string ⟨(l[j]).toArray⟩) := fun j hj => (World.cell?_of_block (w := w) (hAl g hg2)).trans (HC.out j hj)
    obtain ⟨A, hA, hsrc⟩ : ∃ A : Addr, (if cap = k then some (⟨g, 0, none⟩ : Addr) else some ⟨g, k, none⟩) = some A ∧ ∀ j u, ((l.drop k).map encStr)[j]? = some u → ((w.alloc (.cells #[.string s] 9)).drew).cell? (A.add j) = some u := by
      by_cases hck : cap = k
      · refine ⟨⟨g, 0, none⟩, by simp [hck], fun j u hu => ?_⟩
        have : l.drop k = [] := List.drop_eq_nil_iff.2 (by omega)
        rw [this] at hu
        simp at hu
      · refine ⟨⟨g, k, none⟩, by simp [hck], fun j u hu => ?_⟩
        have hj : j < (l.drop k).length := by have := (List.getElem?_eq_some_iff.1 hu).1; simpa using this
        rw [Addr.add_lit, hlc (k + j) (by rw [List.length_drop] at hj; omega)]
        rw [List.getElem?_map, List.getElem?_eq_getElem hj] at hu
        rw [← hu]
        simp [encStr]
    have hown0 : ((w.alloc (.cells #[.string s] 9)).drew).ownsRow w.heap.size 9 1 (.slice (some ⟨w.heap.size, 0, none⟩) 1 1) 1 [.string s] :=
      ⟨rfl, .inr ⟨w.heap.size, 1, #[.string s], rfl, Nat.le_refl _, heap_alloc_new w _, Nat.le_refl _, by decide, rfl, rfl⟩⟩
    obtain ⟨v1, w1, hr1, ho1, hg1', _⟩ := run_append_own (P := Tryz.prog) ((w.alloc (.cells #[.string s] 9)).drew) w.heap.size 23 23 9 i0 (.string ⟨#[]⟩) 1 16 Tryz.underlying23 hi hz0 hz1 hz2 rfl (by decide) (.slice (some ⟨w.heap.size, 0, none⟩) 1 1) 1 [.string s] hown0 A (l.length - k) (cap - k) ((l.drop k).map encStr) (by simp) hsrc (fun u hu => by obtain ⟨x, _, rfl⟩ := List.mem_map.1 hu; rfl) (by unfold maxLen; omega) (by omega) (by omega)
    obtain ⟨g1, c1, hv1, hg3, hg4⟩ := ho1.form (by omega)
    have hw1 : ∀ x : Nat, x < w.heap.size → w1.heap[x]? = w.heap[x]? := fun x hx => (hg1'.block x (by omega) (fun e => by simp [Value.ownBlock] at e; omega)).trans (hAl x hx)
    have hcells1 : ∀ j u, ([.string s] ++ (l.drop k).map encStr)[j]? = some u → w1.cell? ((⟨g1, 0, none⟩ : Addr).add j) = some u := by
      have := ho1
      rw [hv1] at this
      exact this.cells rfl
    obtain ⟨v2, w2, hr2, ho2, hg2'⟩ := run_append_arg_grows (P := Tryz.prog) w1 23 23 9 i0 (.string ⟨#[]⟩) 1 16 Tryz.underlying23 hi hz0 hz1 hz2 rfl (by decide) ⟨g, 0, none⟩ k k ((l.take k).map encStr) (by simp; omega) (fun j u hu => by
        have hj : j < (l.take k).length := by have := (List.getElem?_eq_some_iff.1 hu).1; simpa using this
        have hjl : j < l.length := by rw [List.length_take] at hj; omega
        rw [add0, World.cell?_of_block (w := w) (hw1 g hg2), HC.out j hjl]
        rw [List.getElem?_map, List.getElem?_eq_getElem hj] at hu
        rw [← hu]
        simp [encStr]) ⟨g1, 0, none⟩ (1 + (l.length - k)) c1 ([.string s] ++ (l.drop k).map encStr) (by simp; omega) hcells1 (by omega) (by unfold maxLen; omega) (by omega)
    have hsz1 : w.heap.size ≤ w1.heap.size := by have := hg1'.size; omega
    refine ⟨A, v1, v2, w1, w2, hA, hr1, by rw [hv1]; exact hr2, ?_, ?_, fun x hx => ?_⟩
    · have hl2 : l.length + 1 = k + (1 + (l.length - k)) := by omega
      have hc2 : (l.take k ++ s.data.toList :: l.drop k).map encStr = (l.take k).map encStr ++ ([.string s] ++ (l.drop k).map encStr) := by simp [encS]
      rw [hl2, hc2]
      obtain ⟨x1, x2⟩ := ho2
      refine ⟨x1, ?_⟩
      rcases x2 with x2 | ⟨a1, a2, a3, a4, a5, a6⟩
      · exact .inl x2
      · exact .inr ⟨a1, a2, a3, a4, by omega, a6⟩
    · refine ⟨?_, ?_, ?_, ?_, fun x hx => ?_⟩
      · exact hg2'.os.trans hg1'.os
      · exact hg2'.tape.trans hg1'.tape
      · exact hg2'.output.trans hg1'.output
      · have := hg2'.size; omega
      · exact (hg2'.block x (by omega) (fun e => by cases e)).trans (hw1 x hx)
    · have := (ho2.lt x hx).1; omega
  have HOwn : Hid (w.ownsRow B 9 1 (.slice (some ⟨g, 0, none⟩) l.length cap) l.length (l.map encStr)) := h
  clear h hg1 hg2
  go_enter Tryz.func24, Tryz.ntmps24
  go_wp2
  go_loopw [5] (fun v wr => ∃ k : Nat, k ≤ l.length ∧ v = .int .i64 (k : Int) ∧ wr = w ∧ Hid (∀ (j : Nat) (hj : j < l.length), j < k → l[j] < s.data.toList)) (fun v _ => l.length - (RowKit.intOf v).toNat)
  case atStart => exact ⟨0, Nat.zero_le _, rfl, rfl, by unfold Hid; omega⟩
  case round =>
    obtain ⟨k, hk, rfl, rfl, HLo⟩ := hrel
    obtain ⟨k1, hk1⟩ : ∃ k1, k1 = k + 1 := ⟨_, rfl⟩
    have hk2 : (k : Int) + 1 = (k1 : Int) := by omega
    have hw2 : IntKind.i64.wrap (k1 : Int) = (k1 : Int) := by rw [IntKind.wrap_i64]; omega
    have HK1 : Hid (k1 = k + 1) := hk1
    obtain ⟨A, v1, v2, w1, w2, hA, ha1, ha2, hE⟩ := HAp.out k hk
    have HE : Hid (w2.ownsRow B 9 1 v2 (l.length + 1) ((l.take k ++ s.data.toList :: l.drop k).map encStr) ∧ Below wr.heap.size wr w2 ∧ ∀ x, v2.ownBlock = some x → wr.heap.size ≤ x) := hE
    have hk4 : k ≤ cap := by omega
    clear hk1 hE
    by_cases hlt : k < l.length
    · have hki : (k : Int) < (l.length : Int) := by omega
      have c1 := HC.out k hlt
      have hne : ((⟨(l[k]).toArray⟩ : ByteArray).toList == s.toList) = decide (l[k] = s.data.toList) := by rw [eqL]
      have hbl : Op.bytesLess (⟨(l[k]).toArray⟩ : ByteArray).toList s.toList = decide (l[k] < s.data.toList) := by rw [Lib.toList_data, Lib.toList_data, tlt]
      by_cases hb : l[k] < s.data.toList
      · rw [decide_eq_true hb] at hbl
        have HLo2 : Hid (∀ (j : Nat) (hj : j < l.length), j < k1 → l[j] < s.data.toList) := fun j hj hj2 => by
          by_cases e : j < k
          · exact HLo.out j hj e
          · have e2 : j = k := by have := HK1.out; omega
            subst e2
            exact hb
        clear hb
        generalize (⟨(l[k]).toArray⟩ : ByteArray) = x at c1 hne hbl
        go_wp2
        refine ⟨⟨k1, by rw [HK1.out]; exact hlt, rfl, trivial, HLo2⟩, ?_⟩
        have := HK1.out
        simp [RowKit.intOf]; omega
      · rw [decide_eq_false hb] at hbl
        by_cases heq : l[k] = s.data.toList
        · rw [decide_eq_true heq] at hne
          have HZ : Hid (insN s.data.toList l = l) := insN_has _ l k hlt HLo.out heq
          clear hb heq
          generalize (⟨(l[k]).toArray⟩ : ByteArray) = x at c1 hne hbl
          go_wp2
          go_ret
          exact ⟨_, rfl, by rw [HZ.out]; exact HOwn.out, Below.refl _ _, fun g hg => .inl hg⟩
        · rw [decide_eq_false heq] at hne
          have HZ : Hid (insN s.data.toList l = l.take k ++ s.data.toList :: l.drop k ∧ (l.take k ++ s.data.toList :: l.drop k).length = l.length + 1) := by
            refine ⟨insN_take _ l k hk HLo.out fun _ => ?_, by simp; omega⟩
            rcases Decidable.em (s.data.toList < l[k]) with h | h
            · exact h
            · exact absurd (List.le_antisymm (List.not_lt.1 h) (List.not_lt.1 hb)) heq
          clear hb heq
          generalize (⟨(l[k]).toArray⟩ : ByteArray) = x at c1 hne hbl
          go_wp2
          go_region
          all_goals
            go_wp2
            go_ret
            exact ⟨_, rfl, by rw [HZ.out.1, HZ.out.2]; exact HE.out.1, HE.out.2.1, fun g hg => .inr (HE.out.2.2 g hg)⟩
    · have hki : ¬ (k : Int) < (l.length : Int) := by omega
      have HZ : Hid (insN s.data.toList l = l.take k ++ s.data.toList :: l.drop k ∧ (l.take k ++ s.data.toList :: l.drop k).length = l.length + 1) := ⟨insN_take _ l k hk HLo.out fun h => absurd h hlt, by simp; omega⟩
      go_wp2
      go_region
      all_goals
        go_wp2
        go_ret
        exact ⟨_, rfl, by rw [HZ.out.1, HZ.out.2]; exact HE.out.1, HE.out.2.1, fun g hg => .inr (HE.out.2.2 g hg)⟩
theorem AddText_any (B : Nat) (v : Value) (l : List (List UInt8)) (s : ByteArray) (w : World) (h : w.ownsRow B 9 1 v l.length (l.map encStr)) (hv : l = [] → v = .slice none 0 0) (hB : B ≤ w.heap.size) (hn : l.length ≤ 1000000) :
    Calls Tryz.prog 24 #[v, .string s] w (AdP B v l s w) := by
  rcases Nat.eq_zero_or_pos l.length with h0 | h0
  · have e : l = [] := List.length_eq_zero_iff.1 h0
    subst e
    rw [hv rfl]
    refine (AddText_nil B s w hB).mono ?_
    rintro e w' ⟨v', rfl, h1, h2, h3⟩
    exact ⟨v', rfl, h1, h2, fun g hg => .inr (h3 g hg)⟩
  · exact AddText_some B v l s w h h0 hn
end Go.Proofs.YtankaiopdbcndaaGreatDoor
