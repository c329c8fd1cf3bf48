/- The document's FileAt; a file among others that came in, as the document adds it. -/
import Derived.Test.YtapiedeekbfpnaaGreatDoorTa7
import Derived.Deep.QuietTactic
import Derived.BigQuiet
import Derived.BigRegion
namespace Go.Proofs.YtapiedeekbfpnaaGreatDoor
open Go.RowKit Go.Shelf Go.Maps Go.WideMaps Go.Sort
attribute [local go_sem ↓] appS_eq

theorem eqL (a b : ByteArray) : (a.toList == b.toList) = decide (a.data.toList = b.data.toList) := by
  rw [Lib.toList_data, Lib.toList_data, Bool.eq_iff_iff]
  simp
def FaR (L : List Fl) (s : List UInt8) (i : Int) : Prop := (i = -1 ∧ ∀ f ∈ L, pth f ≠ s) ∨ ∃ (j : Nat) (hj : j < L.length), i = j ∧ pth L[j] = s ∧ ∀ j' (hj' : j' < L.length), j' < j → pth L[j'] ≠ s

set_option maxHeartbeats 4000000 in
set_option maxRecDepth 100000 in
theorem FileAt_any (ao : Option Addr) (ac : Nat) (L : List Fl) (s : ByteArray) (w : World) (hl : IsFl w ao L) (hn : L.length ≤ 4611686018427387904) :
    Calls Tryz.prog 16 #[.slice ao L.length ac, .string s] w fun e w' => ∃ i, e = .returned (.int .i64 i) ∧ FaR L s.data.toList i ∧ w' = w := by
  have HL : Hid (IsFl w ao L) := hl
  have hn1 : (L.length : Int) ≤ 4611686018427387904 := by omega
  clear hl
  go_enter Tryz.func16, Tryz.ntmps16
  go_wp2
  go_loopw [5] (fun i wr => ∃ k : Nat, k ≤ L.length ∧ i = .int .i64 k ∧ (∀ j (hj : j < L.length), j < k → pth L[j] ≠ s.data.toList) ∧ wr = w) (fun i _ => L.length - (intOf i).toNat)
  case atStart => exact ⟨0, by omega, rfl, fun j _ h => absurd h (Nat.not_lt_zero _), rfl⟩
  case round =>
    obtain ⟨k, hk, rfl, hq, rfl⟩ := hrel
    have HQ : Hid (∀ j (hj : j < L.length), j < k → pth L[j] ≠ s.data.toList) := hq
    clear hq
    by_cases hlt : k < L.length
    · rcases HL.out with h | ⟨g, o, rfl, hg, hc⟩
      · exfalso; rw [h] at hlt; exact absurd hlt (by simp)
      obtain ⟨c0, _, _⟩ := hc k hlt
      have hki : (k : Int) < (L.length : Int) := by omega
      have hpe : (L[k].pa.toList == s.toList) = decide (pth L[k] = s.data.toList) := eqL _ _
      clear hc
      by_cases hp : pth L[k] = s.data.toList
      · have HZ : Hid (FaR L s.data.toList k) := .inr ⟨k, hlt, rfl, hp, HQ.out⟩
        rw [decide_eq_true hp] at hpe
        clear hp
        go_wp2
        go_ret
        exact ⟨_, rfl, HZ.out, rfl⟩
      · have HZ : Hid (∀ j (hj : j < L.length), j < k + 1 → pth L[j] ≠ s.data.toList) := fun j hj h => by
          by_cases e : j < k
          · exact HQ.out j hj e
          · have e2 : j = k := by omega
            subst e2
            exact hp
        rw [decide_eq_false hp] at hpe
        clear hp
        go_wp2
        exact ⟨⟨k + 1, by omega, by go_num, HZ.out, trivial⟩, by simp [intOf]; omega⟩
    · obtain rfl : k = L.length := by omega
      have hki : ¬ (L.length : Int) < (L.length : Int) := by omega
      have HZ : Hid (FaR L s.data.toList (-1)) := .inl ⟨rfl, fun f hf => by
        obtain ⟨j, hj, rfl⟩ := List.mem_iff_getElem.1 hf
        exact HQ.out j hj hj⟩
      go_wp2
      go_ret
      exact ⟨_, rfl, HZ.out, rfl⟩

theorem insF_take (f : Fl) : ∀ (L : List Fl) (k : Nat), k ≤ L.length → (∀ (j : Nat) (hj : j < L.length), j < k → pth L[j] < pth f) → (∀ hk : k < L.length, ¬ pth L[k] < pth f) → insF f L = L.take k ++ f :: L.drop k
  | [], k, hk, _, _ => by simp [insF]
  | g :: l, 0, _, _, h2 => by
    have h3 : ¬ pth g < pth f := h2 (by simp)
    unfold insF
    rw [if_neg h3]
    rfl
  | g :: l, k + 1, hk, h1, h2 => by
    have h3 : pth g < pth f := h1 0 (by simp) (by omega)
    have ih := insF_take f l k (by simpa using hk) (fun j hj hjk => h1 (j + 1) (by simp; omega) (by omega)) (fun hk2 => h2 (by simp; omega))
    unfold insF
    rw [if_pos h3, ih]
    rfl
theorem flCells_app (A C : List Fl) : flCells (A ++ C) = flCells A ++ flCells C := by simp [flCells]
theorem flCells_len (A : List Fl) : (flCells A).length = A.length * 3 := by
  induction A with
  | nil => rfl
  | cons f l ih =>
    have e : flCells (f :: l) = [.string f.pa, .string f.tx, .bool f.rn] ++ flCells l := rfl
    rw [e, List.length_append, ih, List.length_cons]
    simp
    omega
theorem flCells_one (A : List Fl) : ∀ u ∈ flCells A, u.oneCell' = true := fun u hu => by
  obtain ⟨f, _, hf⟩ := List.mem_flatMap.1 hu
  simp at hf
  rcases hf with rfl | rfl | rfl <;> rfl
/-- Cell by cell. -/
theorem flAt_cells {w : World} {g o : Nat} {F : List Fl} (h : FlAt g o F w) : ∀ j u, (flCells F)[j]? = some u → w.cell? ⟨g, o + j, none⟩ = some u := fun j u hu => by
  have hj : j < (flCells F).length := (List.getElem?_eq_some_iff.1 hu).1
  rw [flCells_len] at hj
  have hq : j / 3 < F.length := by omega
  obtain ⟨h0, h1, h2⟩ := h (j / 3) hq
  obtain ⟨k0, k1, k2⟩ := flCells_get F (j / 3) hq
  have hm : j % 3 = 0 ∨ j % 3 = 1 ∨ j % 3 = 2 := by omega
  rcases hm with e | e | e
  · have e2 : j = j / 3 * 3 := by omega
    rw [e2] at hu ⊢
    rw [k0] at hu
    rw [← hu]
    exact h0
  · have e2 : j = j / 3 * 3 + 1 := by omega
    rw [e2] at hu ⊢
    rw [k1] at hu
    rw [← hu]
    exact h1
  · have e2 : j = j / 3 * 3 + 2 := by omega
    rw [e2] at hu ⊢
    rw [k2] at hu
    rw [← hu]
    exact h2
theorem flAt_drop {w : World} {g o : Nat} {F : List Fl} (h : FlAt g o F w) (k : Nat) : FlAt g (o + k * 3) (F.drop k) w := fun j hj => by
  have hj2 : k + j < F.length := by rw [List.length_drop] at hj; omega
  obtain ⟨h0, h1, h2⟩ := h (k + j) hj2
  have e : o + k * 3 + j * 3 = o + (k + j) * 3 := by omega
  rw [e, List.getElem_drop]
  exact ⟨h0, h1, h2⟩
theorem flAt_take {w : World} {g o : Nat} {F : List Fl} (h : FlAt g o F w) (k : Nat) : FlAt g o (F.take k) w := fun j hj => by
  have hj2 : j < F.length := by rw [List.length_take] at hj; omega
  rw [List.getElem_take]
  exact h j hj2
theorem flAt_heap {w w' : World} {g o : Nat} {F : List Fl} (h : FlAt g o F w) (hb : w'.heap[g]? = w.heap[g]?) : FlAt g o F w' := fun j hj =>
  ⟨(World.cell?_of_block (w := w) hb).trans (h j hj).1, (World.cell?_of_block (w := w) hb).trans (h j hj).2.1, (World.cell?_of_block (w := w) hb).trans (h j hj).2.2⟩

/-- How adding ends. -/
def AfP (B : Nat) (F : List Fl) (w : World) (e : Ending) (w' : World) : Prop := ∃ g c, e = .returned (.slice (some ⟨g, 0, none⟩) F.length c) ∧ w'.ownsRow B 35 3 (.slice (some ⟨g, 0, none⟩) F.length c) F.length (flCells F) ∧ Below w.heap.size w w' ∧ w.heap.size ≤ g

/-- Both appends, wherever the file stands. -/
theorem addO_ap {B g o cap : Nat} {F : List Fl} {X : World} (hF : FlAt g o F X) (hg : g < X.heap.size) (hB : B ≤ X.heap.size) (f : Fl) (hn : F.length ≤ 1000) (hcap : F.length ≤ cap) (k : Nat) (hk : k ≤ F.length) (n : Nat) :
    ∃ (A : Addr) (v1 : Value) (g2 c2 : Nat) (w1 w2 : World), (if cap = k then some (⟨g, o, none⟩ : Addr) else some ⟨g, o + k * 3, none⟩) = some A ∧
      (appS #[22, 22] 22 #[.slice (some ⟨X.heap.size, 0, none⟩) 1 1, .slice (some A) (F.length - k) (cap - k)]).run Tryz.prog ((X.alloc (.cells #[.string f.pa, .string f.tx, .bool f.rn] 35)).drewN n) = .ok v1 w1 ∧
      (appS #[22, 22] 22 #[.slice (some ⟨g, o, none⟩) k k, v1]).run Tryz.prog w1 = .ok (.slice (some ⟨g2, 0, none⟩) (F.length + 1) c2) w2 ∧
      w2.ownsRow B 35 3 (.slice (some ⟨g2, 0, none⟩) (F.length + 1) c2) (F.length + 1) (flCells (F.take k ++ f :: F.drop k)) ∧ Below X.heap.size X w2 ∧ X.heap.size ≤ g2 := by
  obtain ⟨i0, hi, hz0, hz1, hz2⟩ := info_p infF
  obtain ⟨Y, hY⟩ : ∃ Y, Y = (X.alloc (.cells #[.string f.pa, .string f.tx, .bool f.rn] 35)).drewN n := ⟨_, rfl⟩
  rw [← hY]
  have hzY : Y.heap.size = X.heap.size + 1 := by rw [hY]; exact World.size_alloc _ _
  have hoY : ∀ x : Nat, x < X.heap.size → Y.heap[x]? = X.heap[x]? := fun x hx => by rw [hY]; exact ((Below.refl X.heap.size X).alloc (Nat.le_refl _) _).block x hx
  have hnY : Y.heap[X.heap.size]? = some (.cells #[.string f.pa, .string f.tx, .bool f.rn] 35 (0, 0)) := by rw [hY]; exact heap_alloc_new X _
  have hbY : Below X.heap.size X Y := by rw [hY]; exact (⟨rfl, rfl, rfl, ((Below.refl _ X).alloc (Nat.le_refl _) (.cells #[.string f.pa, .string f.tx, .bool f.rn] 35)).size, ((Below.refl _ X).alloc (Nat.le_refl _) (.cells #[.string f.pa, .string f.tx, .bool f.rn] 35)).block⟩ : Below X.heap.size X ((X.alloc (.cells #[.string f.pa, .string f.tx, .bool f.rn] 35)).drewN n))
  have hFY : FlAt g o F Y := flAt_heap hF (hoY g hg)
  obtain ⟨A, hA, hsrc⟩ : ∃ A : Addr, (if cap = k then some (⟨g, o, none⟩ : Addr) else some ⟨g, o + k * 3, none⟩) = some A ∧ ∀ j u, (flCells (F.drop k))[j]? = some u → Y.cell? (A.add j) = some u := by
    by_cases hck : cap = k
    · refine ⟨⟨g, o, none⟩, by simp [hck], fun j u hu => ?_⟩
      have : F.drop k = [] := List.drop_eq_nil_iff.2 (by omega)
      rw [this] at hu
      cases hu
    · refine ⟨⟨g, o + k * 3, none⟩, by simp [hck], fun j u hu => ?_⟩
      rw [addr_add]
      exact flAt_cells (flAt_drop hFY k) j u hu
  have hown0 : Y.ownsRow X.heap.size 35 3 (.slice (some ⟨X.heap.size, 0, none⟩) 1 1) 1 [.string f.pa, .string f.tx, .bool f.rn] :=
    ⟨rfl, .inr ⟨X.heap.size, 1, #[.string f.pa, .string f.tx, .bool f.rn], rfl, Nat.le_refl _, hnY, Nat.le_refl _, by decide, rfl, rfl⟩⟩
  obtain ⟨v1, w1, hr1, ho1, hg1', _⟩ := run_append_own (P := Tryz.prog) Y X.heap.size 22 22 35 i0 (.agg #[.string ⟨#[]⟩, .string ⟨#[]⟩, .bool false]) 3 40 Tryz.underlying22 hi hz0 hz1 hz2 rfl (by decide) (.slice (some ⟨X.heap.size, 0, none⟩) 1 1) 1 [.string f.pa, .string f.tx, .bool f.rn] hown0 A (F.length - k) (cap - k) (flCells (F.drop k)) (by rw [flCells_len, List.length_drop]) hsrc (flCells_one _) (by unfold maxLen; omega) (by omega) (by omega)
  obtain ⟨g1, c1, hv1, hg3, hg4⟩ := ho1.form (by omega)
  have hw1 : ∀ x : Nat, x < X.heap.size → w1.heap[x]? = X.heap[x]? := fun x hx => (hg1'.block x (by omega) (fun e => by simp [Value.ownBlock] at e; omega)).trans (hoY x hx)
  have hcells1 : ∀ j u, ([.string f.pa, .string f.tx, .bool f.rn] ++ flCells (F.drop k))[j]? = some u → w1.cell? ((⟨g1, 0, none⟩ : Addr).add j) = some u := by
    have := ho1
    rw [hv1] at this
    exact this.cells rfl
  have hFt : ∀ j u, (flCells (F.take k))[j]? = some u → w1.cell? ((⟨g, o, none⟩ : Addr).add j) = some u := fun j u hu => by
    rw [addr_add]
    exact flAt_cells (flAt_take (flAt_heap hF (hw1 g hg)) k) j u hu
  obtain ⟨v2, w2, hr2, ho2, hg2'⟩ := run_append_arg_grows (P := Tryz.prog) w1 22 22 35 i0 (.agg #[.string ⟨#[]⟩, .string ⟨#[]⟩, .bool false]) 3 40 Tryz.underlying22 hi hz0 hz1 hz2 rfl (by decide) ⟨g, o, none⟩ k k (flCells (F.take k)) (by rw [flCells_len, List.length_take]; omega) hFt ⟨g1, 0, none⟩ (1 + (F.length - k)) c1 ([.string f.pa, .string f.tx, .bool f.rn] ++ flCells (F.drop k)) (by rw [List.length_append, flCells_len, List.length_drop]; simp; omega) hcells1 (by omega) (by unfold maxLen; omega) (by omega)
  have hsz1 : X.heap.size ≤ w1.heap.size := by have := hg1'.size; omega
  have el : k + (1 + (F.length - k)) = F.length + 1 := by omega
  have ec : flCells (F.take k) ++ ([.string f.pa, .string f.tx, .bool f.rn] ++ flCells (F.drop k)) = flCells (F.take k ++ f :: F.drop k) := by
    rw [flCells_app]
    rfl
  rw [el, ec] at ho2
  obtain ⟨g2, c2, hv2, hg5, _⟩ := ho2.form (by omega)
  subst hv2
  rw [hv1] at hr1
  refine ⟨A, _, g2, c2, w1, w2, hA, hr1, hr2, row_low ho2 (by omega), ⟨hg2'.os.trans (hg1'.os.trans hbY.os), hg2'.tape.trans (hg1'.tape.trans hbY.tape), hg2'.output.trans (hg1'.output.trans hbY.output), by have := hg2'.size; omega, fun x hx => (hg2'.block x (by omega) (fun e => by cases e)).trans (hw1 x hx)⟩, by omega⟩

set_option maxHeartbeats 8000000 in
set_option maxRecDepth 100000 in
theorem AddFile_o (B g o cap : Nat) (F : List Fl) (f : Fl) (w : World) (h : FlAt g o F w) (hcap : F.length ≤ cap) (hg : g < w.heap.size) (hn : F.length ≤ 1000) (hB : B ≤ w.heap.size) :
    Calls Tryz.prog 18 #[.slice (some ⟨g, o, none⟩) F.length cap, encF f] w (AfP B (insF f F) w) := by
  obtain ⟨fp, ft, fr⟩ := f
  obtain ⟨X, hX⟩ : ∃ X, X = w.alloc (.cells #[.string fp, .string ft, .bool fr] 35) := ⟨_, rfl⟩
  have hbX : Below w.heap.size w X := by rw [hX]; exact (Below.refl _ w).alloc (Nat.le_refl _) _
  have hzX : X.heap.size = w.heap.size + 1 := by rw [hX]; exact World.size_alloc _ _
  have hFX : FlAt g o F X := flAt_heap h (hbX.block g hg)
  have HC : Hid (∀ (k : Nat) (hk : k < F.length), X.cell? ⟨g, o + k * 3, none⟩ = some (.string F[k].pa)) := fun k hk => (hFX k hk).1
  have x0 : X.cell? ⟨w.heap.size, 0, none⟩ = some (.string fp) := by rw [hX]; exact (Lib.cell_of_heap (heap_alloc_new w _) 0)
  have x1 : X.cell? ⟨w.heap.size, 1, none⟩ = some (.string ft) := by rw [hX]; exact (Lib.cell_of_heap (heap_alloc_new w _) 1)
  have x2 : X.cell? ⟨w.heap.size, 2, none⟩ = some (.bool fr) := by rw [hX]; exact (Lib.cell_of_heap (heap_alloc_new w _) 2)
  have HAp : Hid (∀ (k : Nat) (n : Nat), k ≤ F.length → ∃ (A : Addr) (v1 : Value) (g2 c2 : Nat) (w1 w2 : World), (if cap = k then some (⟨g, o, none⟩ : Addr) else some ⟨g, o + k * 3, none⟩) = some A ∧
      (appS #[22, 22] 22 #[.slice (some ⟨X.heap.size, 0, none⟩) 1 1, .slice (some A) (F.length - k) (cap - k)]).run Tryz.prog ((X.drewN n).alloc (.cells #[.string fp, .string ft, .bool fr] 35)) = .ok v1 w1 ∧
      (appS #[22, 22] 22 #[.slice (some ⟨g, o, none⟩) k k, v1]).run Tryz.prog w1 = .ok (.slice (some ⟨g2, 0, none⟩) (F.length + 1) c2) w2 ∧
      Hid (w2.ownsRow B 35 3 (.slice (some ⟨g2, 0, none⟩) (F.length + 1) c2) (F.length + 1) (flCells (F.take k ++ ⟨fp, ft, fr⟩ :: F.drop k)) ∧ Below w.heap.size w w2 ∧ w.heap.size ≤ g2)) := fun k n hk => by
    obtain ⟨A, v1, g2, c2, w1, w2, h1, h2, h3, h4, h5, h6⟩ := addO_ap (B := B) (cap := cap) hFX (by omega) (by omega) ⟨fp, ft, fr⟩ hn hcap k hk n
    exact ⟨A, v1, g2, c2, w1, w2, h1, h2, h3, h4, hbX.trans (h5.mono hbX.size), by omega⟩
  have hn1 : (F.length : Int) ≤ 1000 := by omega
  unfold encF
  simp only
  clear h hbX hFX hg hzX
  go_enter Tryz.func18, Tryz.ntmps18
  go_wp2
  rw [← hX]
  clear hX
  go_loopw [5] (fun v wr => ∃ k m : Nat, k ≤ F.length ∧ v = .int .i64 (k : Int) ∧ wr = X.drewN m ∧ Hid (∀ (j : Nat) (hj : j < F.length), j < k → pth F[j] < fp.data.toList)) (fun v _ => F.length - (RowKit.intOf v).toNat)
  case atStart => exact ⟨0, 0, Nat.zero_le _, rfl, rfl, fun j hj h => absurd h (by omega)⟩
  case round =>
    obtain ⟨k, m, hk, rfl, rfl, HLo⟩ := hrel
    obtain ⟨k1, hk1⟩ : ∃ k1, k1 = k + 1 := ⟨_, rfl⟩
    have hk2 : (k : Int) + 1 = (k1 : Int) := by omega
    have hw2 : IntKind.i64.wrap (k1 : Int) = (k1 : Int) := by rw [IntKind.wrap_i64]; omega
    have HK1 : Hid (k1 = k + 1) := hk1
    have hk4 : k ≤ cap := by omega
    clear hk1
    by_cases hlt : k < F.length
    · have hki : (k : Int) < (F.length : Int) := by omega
      have c1 := HC.out k hlt
      have hbl : Op.bytesLess (F[k].pa).toList fp.toList = decide (pth F[k] < fp.data.toList) := by rw [Lib.toList_data, Lib.toList_data, tlt]; rfl
      by_cases hb : pth F[k] < fp.data.toList
      · rw [decide_eq_true hb] at hbl
        have HLo2 : Hid (∀ (j : Nat) (hj : j < F.length), j < k1 → pth F[j] < fp.data.toList) := fun j hj hj2 => by
          by_cases e : j < k
          · exact HLo.out j hj e
          · have e2 : j = k := by have := HK1.out; omega
            subst e2
            exact hb
        clear hb
        generalize F[k].pa = x at c1 hbl
        go_wp2
        go_quiet (fail)
        go_wp2
        refine ⟨⟨k1, m + nq, by rw [HK1.out]; exact hlt, rfl, by simp, HLo2⟩, ?_⟩
        have := HK1.out
        simp [RowKit.intOf]; omega
      · rw [decide_eq_false hb] at hbl
        have HZ : Hid (insF ⟨fp, ft, fr⟩ F = F.take k ++ ⟨fp, ft, fr⟩ :: F.drop k ∧ (F.take k ++ ⟨fp, ft, fr⟩ :: F.drop k).length = F.length + 1) := ⟨insF_take _ F k hk HLo.out fun _ => hb, by simp; omega⟩
        clear hb
        generalize F[k].pa = x at c1 hbl
        go_wp2
        go_quiet (fail)
        obtain ⟨A, v1, g2, c2, w1, w2, hA, ha1, ha2, HE⟩ := HAp.out k (m + nq + 1) hk
        have HF : Hid (AfP B (insF ⟨fp, ft, fr⟩ F) w (.returned (.slice (some ⟨g2, 0, none⟩) (F.length + 1) c2)) w2) := ⟨g2, c2, by rw [HZ.out.1, HZ.out.2], by rw [HZ.out.1, HZ.out.2]; exact HE.out.1, HE.out.2⟩
        clear hlt
        go_wp2
        go_region
        all_goals
          go_wp2
          go_ret
          exact HF.out
    · have hki : ¬ (k : Int) < (F.length : Int) := by omega
      have HZ : Hid (insF ⟨fp, ft, fr⟩ F = F.take k ++ ⟨fp, ft, fr⟩ :: F.drop k ∧ (F.take k ++ ⟨fp, ft, fr⟩ :: F.drop k).length = F.length + 1) := ⟨insF_take _ F k hk HLo.out fun h => absurd h hlt, by simp; omega⟩
      go_wp2
      go_quiet (fail)
      obtain ⟨A, v1, g2, c2, w1, w2, hA, ha1, ha2, HE⟩ := HAp.out k (m + nq + 1) hk
      have HF : Hid (AfP B (insF ⟨fp, ft, fr⟩ F) w (.returned (.slice (some ⟨g2, 0, none⟩) (F.length + 1) c2)) w2) := ⟨g2, c2, by rw [HZ.out.1, HZ.out.2], by rw [HZ.out.1, HZ.out.2]; exact HE.out.1, HE.out.2⟩
      go_wp2
      go_region
      all_goals
        go_wp2
        go_ret
        exact HF.out
end Go.Proofs.YtapiedeekbfpnaaGreatDoor
