/- Differs. -/
import Derived.Test.YtefdfcjohkndgaaGreatDoorTa9
namespace Go.Proofs.YtefdfcjohkndgaaGreatDoor
open Go.RowKit Go.Shelf Go.Maps Go.WideMaps Go.Sort
attribute [local go_sem ↓] appS_eq

/-- The first error of two trees. -/
def erF (A C : List Fl) : Int := if chF A = 0 then chF C else chF A

set_option maxHeartbeats 4000000 in
set_option maxRecDepth 100000 in
theorem firstError_two (ao co : Option Addr) (ac cc : Nat) (A C : List Fl) (g : Nat) (w : World) (ha : IsFl w ao A) (hc : IsFl w co C) (hm : MaxIs w) (c0 : w.cell? ⟨g, 0, none⟩ = some (.slice ao A.length ac)) (c1 : w.cell? ⟨g, 1, none⟩ = some (.slice co C.length cc)) :
    Calls Tryz.prog 39 #[.slice (some ⟨g, 0, none⟩) 2 2] w fun e w' => e = .returned (.int .i64 (erF A C)) ∧ Below w.heap.size w w' := by
  have hg : g < w.heap.size := by simpa using World.block_lt_of_cell? w _ c0
  have HA : Hid (Calls Tryz.prog 20 #[.slice ao A.length ac] w fun e w' => e = .returned (.int .i64 (chF A)) ∧ Below w.heap.size w w') := Check_any ao ac A w ha hm
  have HC : Hid (∀ W, Below w.heap.size w W → Calls Tryz.prog 20 #[.slice co C.length cc] W fun e w' => e = .returned (.int .i64 (chF C)) ∧ Below W.heap.size W w') := fun W hW => Check_any co cc C W (hc.below hW (Nat.le_refl _)) (hm.up hW)
  clear ha hc hm
  unfold erF
  by_cases h1 : chF A = 0
  · rw [if_pos h1]
    rw [h1] at HA
    clear h1
    obtain ⟨c, hcc⟩ : ∃ c, chF C = c := ⟨_, rfl⟩
    rw [hcc] at HC ⊢
    clear hcc
    by_cases h2 : c = 0
    · subst h2
      go_enter Tryz.func39, Tryz.ntmps39
      go_wp2
      refine wp_loop_rounds 3 ?_
      rw [rounds_succ]
      go_wp2_with fail
      refine HA.out.mono ?_
      rintro e w1 ⟨rfl, hb1⟩
      have d1 := (hb1.cell (p := ⟨g, 1, none⟩) hg).trans c1
      have HB1 : Hid (Below w.heap.size w w1) := hb1
      clear hb1
      go_wp2
      rw [rounds_succ]
      go_wp2_with fail
      refine (HC.out _ HB1.out).mono ?_
      rintro e w2 ⟨rfl, hb2⟩
      have HB2 : Hid (Below w.heap.size w w2) := HB1.out.trans (hb2.mono HB1.out.size)
      clear hb2
      go_wp2
      rw [rounds_succ]
      go_wp2
      go_ret
      exact ⟨rfl, HB2.out⟩
    · have h2' : (c != 0) = true := by simpa using h2
      clear h2
      go_enter Tryz.func39, Tryz.ntmps39
      go_wp2
      refine wp_loop_rounds 2 ?_
      rw [rounds_succ]
      go_wp2_with fail
      refine HA.out.mono ?_
      rintro e w1 ⟨rfl, hb1⟩
      have d1 := (hb1.cell (p := ⟨g, 1, none⟩) hg).trans c1
      have HB1 : Hid (Below w.heap.size w w1) := hb1
      clear hb1
      go_wp2
      rw [rounds_succ]
      go_wp2_with fail
      refine (HC.out _ HB1.out).mono ?_
      rintro e w2 ⟨rfl, hb2⟩
      have HB2 : Hid (Below w.heap.size w w2) := HB1.out.trans (hb2.mono HB1.out.size)
      clear hb2
      go_wp2
      go_ret
      exact ⟨rfl, HB2.out⟩
  · rw [if_neg h1]
    obtain ⟨c, hcc⟩ : ∃ c, chF A = c := ⟨_, rfl⟩
    rw [hcc] at HA h1 ⊢
    have h1' : (c != 0) = true := by simpa using h1
    clear hcc h1 HC
    go_enter Tryz.func39, Tryz.ntmps39
    go_wp2
    refine wp_loop_rounds 1 ?_
    rw [rounds_succ]
    go_wp2_with fail
    refine HA.out.mono ?_
    rintro e w1 ⟨rfl, hb1⟩
    have HB1 : Hid (Below w.heap.size w w1) := hb1
    clear hb1
    go_wp2
    go_ret
    exact ⟨rfl, HB1.out⟩

theorem lookG {M n : Nat} {C : List Fl} {w : World} (hown : w.ownsMap Tryz.prog 9 fileE M n (byD C)) (hn : (C.map pth).Nodup) (s : ByteArray) (hs : s.size ≤ maxLen) :
    ∀ W : World, W.heap[M]? = w.heap[M]? → (Instr.lookup 68 (.map (some M)) (.string s) false).run Tryz.prog W = .ok (encF (getF C s.data.toList)) W := fun W hW => by
  obtain ⟨v, ps, hr, hv⟩ := (ownsMap_heap hown hW).lookup lawS Tryz.underlying68 (zeroF W) (fileE_mk zeroFl) (keyOf_string_mk Tryz.underlying9 hs)
  rw [getF_byD hn] at hv
  obtain ⟨f, rfl, hf⟩ := fileE_inv hv
  rw [fD_inj hf]
  exact hr

/-- One text more, at the end of a row. -/
theorem rowS_add {B : Nat} {l : List (List UInt8)} {v : Value} {w : World} (h : w.ownsRow B 9 1 v l.length (l.map encStr)) (hB : B ≤ w.heap.size) (s : ByteArray) (hl : l.length ≤ 1000000) :
    ∃ G C w', (appS #[23, 23] 23 #[v, .slice (some ⟨w.heap.size, 0, none⟩) 1 1]).run Tryz.prog (w.alloc (.cells #[.string s] 9)) = .ok (.slice (some ⟨G, 0, none⟩) (l.length + 1) C) w' ∧
      w'.ownsRow B 9 1 (.slice (some ⟨G, 0, none⟩) (l.length + 1) C) (l ++ [s.data.toList]).length ((l ++ [s.data.toList]).map encStr) ∧ Below B w w' := by
  obtain ⟨i0, hi, hz0, hz1, hz2⟩ := info_p infTx
  have hsz : (w.alloc (.cells #[.string s] 9)).heap.size = w.heap.size + 1 := World.size_alloc _ _
  have hr := h.alloc (.cells #[.string s] 9)
  obtain ⟨G, C, w', hrun, hrow, hgr, hat, hlt⟩ := run_append_lies (P := Tryz.prog) (w.alloc (.cells #[.string s] 9)) 23 23 B 9 i0 (.string ⟨#[]⟩) 1 16 Tryz.underlying23 hi hz0 hz1 hz2 rfl (by decide) v l.length (l.map encStr) hr ⟨w.heap.size, 0, none⟩ 1 1 [.string s] rfl (new_cells w _ _) (fun u hu => by rw [List.mem_singleton.1 hu]; rfl) (by decide) (by unfold maxLen; omega) (by omega) (by omega) (w.heap.size + 1) hsz
  refine ⟨G, C, w', hrun, ?_, ((Below.refl B w).alloc hB _).grown hgr (by omega) fun k hk => (hr.lt k hk).1⟩
  rw [List.length_append, List.map_append]
  simp only [List.map_cons, List.map_nil, encS]
  exact hrow

/-- How texts are answered. -/
def TxP (l : List (List UInt8)) (w : World) (e : Ending) (w' : World) : Prop := ∃ ao cap, e = .returned (.slice ao l.length cap) ∧ w'.ownsRow w.heap.size 9 1 (.slice ao l.length cap) l.length (l.map encStr) ∧ (l = [] → ao = none ∧ cap = 0) ∧ Below w.heap.size w w'

set_option maxHeartbeats 8000000 in
set_option maxRecDepth 100000 in
theorem others_any (ao : Option Addr) (ac : Nat) (A C : List Fl) (M n : Nat) (w : World) (hl : IsFl w ao A) (hA : A.length ≤ 60) (hs : ∀ f ∈ A, f.pa.size ≤ 100) (hown : w.ownsMap Tryz.prog 9 fileE M n (byD C)) (hn : (C.map pth).Nodup) :
    Calls Tryz.prog 40 #[.slice ao A.length ac, .map (some M)] w (TxP (othF A C) w) := by
  have HL : Hid (IsFl w ao A) := hl
  have HS : Hid (∀ f ∈ A, f.pa.size ≤ 100) := hs
  have HG : Hid (∀ (s : ByteArray), s.size ≤ maxLen → ∀ W : World, W.heap[M]? = w.heap[M]? → (Instr.lookup 68 (.map (some M)) (.string s) false).run Tryz.prog W = .ok (encF (getF C s.data.toList)) W) := fun s h => lookG hown hn s h
  have hMl := hown.lt
  have hn1 : (A.length : Int) ≤ 60 := by omega
  clear hl hs hown hn
  go_enter Tryz.func40, Tryz.ntmps40
  go_wp2
  go_loopw [5, 10] (fun ov i wr => ∃ k : Nat, k ≤ A.length ∧ i = .int .i64 k ∧ wr.ownsRow w.heap.size 9 1 ov (othF (A.take k) C).length ((othF (A.take k) C).map encStr) ∧ (othF (A.take k) C = [] → ov = .slice none 0 0) ∧ Below w.heap.size w wr) (fun _ i _ => A.length - (intOf i).toNat)
  case atStart => exact ⟨0, by omega, rfl, World.ownsRow_nil _ _ _ _, fun _ => rfl, Below.refl _ _⟩
  case round =>
    obtain ⟨k, hk, rfl, hrow, hnil, hb⟩ := hrel
    have hsz := hb.size
    have HB : Hid (Below w.heap.size w wr) := hb
    by_cases hlt : k < A.length
    · rcases HL.out.below hb (Nat.le_refl _) with h | ⟨g, o, rfl, hg, hc⟩
      · exfalso; rw [h] at hlt; exact absurd hlt (by simp)
      obtain ⟨c0, c1, c2⟩ := hc k hlt
      have htk : A.take (k + 1) = A.take k ++ [A[k]] := List.take_succ_eq_append_getElem hlt
      have hol := othF_len (A.take k) C
      have hkl : (A.take k).length ≤ 60 := by rw [List.length_take]; omega
      have HO : Hid (othF (A.take (k + 1)) C = if sameB (getF C (pth A[k])) A[k] = true then othF (A.take k) C else othF (A.take k) C ++ [pth A[k]]) := by
        show _ = _
        rw [htk, othF_snoc]
      have hp := HS.out _ (List.getElem_mem hlt)
      have HRow : Hid (wr.ownsRow w.heap.size 9 1 u5 (othF (A.take k) C).length ((othF (A.take k) C).map encStr)) := hrow
      have HNil : Hid (othF (A.take k) C = [] → u5 = .slice none 0 0) := hnil
      clear hc htk hnil
      generalize A[k] = x at *
      generalize othF (A.take k) C = U at *
      have hA1 : Below w.heap.size w (wr.alloc (.cells #[.string x.pa, .string x.tx, .bool x.rn] 44)) := hb.alloc hsz _
      have hAz : (wr.alloc (.cells #[.string x.pa, .string x.tx, .bool x.rn] 44)).heap.size = wr.heap.size + 1 := World.size_alloc _ _
      have hlk := HG.out x.pa (by unfold maxLen; omega) (wr.alloc (.cells #[.string x.pa, .string x.tx, .bool x.rn] 44)) ((Below.heap_alloc _ _ _ (by omega)).trans (hb.block M hMl))
      have hpe : x.pa.data.toList = pth x := rfl
      rw [hpe] at hlk
      have HR1 : Hid ((wr.alloc (.cells #[.string x.pa, .string x.tx, .bool x.rn] 44)).ownsRow w.heap.size 9 1 u5 U.length (U.map encStr)) := HRow.out.alloc _
      have HA1 : Hid (Below w.heap.size w (wr.alloc (.cells #[.string x.pa, .string x.tx, .bool x.rn] 44))) := hA1
      obtain ⟨G, Cp, w4, hap, hrow4, hb4⟩ := rowS_add (w := wr.alloc (.cells #[.string x.pa, .string x.tx, .bool x.rn] 44)) HR1.out (by omega) x.pa (by omega)
      rw [hAz] at hap
      have HR4 : Hid (w4.ownsRow w.heap.size 9 1 (.slice (some ⟨G, 0, none⟩) (U.length + 1) Cp) (U ++ [pth x]).length ((U ++ [pth x]).map encStr) ∧ Below w.heap.size w w4) := ⟨hrow4, HA1.out.trans hb4⟩
      generalize getF C (pth x) = y at *
      obtain ⟨yp, yt, yr⟩ := y
      unfold encF at hlk
      simp only at hlk
      clear hrow hb hA1 hAz hrow4 hb4 hpe
      by_cases hsame : sameB ⟨yp, yt, yr⟩ x = true
      · have e := (sameB_iff _ _).1 hsame
        rw [hsame, if_pos rfl] at HO
        subst e
        simp only at *
        clear hsame hap
        go_wp2
        refine ⟨⟨k + 1, by omega, by go_num, ?_, ?_, HA1.out⟩, by simp [intOf]; omega⟩
        · rw [HO.out]
          exact HR1.out
        · rw [HO.out]
          exact HNil.out
      · rw [if_neg hsame] at HO
        have hne : ¬ (⟨yp, yt, yr⟩ : Fl) = x := fun e => hsame ((sameB_iff _ _).2 e)
        obtain ⟨xp, xt, xr⟩ := x
        simp only at *
        clear hsame
        have fin : ∀ v : Value, v = .int .i64 ((k + 1 : Nat) : Int) → (∃ k' : Nat, k' ≤ A.length ∧ v = .int .i64 k' ∧ w4.ownsRow w.heap.size 9 1 (.slice (some ⟨G, 0, none⟩) (U.length + 1) Cp) (othF (A.take k') C).length ((othF (A.take k') C).map encStr) ∧ (othF (A.take k') C = [] → (Value.slice (some ⟨G, 0, none⟩) (U.length + 1) Cp) = .slice none 0 0) ∧ Below w.heap.size w w4) := fun v hv => by
          refine ⟨k + 1, by omega, hv, ?_, ?_, HR4.out.2⟩
          · rw [HO.out]
            exact HR4.out.1
          · rw [HO.out]
            intro e
            exact absurd e (by simp)
        have FIN : Hid (∀ v : Value, v = .int .i64 ((k + 1 : Nat) : Int) → (∃ k' : Nat, k' ≤ A.length ∧ v = .int .i64 k' ∧ w4.ownsRow w.heap.size 9 1 (.slice (some ⟨G, 0, none⟩) (U.length + 1) Cp) (othF (A.take k') C).length ((othF (A.take k') C).map encStr) ∧ (othF (A.take k') C = [] → (Value.slice (some ⟨G, 0, none⟩) (U.length + 1) Cp) = .slice none 0 0) ∧ Below w.heap.size w w4)) := fin
        clear fin
        by_cases h1 : yp.toList = xp.toList
        · obtain rfl := toL_inj h1
          by_cases h2 : yt.toList = xt.toList
          · obtain rfl := toL_inj h2
            have h3 : ¬ yr = xr := fun e => hne (by rw [e])
            have h3' : (yr == xr) = false := by simpa using h3
            clear h1 h2 hne
            go_wp2
            exact ⟨FIN.out _ (by go_num), by simp [intOf]; omega⟩
          · clear h1 hne
            go_wp2
            exact ⟨FIN.out _ (by go_num), by simp [intOf]; omega⟩
        · clear hne
          go_wp2
          exact ⟨FIN.out _ (by go_num), by simp [intOf]; omega⟩
    · obtain rfl : k = A.length := by omega
      have hki : ¬ (A.length : Int) < (A.length : Int) := by omega
      rw [List.take_length] at hrow hnil
      obtain ⟨oa, oc, rfl⟩ := own_shape hrow
      have HF : Hid (wr.ownsRow w.heap.size 9 1 (.slice oa (othF A C).length oc) (othF A C).length ((othF A C).map encStr) ∧ (othF A C = [] → oa = none ∧ oc = 0)) := ⟨hrow, fun e => by
        have := hnil e
        injection this with h1 _ h3
        exact ⟨h1, h3⟩⟩
      clear hrow hnil hb
      go_wp2
      go_ret
      exact ⟨oa, oc, rfl, HF.out.1, HF.out.2, HB.out⟩
end Go.Proofs.YtefdfcjohkndgaaGreatDoor

/- Differs, whole. -/
namespace Go.Proofs.YtefdfcjohkndgaaGreatDoor
open Go.RowKit Go.Shelf Go.Maps Go.WideMaps Go.Sort
attribute [local go_sem ↓] appS_eq

theorem ok_nodup {L : List Fl} (h : chF L = 0) : (L.map pth).Nodup := by
  have h1 := (fit_iff L).1 (okT_of h).2.2
  rw [Bool.and_eq_true] at h1
  exact up_nodup h1.1
theorem ok_paths {L : List Fl} (h : okT L) : ∀ f ∈ L, f.pa.size ≤ 100 := fun f hf => pathOk_size (flE_pa (h.2.1 f hf)).1

theorem app_none (W : World) : (appS #[23, 23] 23 #[.slice none 0 0, .slice none 0 0]).run Tryz.prog W = .ok (.slice none 0 0) W := by
  obtain ⟨i0, hi, hz0, hz1, hz2⟩ := info_parts infTx
  show (Builtin.append_ #[23, 23] 23 #[.slice none 0 0, .slice none 0 0]).run Tryz.prog W = _
  simp [Builtin.append_, run_underlying Tryz.underlying23, sizeOf, typeInfo, hi, Builtin.lenOf, Builtin.firstCells]

/-- Two rows, the one behind the other. -/
theorem app_rows {B : Nat} {U V : List (List UInt8)} {a1 a2 : Option Addr} {c1 c2 : Nat} {w : World} (h1 : w.ownsRow B 9 1 (.slice a1 U.length c1) U.length (U.map encStr)) (n1 : U = [] → a1 = none ∧ c1 = 0) (h2 : w.ownsRow B 9 1 (.slice a2 V.length c2) V.length (V.map encStr)) (n2 : V = [] → a2 = none ∧ c2 = 0) (hB : B ≤ w.heap.size) (hu : U.length ≤ 1000000) (hv : V.length ≤ 1000000) :
    ∃ oa oc w', (appS #[23, 23] 23 #[.slice a1 U.length c1, .slice a2 V.length c2]).run Tryz.prog w = .ok (.slice oa (U ++ V).length oc) w' ∧
      w'.ownsRow B 9 1 (.slice oa (U ++ V).length oc) (U ++ V).length ((U ++ V).map encStr) ∧ (U ++ V = [] → oa = none ∧ oc = 0) ∧ Below B w w' := by
  rcases Nat.eq_zero_or_pos V.length with hV | hV
  · obtain rfl := List.length_eq_zero_iff.1 hV
    obtain ⟨rfl, rfl⟩ := n2 rfl
    rw [List.append_nil]
    rcases Nat.eq_zero_or_pos U.length with hU | hU
    · obtain rfl := List.length_eq_zero_iff.1 hU
      obtain ⟨rfl, rfl⟩ := n1 rfl
      exact ⟨none, 0, w, app_none w, h1, fun _ => ⟨rfl, rfl⟩, Below.refl _ _⟩
    · obtain ⟨g, cap, hf, hg1, hg2⟩ := h1.form hU
      injection hf with e1 _ e2
      subst e1 e2
      have hcap : U.length ≤ c1 := by
        rcases h1.2 with ⟨e, _⟩ | ⟨g', cap', cur, e, _, _, hle, _⟩
        · cases e
        · cases e; exact hle
      exact ⟨_, _, w, app_empty g U.length c1 hcap w, h1, fun e => by rw [e] at hU; exact absurd hU (by simp), Below.refl _ _⟩
  · obtain ⟨g, cap, hf, hg1, hg2⟩ := h2.form hV
    injection hf with e1 _ e2
    subst e1 e2
    obtain ⟨i0, hi, hz0, hz1, hz2⟩ := info_parts infTx
    have hsrc : ∀ j u, (V.map encStr)[j]? = some u → w.cell? ((⟨g, 0, none⟩ : Addr).add j) = some u := h2.cells rfl
    obtain ⟨v', w', hrun, hown, hgr, _, _⟩ := run_append_own (P := Tryz.prog) w B 23 23 9 i0 (.string ⟨#[]⟩) 1 16 Tryz.underlying23 hi hz0 hz1 hz2 rfl (by decide) (.slice a1 U.length c1) U.length (U.map encStr) h1 ⟨g, 0, none⟩ V.length c2 (V.map encStr) (by simp) hsrc (fun u hu => by obtain ⟨x, _, rfl⟩ := List.mem_map.1 hu; rfl) (by unfold maxLen; omega) (by omega) hB
    have e3 : U.length + V.length = (U ++ V).length := by simp
    rw [e3, ← List.map_append] at hown
    obtain ⟨oa, oc, rfl⟩ := own_shape hown
    exact ⟨oa, oc, w', hrun, hown, fun e => by
      have h9 := congrArg List.length e
      rw [List.length_append, List.length_nil] at h9
      omega, (Below.refl B w).grown hgr hB fun k hk => (h1.lt k hk).1⟩

/-- What Differs answers. -/
def dfL (A C : List Fl) : List (List UInt8) := if erF A C = 0 then difF A C else []
def DfP (A C : List Fl) (w : World) (e : Ending) (w' : World) : Prop := ∃ ao cap, e = .returned (.tuple #[.slice ao (dfL A C).length cap, .int .i64 (erF A C)]) ∧ w'.ownsRow w.heap.size 9 1 (.slice ao (dfL A C).length cap) (dfL A C).length ((dfL A C).map encStr) ∧ Below w.heap.size w w'

/-- Sorting a row and taking each once, whatever the row. -/
theorem sort_any {B : Nat} {D : List (List UInt8)} {oa : Option Addr} {oc : Nat} {w : World} (h : w.ownsRow B 9 1 (.slice oa D.length oc) D.length (D.map encStr)) (hn : D.length ≤ 1000000) (hB : B ≤ w.heap.size) :
    Calls Tryz.prog 23 #[.slice oa D.length oc] w fun e w' => e = .returned (.tuple #[]) ∧ w'.ownsRow B 9 1 (.slice oa D.length oc) D.length ((D.mergeSort fun x y => decide (x ≤ y)).map encStr) ∧ Below B w w' := by
  rcases Nat.eq_zero_or_pos D.length with hD | hD
  · obtain rfl := List.length_eq_zero_iff.1 hD
    refine (sortS_none oa oc w).mono ?_
    rintro e w' ⟨rfl, rfl⟩
    exact ⟨rfl, by rw [List.mergeSort_nil]; exact h, Below.refl _ _⟩
  · obtain ⟨g, cap, hf, hg1, hg2⟩ := h.form hD
    injection hf with e1 _ e2
    subst e1 e2
    refine (sort_row D h hn).mono ?_
    rintro e w' ⟨rfl, h1, h2⟩
    exact ⟨rfl, h1, (Below.refl B w).grown h2 hB fun k hk => by injection hk with hk; omega⟩
theorem comp_any {B : Nat} {D : List (List UInt8)} {oa : Option Addr} {oc : Nat} {w : World} (h : w.ownsRow B 9 1 (.slice oa D.length oc) D.length (D.map encStr)) (hn : D.length ≤ 1000000) (hB : B ≤ w.heap.size) :
    Calls Tryz.prog 24 #[.slice oa D.length oc] w fun e w' => e = .returned (.slice oa (Lib.compact D).length oc) ∧ w'.ownsRow B 9 1 (.slice oa (Lib.compact D).length oc) (Lib.compact D).length ((Lib.compact D).map encStr) ∧ Below B w w' := by
  rcases Nat.eq_zero_or_pos D.length with hD | hD
  · obtain rfl := List.length_eq_zero_iff.1 hD
    refine (Any.slices_Compact_string_empty laysComp oa oc w).mono ?_
    rintro e w' ⟨rfl, rfl⟩
    exact ⟨rfl, h, Below.refl _ _⟩
  · obtain ⟨g, cap, hf, hg1, hg2⟩ := h.form hD
    injection hf with e1 _ e2
    subst e1 e2
    refine (comp_row D h hn).mono ?_
    rintro e w' ⟨rfl, h1, h2⟩
    exact ⟨rfl, h1, (Below.refl B w).grown h2 hB fun k hk => by injection hk with hk; omega⟩

theorem erF_zero {A C : List Fl} (h : erF A C = 0) : chF A = 0 ∧ chF C = 0 := by
  unfold erF at h
  by_cases h1 : chF A = 0
  · rw [if_pos h1] at h; exact ⟨h1, h⟩
  · rw [if_neg h1] at h; exact absurd h h1

set_option maxHeartbeats 8000000 in
set_option maxRecDepth 100000 in
theorem Differs_any (ao co : Option Addr) (ac cc : Nat) (A C : List Fl) (w : World) (ha : IsFl w ao A) (hc : IsFl w co C) (hm : MaxIs w) :
    Calls Tryz.prog 19 #[.slice ao A.length ac, .slice co C.length cc] w (DfP A C w) := by
  have HF : Hid (∀ (g : Nat) (W : World), Below w.heap.size w W → W.cell? ⟨g, 0, none⟩ = some (.slice ao A.length ac) → W.cell? ⟨g, 1, none⟩ = some (.slice co C.length cc) → Calls Tryz.prog 39 #[.slice (some ⟨g, 0, none⟩) 2 2] W fun e w' => e = .returned (.int .i64 (erF A C)) ∧ Below W.heap.size W w') := fun g W hW c0 c1 => firstError_two ao co ac cc A C g W (ha.below hW (Nat.le_refl _)) (hc.below hW (Nat.le_refl _)) (hm.up hW) c0 c1
  have hAb : Below w.heap.size w (w.alloc (.cells #[.slice ao A.length ac, .slice co C.length cc] 22)) := (Below.refl _ w).alloc (Nat.le_refl _) _
  have HF1 : Hid (Calls Tryz.prog 39 #[.slice (some ⟨w.heap.size, 0, none⟩) 2 2] (w.alloc (.cells #[.slice ao A.length ac, .slice co C.length cc] 22)) fun e w' => e = .returned (.int .i64 (erF A C)) ∧ Below w.heap.size w w') := by
    refine (HF.out w.heap.size _ hAb (al_at w _ _ _ 0 _ rfl rfl) (al_at w _ _ _ 1 _ rfl rfl)).mono ?_
    rintro e w' ⟨rfl, hb⟩
    exact ⟨rfl, hAb.trans (hb.mono hAb.size)⟩
  clear HF hAb
  by_cases h0 : erF A C = 0
  · obtain ⟨hA, hC⟩ := erF_zero h0
    have oA := okT_of hA
    have oC := okT_of hC
    have pA := ok_paths oA
    have pC := ok_paths oC
    have HE : Hid (erF A C = 0) := h0
    rw [h0] at HF1
    have HBA : Hid (∀ W, Below w.heap.size w W → Calls Tryz.prog 41 #[.slice ao A.length ac] W fun e w' => e = .returned (.map (some W.heap.size)) ∧ w'.ownsMap Tryz.prog 9 fileE W.heap.size A.length (byD A) ∧ Below W.heap.size W w') := fun W hW => byPath_any ao ac A W (by have := oA.1; omega) (ha.below hW (Nat.le_refl _)) (fun f hf => by have := pA f hf; unfold maxLen; omega)
    have HBC : Hid (∀ W, Below w.heap.size w W → Calls Tryz.prog 41 #[.slice co C.length cc] W fun e w' => e = .returned (.map (some W.heap.size)) ∧ w'.ownsMap Tryz.prog 9 fileE W.heap.size C.length (byD C) ∧ Below W.heap.size W w') := fun W hW => byPath_any co cc C W (by have := oC.1; omega) (hc.below hW (Nat.le_refl _)) (fun f hf => by have := pC f hf; unfold maxLen; omega)
    have HOA : Hid (∀ M n W, Below w.heap.size w W → W.ownsMap Tryz.prog 9 fileE M n (byD C) → Calls Tryz.prog 40 #[.slice ao A.length ac, .map (some M)] W (TxP (othF A C) W)) := fun M n W hW hM => others_any ao ac A C M n W (ha.below hW (Nat.le_refl _)) oA.1 pA hM (ok_nodup hC)
    have HOC : Hid (∀ M n W, Below w.heap.size w W → W.ownsMap Tryz.prog 9 fileE M n (byD A) → Calls Tryz.prog 40 #[.slice co C.length cc, .map (some M)] W (TxP (othF C A) W)) := fun M n W hW hM => others_any co cc C A M n W (hc.below hW (Nat.le_refl _)) oC.1 pC hM (ok_nodup hA)
    have HL : Hid ((othF A C).length ≤ 60 ∧ (othF C A).length ≤ 60) := ⟨Nat.le_trans (othF_len A C) oA.1, Nat.le_trans (othF_len C A) oC.1⟩
    clear ha hc hm hA hC oA oC pA pC h0
    go_enter Tryz.func19, Tryz.ntmps19
    go_wp2_with fail
    refine HF1.out.mono ?_
    rintro e w1 ⟨rfl, hb1⟩
    have HB1 : Hid (Below w.heap.size w w1) := hb1
    clear hb1 HF1
    go_wp2_with fail
    refine (HBC.out _ HB1.out).mono ?_
    rintro e w2 ⟨rfl, hm2, hb2⟩
    have HM2 : Hid (w2.ownsMap Tryz.prog 9 fileE w1.heap.size C.length (byD C)) := hm2
    have HB2 : Hid (Below w.heap.size w w2) := HB1.out.trans (hb2.mono HB1.out.size)
    clear hm2 hb2 HBC
    go_wp2_with fail
    refine (HOA.out _ _ _ HB2.out HM2.out).mono ?_
    rintro e w3 ⟨ua, uc, rfl, hu3, hn3, hb3⟩
    have HB3 : Hid (Below w.heap.size w w3) := HB2.out.trans (hb3.mono HB2.out.size)
    have HU3 : Hid (w3.ownsRow w.heap.size 9 1 (.slice ua (othF A C).length uc) (othF A C).length ((othF A C).map encStr) ∧ (othF A C = [] → ua = none ∧ uc = 0)) := ⟨own_mono hu3 HB2.out.size, hn3⟩
    clear hu3 hn3 hb3 HOA HM2
    go_wp2_with fail
    refine (HBA.out _ HB3.out).mono ?_
    rintro e w4 ⟨rfl, hm4, hb4⟩
    have HM4 : Hid (w4.ownsMap Tryz.prog 9 fileE w3.heap.size A.length (byD A)) := hm4
    have HB4 : Hid (Below w.heap.size w w4) := HB3.out.trans (hb4.mono HB3.out.size)
    have HU4 : Hid (w4.ownsRow w.heap.size 9 1 (.slice ua (othF A C).length uc) (othF A C).length ((othF A C).map encStr)) := row_heap HU3.out.1 fun b hb => hb4.block b (HU3.out.1.lt b hb).2
    clear hm4 hb4 HBA
    go_wp2_with fail
    refine (HOC.out _ _ _ HB4.out HM4.out).mono ?_
    rintro e w5 ⟨va, vc, rfl, hv5, hn5, hb5⟩
    have HB5 : Hid (Below w.heap.size w w5) := HB4.out.trans (hb5.mono HB4.out.size)
    obtain ⟨da, dc, w6, hap, hd6, hnd6, hb6⟩ := app_rows (row_heap HU4.out fun b hb => hb5.block b (HU4.out.lt b hb).2) HU3.out.2 (own_mono hv5 HB4.out.size) hn5 HB5.out.size (by have := HL.out.1; omega) (by have := HL.out.2; omega)
    have HD6 : Hid (w6.ownsRow w.heap.size 9 1 (.slice da (othF A C ++ othF C A).length dc) (othF A C ++ othF C A).length ((othF A C ++ othF C A).map encStr)) := hd6
    have HB6 : Hid (Below w.heap.size w w6) := HB5.out.trans hb6
    have HDl : Hid ((othF A C ++ othF C A).length ≤ 1000000) := by
      show _ ≤ _
      rw [List.length_append]
      have := HL.out
      omega
    have HDf : Hid (dfL A C = Lib.compact ((othF A C ++ othF C A).mergeSort fun x y => decide (x ≤ y))) := by
      show _ = _
      unfold dfL
      rw [if_pos HE.out]
      rfl
    clear hv5 hn5 hb5 hd6 hnd6 hb6 HOC HM4 HU3 HU4 HL HB3 HB4 HB5
    generalize othF A C ++ othF C A = D at *
    go_wp2_with fail
    refine (sort_any HD6.out HDl.out HB6.out.size).mono ?_
    rintro e w7 ⟨rfl, hd7, hb7⟩
    have hl7 : D.length = (D.mergeSort fun x y => decide (x ≤ y)).length := by simp
    have HB7 : Hid (Below w.heap.size w w7) := HB6.out.trans hb7
    have hC := comp_any (D := D.mergeSort fun x y => decide (x ≤ y)) (oa := da) (oc := dc) (w := w7) (by rw [← hl7]; exact hd7) (by rw [← hl7]; exact HDl.out) HB7.out.size
    rw [← HDf.out, ← hl7] at hC
    have HCo : Hid (Calls Tryz.prog 24 #[.slice da D.length dc] w7 fun e w' => e = .returned (.slice da (dfL A C).length dc) ∧ w'.ownsRow w.heap.size 9 1 (.slice da (dfL A C).length dc) (dfL A C).length ((dfL A C).map encStr) ∧ Below w.heap.size w7 w') := hC
    clear hd7 hb7 hl7 hC hap
    go_wp2_with fail
    refine HCo.out.mono ?_
    rintro e w8 ⟨rfl, hd8, hb8⟩
    have HD8 : Hid (w8.ownsRow w.heap.size 9 1 (.slice da (dfL A C).length dc) (dfL A C).length ((dfL A C).map encStr) ∧ Below w.heap.size w w8) := ⟨hd8, HB7.out.trans hb8⟩
    clear hd8 hb8
    go_wp2
    refine bodyPost_ret (v := .tuple #[.slice da (dfL A C).length dc, .int .i64 0]) (by simp [results, Tryz.results19, go_sem]) rfl ?_
    exact ⟨_, _, by rw [HE.out], HD8.out.1, HD8.out.2⟩
  · have hd : dfL A C = [] := by unfold dfL; rw [if_neg h0]
    have HD : Hid (dfL A C = []) := hd
    obtain ⟨c, hcc⟩ : ∃ c, erF A C = c := ⟨_, rfl⟩
    have HCE : Hid (erF A C = c) := hcc
    rw [hcc] at HF1 h0
    have h0' : (c != 0) = true := by simpa using h0
    clear h0 hcc hd ha hc hm
    go_enter Tryz.func19, Tryz.ntmps19
    go_wp2_with fail
    refine HF1.out.mono ?_
    rintro e w1 ⟨rfl, hb1⟩
    have HB : Hid (Below w.heap.size w w1) := hb1
    clear hb1
    go_wp2
    refine bodyPost_ret (v := .tuple #[.slice none 0 0, .int .i64 c]) (by simp [results, Tryz.results19, go_sem]) rfl ?_
    exact ⟨none, 0, by rw [HCE.out, HD.out]; rfl, by rw [HD.out]; exact World.ownsRow_nil _ _ _ _, HB.out⟩
end Go.Proofs.YtefdfcjohkndgaaGreatDoor

/- Texts that are the same, as the laws ask it. -/
namespace Go.Proofs.YtefdfcjohkndgaaGreatDoor
open Go.RowKit Go.Shelf Go.Sort
attribute [local go_sem ↓] appS_eq

/-- Texts in a row. -/
def IsTl (w : World) (ao : Option Addr) (l : List (List UInt8)) : Prop := l = [] ∨ ∃ g, ao = some ⟨g, 0, none⟩ ∧ ∀ (k : Nat) (hk : k < l.length), w.cell? ⟨g, k, none⟩ = some (.string ⟨(l[k]).toArray⟩)
theorem own_tl {w : World} {base : Nat} {ao : Option Addr} {cap : Nat} {l : List (List UInt8)} (h : w.ownsRow base 9 1 (.slice ao l.length cap) l.length (l.map encStr)) : IsTl w ao l := by
  rcases Nat.eq_zero_or_pos l.length with h0 | h0
  · exact .inl (List.length_eq_zero_iff.1 h0)
  · obtain ⟨g, cap', hv, _, _⟩ := h.form h0
    injection hv with e1 _ e2
    subst e1 e2
    refine .inr ⟨g, rfl, fun k hk => ?_⟩
    refine (h.cellAt k (by omega)).trans ?_
    rw [List.getElem?_map, List.getElem?_eq_getElem hk]
    rfl

set_option maxHeartbeats 4000000 in
set_option maxRecDepth 100000 in
theorem SameTexts_ok (xa ya : Option Addr) (xc yc : Nat) (l : List (List UInt8)) (w : World) (hn : l.length ≤ 1000000) (hx : IsTl w xa l) (hy : IsTl w ya l) :
    Calls Tryz.prog 38 #[.slice xa l.length xc, .slice ya l.length yc] w fun e w' => e = .returned (.bool true) ∧ ∃ n, w' = w.drewN n := by
  have HX : Hid (IsTl w xa l) := hx
  have HY : Hid (IsTl w ya l) := hy
  have hn1 : (l.length : Int) ≤ 1000000 := by omega
  clear hx hy
  go_enter Tryz.func38, Tryz.ntmps38
  go_wp2
  go_loopw [5] (fun i wr => ∃ k m : Nat, k ≤ l.length ∧ i = .int .i64 k ∧ wr = w.drewN m) (fun i _ => l.length - (intOf i).toNat)
  case atStart => exact ⟨0, 0, Nat.zero_le _, rfl, rfl⟩
  case round =>
    obtain ⟨k, m, hk, rfl, rfl⟩ := hrel
    by_cases hlt : k < l.length
    · rcases HX.out with h | ⟨g, rfl, ca⟩
      · exfalso; rw [h] at hlt; exact absurd hlt (by simp)
      rcases HY.out with h | ⟨g', rfl, cb⟩
      · exfalso; rw [h] at hlt; exact absurd hlt (by simp)
      have a0 := ca k hlt
      have b0 := cb k hlt
      have hki : (k : Int) < (l.length : Int) := by omega
      clear ca cb
      generalize (⟨(l[k]).toArray⟩ : ByteArray) = x at a0 b0
      go_wp2
      go_region
      all_goals go_wp2
      all_goals exact ⟨⟨k + 1, m + 1, by omega, by go_num, rfl⟩, by simp [intOf]; omega⟩
    · obtain rfl : k = l.length := by omega
      have hki : ¬ (l.length : Int) < (l.length : Int) := by omega
      go_wp2
      go_ret
      exact ⟨rfl, m, rfl⟩

set_option maxHeartbeats 2000000 in
set_option maxRecDepth 100000 in
theorem textsAre_ok (er : Int) (xa ya : Option Addr) (xc yc : Nat) (X Y : List (List UInt8)) (w : World) (hn : X.length ≤ 1000000) (hx : IsTl w xa X) (hy : IsTl w ya Y) (h1 : er ≠ 0 → X = []) (h2 : er = 0 → X = Y) :
    Calls Tryz.prog 18 #[.slice xa X.length xc, .int .i64 er, .int .i64 er, .slice ya Y.length yc] w fun e w' => e = .returned (.bool true) ∧ Below w.heap.size w w' := by
  by_cases h0 : er = 0
  · obtain rfl := h2 h0
    subst h0
    have HS : Hid (Calls Tryz.prog 38 #[.slice xa X.length xc, .slice ya X.length yc] w fun e w' => e = .returned (.bool true) ∧ ∃ n, w' = w.drewN n) := SameTexts_ok xa ya xc yc X w hn hx hy
    clear hx hy h1 h2
    go_enter Tryz.func18, Tryz.ntmps18
    go_wp2_with fail
    refine HS.out.mono ?_
    rintro e w1 ⟨rfl, n, rfl⟩
    go_wp2
    go_ret
    exact ⟨rfl, below_drewN (Below.refl _ _) n⟩
  · obtain rfl := h1 h0
    have HS : Hid (Calls Tryz.prog 38 #[.slice xa 0 xc, .slice none 0 0] w fun e w' => e = .returned (.bool true) ∧ ∃ n, w' = w.drewN n) := SameTexts_ok xa none xc 0 [] w (by decide) (.inl rfl) (.inl rfl)
    have h0' : (er != 0) = true := by simpa using h0
    clear hx hy h1 h2 h0
    rw [show ([] : List (List UInt8)).length = 0 from rfl]
    go_enter Tryz.func18, Tryz.ntmps18
    go_wp2_with fail
    refine HS.out.mono ?_
    rintro e w1 ⟨rfl, n, rfl⟩
    go_wp2
    go_ret
    exact ⟨rfl, below_drewN (Below.refl _ _) n⟩
end Go.Proofs.YtefdfcjohkndgaaGreatDoor
