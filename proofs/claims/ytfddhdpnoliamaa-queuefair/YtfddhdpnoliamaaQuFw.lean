/- QueueFair, walked. -/
import Derived.Test.YtfddhdpnoliamaaQuFx
namespace Go.Proofs.Ytfddhdpnoliamaa
open Go.RowKit Go.Shelf
attribute [local go_sem ↓] appS_eq

/-- Numbers that came in. -/
structure IntsR (w : World) (ao : Option Addr) (l : List Int) : Prop where
  at_ : l ≠ [] → ∃ g o, ao = some ⟨g, o, none⟩ ∧ g < w.heap.size ∧ ∀ (k : Nat) (hk : k < l.length), w.cell? ⟨g, o + k, none⟩ = some (.int .i64 l[k])
  lo : ∀ x ∈ l, -9223372036854775808 ≤ x ∧ x ≤ 9223372036854775807
/-- Costs that came in. -/
structure CostsIn (w : World) (ao : Option Addr) (C : List (List Int)) : Prop where
  at_ : C ≠ [] → ∃ g o, ao = some ⟨g, o, none⟩ ∧ g < w.heap.size ∧ ∀ (t : Nat) (ht : t < C.length), ∃ bo cap, w.cell? ⟨g, o + t, none⟩ = some (.slice bo (C[t]).length cap) ∧ IntsR w bo C[t]
  len : C.length ≤ 4611686018427387904

set_option maxHeartbeats 8000000 in
set_option maxRecDepth 100000 in
theorem fair_walk (m : Int) (ao : Option Addr) (cap : Nat) (C : List (List Int)) (w : World) (hl : CostsIn w ao C) :
    Calls Try.prog 4 #[.int .i64 m, .slice ao C.length cap] w fun e w' => e = .returned (.bool true) ∧ Below w.heap.size w w' := by
  have HBg : Hid (Calls Try.prog 7 #[] w fun e w' => e = .returned (.bool true) ∧ Below w.heap.size w w') := begun_any w
  by_cases hm : m < 1 ∨ 1000 < m
  · have HN : Hid (∀ W, Calls Try.prog 8 #[.int .i64 m] W fun e w' => e = .returned (.tuple #[.pointer none, .int .i64 3]) ∧ w' = W) := fun W => New_no m W hm
    clear hm hl
    go_enter Try.func4, Try.ntmps4
    go_wp2_with fail
    refine HBg.out.mono ?_
    rintro e w1 ⟨rfl, hb1⟩
    go_wp2_with fail
    refine (HN.out w1).mono ?_
    rintro e w2 ⟨rfl, rfl⟩
    go_wp2
    go_ret
    exact ⟨rfl, hb1⟩
  obtain ⟨mn, rfl⟩ : ∃ mn : Nat, (mn : Int) = m := ⟨m.toNat, by omega⟩
  have hm1 : 1 ≤ mn := by omega
  have hm2 : mn ≤ 1000 := by omega
  have HMn : Hid (1 ≤ mn ∧ mn ≤ 1000) := ⟨hm1, hm2⟩
  have HN : Hid (∀ W : World, Calls Try.prog 8 #[.int .i64 mn] W fun e w' => e = .returned (.tuple #[.pointer (some ⟨W.heap.size, 0, none⟩), .int .i64 0]) ∧ QS W.heap.size W.heap.size (.slice none 0 0) [] w' ⟨mn, [], false⟩ ∧ Below W.heap.size W w' ∧ w'.heap.size = W.heap.size + 1) := fun W => New_yes mn W hm1 hm2
  have HL : Hid (CostsIn w ao C) := hl
  have HM : Hid (BP ⟨mn, [], false⟩ C 0 0 0 0) := BP.new C mn hm1 hm2
  obtain ⟨n, hn⟩ : ∃ n, n = min C.length 5 := ⟨_, rfl⟩
  have hn5 : n ≤ 5 := by omega
  have hnC : n ≤ C.length := by omega
  have hmin : min (C.length : Int) 5 = (n : Int) := by omega
  have HNn : Hid (n ≤ 5 ∧ n ≤ C.length) := ⟨hn5, hnC⟩
  have hmk := run_make_row' (P := Try.prog) 47 43 (.slice none 0 0) 24 Try.underlying47 infN rfl .i64 .i64 n (by omega) (by omega)
  clear hm hl hm1 hm2 hn hn5 hnC
  go_enter Try.func4, Try.ntmps4
  go_wp2_with fail
  refine HBg.out.mono ?_
  rintro e w1 ⟨rfl, hb1⟩
  go_wp2_with fail
  refine (HN.out w1).mono ?_
  rintro e w2 ⟨rfl, hq2, hb2, hz2⟩
  have HB1 : Hid (Below w.heap.size w w1) := hb1
  have H2 : Hid (QS w1.heap.size w1.heap.size (.slice none 0 0) [] w2 ⟨mn, [], false⟩ ∧ Below w1.heap.size w1 w2 ∧ w2.heap.size = w1.heap.size + 1) := ⟨hq2, hb2, hz2⟩
  clear hb1 hq2 hb2 hz2 HN HBg
  generalize hP : w1.heap.size = P at *
  go_wp2
  have HBS : Hid (BS P mn n C (.slice (some ⟨w2.heap.size, 0, none⟩) n n) w1 (w2.alloc (.cells (madeCells #[.slice none 0 0] n) 43)) 0 0 0 0 (.slice none 0 0)) := by
    obtain ⟨a, b, c⟩ := H2.out
    exact BS.first (by rw [hP]; exact a) (by rw [hP]; exact b) HM.out HNn.out.1
  clear H2 HM hmk hmin
  generalize w2.alloc (.cells (madeCells #[.slice none 0 0] n) 43) = w3 at *
  generalize w2.heap.size = Nb at *
  have HCC : Hid (∀ (c m : Int) (W : World), CC c m → Calls Try.prog 9 #[.int .i64 c, .int .i64 m] W fun e w' => e = .returned (.int .i64 (chI c m)) ∧ w' = W) := fun c m W h => choose_int c m W h
  go_loopg [9, 10, 11] n (fun gk v9 v10 v11 wr => ∃ t D na : Nat, v9 = .int .i64 (D : Int) ∧ v11 = .int .i64 (t : Int) ∧ t ≤ n ∧ Hid (gk = n - t ∧ BS P mn n C (.slice (some ⟨Nb, 0, none⟩) n n) w1 wr t 0 D na v10))
  case atStart => exact ⟨0, 0, 0, rfl, rfl, Nat.zero_le _, rfl, HBS.out⟩
  case round =>
    obtain ⟨t, D, na, rfl, rfl, htn, HI⟩ := hrel
    clear HBS
    by_cases htl : t < n
    · have i1 : (t : Int) < (n : Int) := by omega
      have i2 : (t : Int) < (C.length : Int) := by have := HNn.out; omega
      obtain ⟨g, o, rfl, hg, hcell⟩ := HL.out.at_ (by intro e; have := HNn.out.2; rw [e] at this; simp at this; omega)
      have htC : t < C.length := by have := HNn.out; omega
      obtain ⟨bo, capt, hct, hin⟩ := hcell t htC
      have HIn : Hid (IntsR w bo C[t] ∧ w.cell? ⟨g, o + t, none⟩ = some (.slice bo (C[t]).length capt) ∧ g < w.heap.size ∧ C.getD t [] = C[t] ∧ t < n) := ⟨hin, hct, hg, by rw [List.getD_eq_getElem?_getD, List.getElem?_eq_getElem htC]; rfl, htl⟩
      have HG : Hid (gk = n - t) := HI.out.1
      have HB0 : Hid (BS P mn n C (.slice (some ⟨Nb, 0, none⟩) n n) w1 wr t 0 D na u10) := HI.out.2
      clear HI hcell hct hin hg
      generalize C[t] = ct at *
      obtain ⟨Lt, hLt⟩ : ∃ Lt, Lt = ct.length := ⟨_, rfl⟩
      have HLt : Hid (Lt = ct.length) := hLt
      go_wp2_with fail
      go_loopg [9, 10, 12] 20 (fun gj v9 v10 v12 wr => ∃ k D na : Nat, v9 = .int .i64 (D : Int) ∧ v12 = .int .i64 (k : Int) ∧ k ≤ ct.length ∧ k ≤ 20 ∧ Hid (gj = 20 - k ∧ BS P mn n C (.slice (some ⟨Nb, 0, none⟩) n n) w1 wr t k D na v10))
      case atStart => exact ⟨0, D, na, rfl, rfl, Nat.zero_le _, Nat.zero_le _, rfl, HB0.out⟩
      case round =>
        obtain ⟨k, D, na, rfl, rfl, hk1, hk2, HI⟩ := hrel
        clear HB0
        by_cases hkc : k < ct.length ∧ k < 20
        · obtain ⟨hkl, hkh⟩ := hkc
          have j1 : (k : Int) < (Lt : Int) := by omega
          have j2 : (k : Int) < 20 := by omega
          obtain ⟨g2, o2, hbo, hg2, hcell2⟩ := HIn.out.1.at_ (by intro e; rw [e] at hkl; simp at hkl)
          subst hbo
          have hck := hcell2 k hkl
          have hcc2 : CC ct[k] 1000 := ⟨(HIn.out.1.lo _ (List.getElem_mem hkl)).1, (HIn.out.1.lo _ (List.getElem_mem hkl)).2, by decide⟩
          have hBw : Below w1.heap.size w1 wr := by obtain ⟨_, _, _, _, _, _, _, _, _, _, h⟩ := HI.out.2; exact h
          have hgw0 : g < w1.heap.size := by have := HB1.out.size; have := HIn.out.2.2.1; omega
          have hg2w0 : g2 < w1.heap.size := by have := HB1.out.size; omega
          have hc1 : wr.cell? ⟨g, o + t, none⟩ = some (.slice (some ⟨g2, o2, none⟩) Lt capt) := by
            rw [hBw.cell (p := ⟨g, o + t, none⟩) hgw0, HB1.out.cell (p := ⟨g, o + t, none⟩) HIn.out.2.2.1, hLt]
            exact HIn.out.2.1
          have hc2 : wr.cell? ⟨g2, o2 + k, none⟩ = some (.int .i64 ct[k]) := by
            rw [hBw.cell (p := ⟨g2, o2 + k, none⟩) hg2w0, HB1.out.cell (p := ⟨g2, o2 + k, none⟩) hg2]
            exact hck
          have hgw : g < wr.heap.size := by have := hBw.size; omega
          have hg2w : g2 < wr.heap.size := by have := hBw.size; omega
          obtain ⟨X, hX⟩ : ∃ X, X = 100 * t + k := ⟨_, rfl⟩
          obtain ⟨T, hT⟩ : ∃ T, T = t + 1 := ⟨_, rfl⟩
          obtain ⟨h100, hh100⟩ : ∃ h100, h100 = 100 * t := ⟨_, rfl⟩
          have ht5 : t < 5 := by have := HNn.out; have := HIn.out.2.2.2.2; omega
          have t1 : (t : Int) + 1 = (T : Int) := by omega
          have t2 : IntKind.i64.wrap (T : Int) = (T : Int) := by rw [IntKind.wrap_i64]; omega
          have t3 : (100 : Int) * (t : Int) = (h100 : Int) := by omega
          have t4 : IntKind.i64.wrap (h100 : Int) = (h100 : Int) := by rw [IntKind.wrap_i64]; omega
          have t5 : (h100 : Int) + (k : Int) = (X : Int) := by omega
          have t6 : IntKind.i64.wrap (X : Int) = (X : Int) := by rw [IntKind.wrap_i64]; omega
          have hcl := chs_lt ct[k] (m := 1000) (by decide)
          obtain ⟨y, hy⟩ : ∃ y, y = 1 + chs ct[k] 1000 := ⟨_, rfl⟩
          have y1 : (1 : Int) + chI ct[k] 1000 = (y : Int) := by show (1 : Int) + (chs ct[k] 1000 : Int) = _; omega
          have y2 : IntKind.i64.wrap (y : Int) = (y : Int) := by rw [IntKind.wrap_i64]; omega
          have HDg : Hid (∀ W : World, Calls Try.prog 19 #[.int .i64 (X : Int)] W fun e w' => e = .returned (.string (dgB X)) ∧ Below W.heap.size W w') := fun W => digits_any X (by omega) W
          have hnm := nm_cat X
          have HJ : Hid (fj C t k = ⟨T, nmB1 X, y⟩ ∧ 1 ≤ y ∧ y ≤ 1000 ∧ 1 ≤ T ∧ T ≤ 20 ∧ X < 1000 ∧ t < 5 ∧ k < 20 ∧ t < n ∧ k < ct.length) := by
            refine ⟨?_, by omega, by omega, by omega, by omega, by omega, ht5, hkh, HIn.out.2.2.2.2, hkl⟩
            unfold fj
            rw [HIn.out.2.2.2.1, List.getD_eq_getElem?_getD, List.getElem?_eq_getElem hkl, hX, hT, hy]
            rfl
          have HG2 : Hid (gk = 20 - k) := HI.out.1
          have HS : Hid (BS P mn n C (.slice (some ⟨Nb, 0, none⟩) n n) w1 wr t k D na u10) := HI.out.2
          generalize ct[k] = ck at *
          have HKP : Hid (∀ W W' : World, (W.cell? ⟨g, o + t, none⟩ = some (.slice (some ⟨g2, o2, none⟩) Lt capt) ∧ W.cell? ⟨g2, o2 + k, none⟩ = some (.int .i64 ck) ∧ Below wr.heap.size wr W) → Below W.heap.size W W' → (W'.cell? ⟨g, o + t, none⟩ = some (.slice (some ⟨g2, o2, none⟩) Lt capt) ∧ W'.cell? ⟨g2, o2 + k, none⟩ = some (.int .i64 ck) ∧ Below wr.heap.size wr W')) := fun W W' h1 h2 => ⟨(h2.cell (p := ⟨g, o + t, none⟩) (World.block_lt_of_cell? W _ h1.1)).trans h1.1, (h2.cell (p := ⟨g2, o2 + k, none⟩) (World.block_lt_of_cell? W _ h1.2.1)).trans h1.2.1, h1.2.2.trans (h2.mono h1.2.2.size)⟩
          have HKA : Hid (∀ (W : World) (ob : Obj), (W.cell? ⟨g, o + t, none⟩ = some (.slice (some ⟨g2, o2, none⟩) Lt capt) ∧ W.cell? ⟨g2, o2 + k, none⟩ = some (.int .i64 ck) ∧ Below wr.heap.size wr W) → ((W.alloc ob).cell? ⟨g, o + t, none⟩ = some (.slice (some ⟨g2, o2, none⟩) Lt capt) ∧ (W.alloc ob).cell? ⟨g2, o2 + k, none⟩ = some (.int .i64 ck) ∧ Below wr.heap.size wr (W.alloc ob))) := fun W ob h1 => ⟨(World.cell?_alloc_past _ _ _ (World.block_lt_of_cell? W _ h1.1)).trans h1.1, (World.cell?_alloc_past _ _ _ (World.block_lt_of_cell? W _ h1.2.1)).trans h1.2.1, h1.2.2.alloc h1.2.2.size _⟩
          have HKC : Hid (∀ (W : World) (ob ob' : Obj), wr.drew.heap.size ≤ W.heap.size → ((W.alloc ob).cell? ⟨g, o + t, none⟩ = some (.slice (some ⟨g2, o2, none⟩) Lt capt) ∧ (W.alloc ob).cell? ⟨g2, o2 + k, none⟩ = some (.int .i64 ck) ∧ Below wr.heap.size wr (W.alloc ob)) → ((W.alloc ob').cell? ⟨g, o + t, none⟩ = some (.slice (some ⟨g2, o2, none⟩) Lt capt) ∧ (W.alloc ob').cell? ⟨g2, o2 + k, none⟩ = some (.int .i64 ck) ∧ Below wr.heap.size wr (W.alloc ob'))) := fun W ob ob' hz0 h1 => by
            have hz : wr.heap.size ≤ W.heap.size := hz0
            have e1 : ∀ ob, (W.alloc ob).cell? ⟨g, o + t, none⟩ = W.cell? ⟨g, o + t, none⟩ := fun ob => World.cell?_alloc_past _ _ _ (Nat.lt_of_lt_of_le hgw hz)
            have e2 : ∀ ob, (W.alloc ob).cell? ⟨g2, o2 + k, none⟩ = W.cell? ⟨g2, o2 + k, none⟩ := fun ob => World.cell?_alloc_past _ _ _ (Nat.lt_of_lt_of_le hg2w hz)
            refine ⟨(e1 ob').trans ((e1 ob).symm.trans h1.1), (e2 ob').trans ((e2 ob).symm.trans h1.2.1), h1.2.2.os, h1.2.2.tape, h1.2.2.output, ?_, fun x hx => ?_⟩
            · rw [World.size_alloc]; omega
            · exact (heap_al W ob' x (by omega)).trans ((heap_al W ob x (by omega)).symm.trans (h1.2.2.block x hx))
          have HZ : Hid (∀ (X W : World), Below (X.alloc (.cells #[.int .i64 0, .string ⟨#[]⟩, .int .i64 0] 34)).heap.size (X.alloc (.cells #[.int .i64 0, .string ⟨#[]⟩, .int .i64 0] 34)) W → W.heap[X.heap.size]? = some (.cells #[.int .i64 0, .string ⟨#[]⟩, .int .i64 0] 34 (0, 0)) ∧ W.cell? ⟨X.heap.size, 0, none⟩ = some (.int .i64 0) ∧ W.cell? ⟨X.heap.size, 1, none⟩ = some (.string ⟨#[]⟩) ∧ W.cell? ⟨X.heap.size, 2, none⟩ = some (.int .i64 0) ∧ W.frozen? ⟨X.heap.size, 0, none⟩ = false ∧ W.frozen? ⟨X.heap.size, 1, none⟩ = false ∧ W.frozen? ⟨X.heap.size, 2, none⟩ = false) := fun X W h => by
            have hl := (h.block X.heap.size (by rw [World.size_alloc]; omega)).trans (heap_alloc_new X (.cells #[.int .i64 0, .string ⟨#[]⟩, .int .i64 0] 34))
            exact ⟨hl, by rw [Lib.cell_of_heap hl]; rfl, by rw [Lib.cell_of_heap hl]; rfl, by rw [Lib.cell_of_heap hl]; rfl, Lib.frozen_of_heap hl 0, Lib.frozen_of_heap hl 1, Lib.frozen_of_heap hl 2⟩
          have HDz : Hid (∀ Y : World, Calls Try.prog 19 #[.int .i64 (X : Int)] (Y.alloc (.cells #[.int .i64 0, .string ⟨#[]⟩, .int .i64 0] 34)) fun e w' => e = .returned (.string (dgB X)) ∧ Below (Y.alloc (.cells #[.int .i64 0, .string ⟨#[]⟩, .int .i64 0] 34)).heap.size (Y.alloc (.cells #[.int .i64 0, .string ⟨#[]⟩, .int .i64 0] 34)) w' ∧ w'.heap[Y.heap.size]? = some (.cells #[.int .i64 0, .string ⟨#[]⟩, .int .i64 0] 34 (0, 0)) ∧ w'.cell? ⟨Y.heap.size, 0, none⟩ = some (.int .i64 0) ∧ w'.cell? ⟨Y.heap.size, 1, none⟩ = some (.string ⟨#[]⟩) ∧ w'.cell? ⟨Y.heap.size, 2, none⟩ = some (.int .i64 0) ∧ w'.frozen? ⟨Y.heap.size, 0, none⟩ = false ∧ w'.frozen? ⟨Y.heap.size, 1, none⟩ = false ∧ w'.frozen? ⟨Y.heap.size, 2, none⟩ = false) := fun Y => (HDg.out _).mono fun e w' ⟨he, hb⟩ => ⟨he, hb, HZ.out Y w' hb⟩
          have HDw : Hid (∀ Y : World, Calls Try.prog 19 #[.int .i64 (X : Int)] (Y.alloc (.cells #[.int .i64 0, .string ⟨#[]⟩, .int .i64 0] 34)).drew fun e w' => e = .returned (.string (dgB X)) ∧ Below (Y.alloc (.cells #[.int .i64 0, .string ⟨#[]⟩, .int .i64 0] 34)).drew.heap.size (Y.alloc (.cells #[.int .i64 0, .string ⟨#[]⟩, .int .i64 0] 34)).drew w' ∧ w'.heap[Y.heap.size]? = some (.cells #[.int .i64 0, .string ⟨#[]⟩, .int .i64 0] 34 (0, 0)) ∧ w'.cell? ⟨Y.heap.size, 0, none⟩ = some (.int .i64 0) ∧ w'.cell? ⟨Y.heap.size, 1, none⟩ = some (.string ⟨#[]⟩) ∧ w'.cell? ⟨Y.heap.size, 2, none⟩ = some (.int .i64 0) ∧ w'.frozen? ⟨Y.heap.size, 0, none⟩ = false ∧ w'.frozen? ⟨Y.heap.size, 1, none⟩ = false ∧ w'.frozen? ⟨Y.heap.size, 2, none⟩ = false) := fun Y => (HDg.out _).mono fun e w' ⟨he, hb⟩ => ⟨he, hb, HZ.out Y w' ⟨hb.os, hb.tape, hb.output, hb.size, hb.block⟩⟩
          have HKS : Hid (∀ (W : World) (a b c : Value), (W.cell? ⟨g, o + t, none⟩ = some (.slice (some ⟨g2, o2, none⟩) Lt capt) ∧ W.cell? ⟨g2, o2 + k, none⟩ = some (.int .i64 ck) ∧ Below wr.heap.size wr W) → ((((W.setCell ⟨wr.heap.size, 0, none⟩ a).setCell ⟨wr.heap.size, 1, none⟩ b).setCell ⟨wr.heap.size, 2, none⟩ c).cell? ⟨g, o + t, none⟩ = some (.slice (some ⟨g2, o2, none⟩) Lt capt) ∧ (((W.setCell ⟨wr.heap.size, 0, none⟩ a).setCell ⟨wr.heap.size, 1, none⟩ b).setCell ⟨wr.heap.size, 2, none⟩ c).cell? ⟨g2, o2 + k, none⟩ = some (.int .i64 ck) ∧ Below wr.heap.size wr (((W.setCell ⟨wr.heap.size, 0, none⟩ a).setCell ⟨wr.heap.size, 1, none⟩ b).setCell ⟨wr.heap.size, 2, none⟩ c))) := fun W a b c h1 => by
            have hbb := ((h1.2.2.setCell (p := ⟨wr.heap.size, 0, none⟩) (Nat.le_refl _) a).setCell (p := ⟨wr.heap.size, 1, none⟩) (Nat.le_refl _) b).setCell (p := ⟨wr.heap.size, 2, none⟩) (Nat.le_refl _) c
            exact ⟨(hbb.cell (p := ⟨g, o + t, none⟩) hgw).trans hc1, (hbb.cell (p := ⟨g2, o2 + k, none⟩) hg2w).trans hc2, hbb⟩
          have HK1 : Hid ((wr.alloc (.cells #[.int .i64 0, .string ⟨#[]⟩, .int .i64 0] 34)).drew.cell? ⟨g, o + t, none⟩ = some (.slice (some ⟨g2, o2, none⟩) Lt capt) ∧ (wr.alloc (.cells #[.int .i64 0, .string ⟨#[]⟩, .int .i64 0] 34)).drew.cell? ⟨g2, o2 + k, none⟩ = some (.int .i64 ck) ∧ Below wr.heap.size wr (wr.alloc (.cells #[.int .i64 0, .string ⟨#[]⟩, .int .i64 0] 34)).drew) := ⟨(World.cell?_alloc_past _ _ _ hgw).trans hc1, (World.cell?_alloc_past _ _ _ hg2w).trans hc2, ((Below.refl _ wr).alloc (Nat.le_refl _) _).drew⟩
          have HK0 : Hid (wr.drew.cell? ⟨g, o + t, none⟩ = some (.slice (some ⟨g2, o2, none⟩) Lt capt) ∧ wr.drew.cell? ⟨g2, o2 + k, none⟩ = some (.int .i64 ck) ∧ Below wr.heap.size wr wr.drew) := ⟨hc1, hc2, (Below.refl _ wr).drew⟩
          clear hcl hy hck hcell2 hg2 hBw hgw0 hg2w0 hX hT hh100 ht5 HI hk1 hk2 hLt
          generalize dgB X = db at *
          generalize hnb : nmB1 X = nb at *
          have HJA : Hid (∀ W : World, wr.drew.heap.size ≤ W.heap.size → ((W.alloc (.cells #[.int .i64 (T : Int), .string nb, .int .i64 (y : Int)] 34)).cell? ⟨g, o + t, none⟩ = some (.slice (some ⟨g2, o2, none⟩) Lt capt) ∧ (W.alloc (.cells #[.int .i64 (T : Int), .string nb, .int .i64 (y : Int)] 34)).cell? ⟨g2, o2 + k, none⟩ = some (.int .i64 ck) ∧ Below wr.heap.size wr (W.alloc (.cells #[.int .i64 (T : Int), .string nb, .int .i64 (y : Int)] 34))) → ∃ J : Nat, (Value.pointer (some ⟨W.heap.size, 0, none⟩)) = .pointer (some ⟨J, 0, none⟩) ∧ Hid (JobIn wr (W.alloc (.cells #[.int .i64 (T : Int), .string nb, .int .i64 (y : Int)] 34)) J ⟨T, nb, y⟩)) := fun W hz h => ⟨_, rfl, h.2.2, heap_alloc_new W _, hz⟩
          have HJB : Hid (∀ W : World, W.heap[wr.heap.size]? = some (.cells #[.int .i64 0, .string ⟨#[]⟩, .int .i64 0] 34 (0, 0)) → ((((W.setCell ⟨wr.heap.size, 0, none⟩ (.int .i64 (T : Int))).setCell ⟨wr.heap.size, 1, none⟩ (.string nb)).setCell ⟨wr.heap.size, 2, none⟩ (.int .i64 (y : Int))).cell? ⟨g, o + t, none⟩ = some (.slice (some ⟨g2, o2, none⟩) Lt capt) ∧ (((W.setCell ⟨wr.heap.size, 0, none⟩ (.int .i64 (T : Int))).setCell ⟨wr.heap.size, 1, none⟩ (.string nb)).setCell ⟨wr.heap.size, 2, none⟩ (.int .i64 (y : Int))).cell? ⟨g2, o2 + k, none⟩ = some (.int .i64 ck) ∧ Below wr.heap.size wr (((W.setCell ⟨wr.heap.size, 0, none⟩ (.int .i64 (T : Int))).setCell ⟨wr.heap.size, 1, none⟩ (.string nb)).setCell ⟨wr.heap.size, 2, none⟩ (.int .i64 (y : Int)))) → ∃ J : Nat, (Value.pointer (some ⟨wr.heap.size, 0, none⟩)) = .pointer (some ⟨J, 0, none⟩) ∧ Hid (JobIn wr (((W.setCell ⟨wr.heap.size, 0, none⟩ (.int .i64 (T : Int))).setCell ⟨wr.heap.size, 1, none⟩ (.string nb)).setCell ⟨wr.heap.size, 2, none⟩ (.int .i64 (y : Int))) J ⟨T, nb, y⟩)) := fun W hz h => ⟨_, rfl, h.2.2, (three hz).1, Nat.le_refl _⟩
          go_wp2
          go_cut [13] from 46 to 99 (fun v wx => ∃ J : Nat, v = .pointer (some ⟨J, 0, none⟩) ∧ Hid (JobIn wr wx J ⟨T, nb, y⟩))
          case first =>
            go_region_held3 (fun w' => (w'.cell? ⟨g, o + t, none⟩ = some (.slice (some ⟨g2, o2, none⟩) Lt capt) ∧ w'.cell? ⟨g2, o2 + k, none⟩ = some (.int .i64 ck) ∧ Below wr.heap.size wr w'))
              (first | with_reducible exact HK0.out | with_reducible exact HK1.out | with_reducible assumption | with_reducible exact HKC.out _ _ _ hbw.size (by assumption) | with_reducible exact HKA.out _ _ (by assumption) | with_reducible exact HKS.out _ _ _ _ (by assumption) | with_reducible exact HKP.out _ _ (by assumption) hbw | fail)
              (first
                | (go_at_call 9; refine (HCC.out _ _ _ (by assumption)).mono ?_; rintro e w' ⟨rfl, rfl⟩)
                | (go_at_call 19; with_reducible refine (HDz.out _).mono ?_; rintro e w' ⟨rfl, hbw, hz0, hz1, hz2, hz3, hz4, hz5, hz6⟩)
                | (go_at_call 19; with_reducible refine (HDw.out _).mono ?_; rintro e w' ⟨rfl, hbw, hz0, hz1, hz2, hz3, hz4, hz5, hz6⟩)
                | (go_at_call 19; refine (HDg.out _).mono ?_; rintro e w' ⟨rfl, hbw⟩)
                | fail)
            all_goals
              go_wp2_with fail
              go_meet
              case rel => first | (with_reducible exact HJA.out _ hbw.size (by assumption)) | (with_reducible exact HJB.out _ hz0 (by assumption))
          case rest =>
            obtain ⟨J, rfl, HJI⟩ := hcut
            have hj1 := HJI.out.hj
            have e0 : wc.cell? ⟨J, 0, none⟩ = some (.int .i64 (T : Int)) := by rw [Lib.cell_of_heap hj1]; rfl
            have e1 : wc.cell? ⟨J, 1, none⟩ = some (.string nb) := by rw [Lib.cell_of_heap hj1]; rfl
            have e2 : wc.cell? ⟨J, 2, none⟩ = some (.int .i64 (y : Int)) := by rw [Lib.cell_of_heap hj1]; rfl
            have HPu : Hid (Calls Try.prog 10 #[.pointer (some ⟨P, 0, none⟩), .agg #[.int .i64 (T : Int), .string nb, .int .i64 (y : Int)]] wc fun e w' => e = .returned (.int .i64 0) ∧ BQ P mn n C (.slice (some ⟨Nb, 0, none⟩) n n) w1 w' t k D na u10 J ⟨T, nb, y⟩ k na) := by
              obtain ⟨q1, q2, q3, q4, q5, q6, q7, q8, q9, _⟩ := HJ.out
              exact HS.out.put (j := ⟨T, nb, y⟩) HJI.out q1 q4 q5 q2 q3 (by show nameOk nb = true; rw [← hnb]; exact nm_ok q6) q7 q8
            have HAv : Hid (∃ a c, u10 = .slice a na c) := HS.out.shape
            have HNa : Hid (na ≤ 1000) := by have := HS.out.few; have := HJ.out; show na ≤ 1000; omega
            clear hj1 HJA HJB HKP HKA HKC HKS HK0 HK1 HZ HDz HDw HDg HJI HS y1 y2 t1 t2 t3 t4 t5 t6 hc1 hc2 hgw hg2w hnm hcc2 hnb HCC
            as_aux_lemma =>
              go_wp2_with fail
              refine HPu.out.mono ?_
              rintro e W7 ⟨rfl, hBQ⟩
              clear HPu e0 e1 e2
              have hl7 := hBQ.jb
              have f0 : W7.cell? ⟨J, 0, none⟩ = some (.int .i64 (T : Int)) := by rw [Lib.cell_of_heap hl7]; rfl
              have f1 : W7.cell? ⟨J, 1, none⟩ = some (.string nb) := by rw [Lib.cell_of_heap hl7]; rfl
              have f2 : W7.cell? ⟨J, 2, none⟩ = some (.int .i64 (y : Int)) := by rw [Lib.cell_of_heap hl7]; rfl
              have hJ7 : J < W7.heap.size := (Array.getElem?_eq_some_iff.1 hl7).1
              have f3 : (W7.alloc (.cells #[.string nb] 9)).cell? ⟨J, 1, none⟩ = some (.string nb) := (World.cell?_alloc_past _ _ _ hJ7).trans f1
              obtain ⟨v, v', w8, ⟨va, vc, hv1⟩, ⟨va', vc', hv2⟩, n1, n2, n3, n4, n5, n6, n7, n8⟩ := hBQ.name HJ.out.1 HJ.out.2.2.2.2.2.2.2.2.1 HJ.out.2.2.2.2.2.2.2.1 rfl
              subst hv1
              subst hv2
              have HB8 : Hid (BQ P mn n C (.slice (some ⟨Nb, 0, none⟩) n n) w1 (w8.setCell ⟨Nb, t, none⟩ (.slice va' (k + 1) vc')) t k D na u10 J ⟨T, nb, y⟩ (k + 1) na) := n8
              obtain ⟨k1, hk1⟩ : ∃ k1, k1 = k + 1 := ⟨_, rfl⟩
              rw [← hk1] at n3 HB8
              have hk1i : (k : Int) + 1 = (k1 : Int) := by omega
              have hk1w : IntKind.i64.wrap (k1 : Int) = (k1 : Int) := by rw [IntKind.wrap_i64]; omega
              have HK1e : Hid (k1 = k + 1) := hk1
              clear hl7 hJ7 hBQ n8 hk1
              go_wp2_with fail
              go_region
              clear n1 n2 n3 n4 n5 n6 n7 f0 f1 f2 f3
              generalize w8.setCell ⟨Nb, t, none⟩ (.slice va' k1 vc') = W8 at *
              have hb8 := HB8.out
              have hl8 := hb8.jb
              have f0 : W8.cell? ⟨J, 0, none⟩ = some (.int .i64 (T : Int)) := by rw [Lib.cell_of_heap hl8]; rfl
              have f1 : W8.cell? ⟨J, 1, none⟩ = some (.string nb) := by rw [Lib.cell_of_heap hl8]; rfl
              have f2 : W8.cell? ⟨J, 2, none⟩ = some (.int .i64 (y : Int)) := by rw [Lib.cell_of_heap hl8]; rfl
              rw [HK1e.out] at hb8
              obtain ⟨v9, w9, ⟨va9, vc9, hv9⟩, r1, r2⟩ := hb8.more HNa.out
              subst hv9
              obtain ⟨D2, hD2⟩ : ∃ D2, D2 = max D y := ⟨_, rfl⟩
              have hD3 : max (D : Int) (y : Int) = (D2 : Int) := by omega
              have HB9 : Hid (BS P mn n C (.slice (some ⟨Nb, 0, none⟩) n n) w1 w9 t k1 D2 (na + 1) (.slice va9 (na + 1) vc9)) := by
                rw [HK1e.out, hD2]
                exact r2
              clear hb8 hl8 r2 hD2 HB8
              go_wp2_with fail
              go_roundg (20 - k1)
              case measure => have := HG2.out; have := HK1e.out; have := HJ.out; omega
              case rel => exact ⟨k1, D2, na + 1, rfl, rfl, by have := HK1e.out; have := HJ.out; omega, by have := HK1e.out; have := HJ.out; omega, rfl, HB9.out⟩
        · -- THE INNER LOOP ENDS
          have HE : Hid (BS P mn n C (.slice (some ⟨Nb, 0, none⟩) n n) w1 wr (t + 1) 0 D na u10) := by
            have hK : k = Kt C t := by
              unfold Kt
              rw [HIn.out.2.2.2.1]
              omega
            obtain ⟨rv, cs, q, nvs, hq, hBP, hqm, hnv, hFM, hap, hbl⟩ := HI.out.2
            have hNL : NL C n t k = NL C n (t + 1) 0 := by unfold NL; rw [hK, Lf_next]
            rw [hNL] at hFM
            rw [hK] at hBP
            exact ⟨rv, cs, q, nvs, hq, hBP.next, hqm, hnv, hFM, hap, hbl⟩
          have hc1 : wr.cell? ⟨g, o + t, none⟩ = some (.slice bo Lt capt) := by
            have hBw : Below w1.heap.size w1 wr := by obtain ⟨_, _, _, _, _, _, _, _, _, _, h⟩ := HI.out.2; exact h
            rw [hBw.cell (p := ⟨g, o + t, none⟩) (by have := HB1.out.size; have := HIn.out.2.2.1; show g < _; omega), HB1.out.cell (p := ⟨g, o + t, none⟩) HIn.out.2.2.1, hLt]
            exact HIn.out.2.1
          obtain ⟨t1, ht1⟩ : ∃ t1, t1 = t + 1 := ⟨_, rfl⟩
          have ht1i : (t : Int) + 1 = (t1 : Int) := by omega
          have ht1w : IntKind.i64.wrap (t1 : Int) = (t1 : Int) := by have := HNn.out; rw [IntKind.wrap_i64]; omega
          have HT1 : Hid (t1 = t + 1 ∧ t < n) := ⟨ht1, htl⟩
          rw [← ht1] at HE
          clear HI ht1 hk1 hk2
          by_cases h1 : (k : Int) < (Lt : Int)
          · have h2 : ¬ (k : Int) < 20 := by omega
            clear hkc hLt
            go_wp2_with fail
            go_roundg (n - t1)
            case measure => have := HG.out; have := HT1.out; omega
            case rel => exact ⟨t1, D, na, rfl, rfl, by have := HT1.out; omega, rfl, HE.out⟩
          · clear hkc hLt
            go_wp2_with fail
            go_roundg (n - t1)
            case measure => have := HG.out; have := HT1.out; omega
            case rel => exact ⟨t1, D, na, rfl, rfl, by have := HT1.out; omega, rfl, HE.out⟩
    · -- THE OUTER LOOP ENDS
      have hte : t = n := by omega
      have HB2 : Hid (BS P mn n C (.slice (some ⟨Nb, 0, none⟩) n n) w1 wr n 0 D na u10) := by
        have := HI.out.2
        rw [hte] at this
        exact this
      have hmk := run_make_row' (P := Try.prog) 29 3 (.int .i64 0) 8 Try.underlying29 infI rfl .i64 .i64 n (by have := HNn.out; omega) (by have := HNn.out; omega)
      obtain ⟨ava, avc, hav⟩ := HB2.out.shape
      subst hav
      have htl2 : ¬ (t : Int) < (n : Int) := by omega
      clear HI htl htn hte HCC
      go_wp2_with fail
      have HNa : Hid (na ≤ 100) := by have := HB2.out.few; have := HNn.out; show na ≤ 100; omega
      have HMA : Hid (MS P mn n C (.slice (some ⟨Nb, 0, none⟩) n n) w1 ((wr.alloc (.cells (madeCells #[.int .i64 0] n) 3)).alloc (.cells (madeCells #[.int .i64 0] n) 3)).drew D (List.replicate n 0) (List.replicate n 0) na wr.heap.size (wr.heap.size + 1) (List.replicate n 0) (List.replicate n 0) ∧ MS P mn n C (.slice (some ⟨Nb, 0, none⟩) n n) w1 ((wr.alloc (.cells (madeCells #[.int .i64 0] n) 3)).alloc (.cells (madeCells #[.int .i64 0] n) 3)).drew D (List.replicate n 0) (List.replicate n 0) na (wr.heap.size + 1) wr.heap.size (List.replicate n 0) (List.replicate n 0)) := by
        have hb9 : Below wr.heap.size wr ((wr.alloc (.cells (madeCells #[.int .i64 0] n) 3)).alloc (.cells (madeCells #[.int .i64 0] n) 3)).drew := (((Below.refl _ wr).alloc (Nat.le_refl _) _).alloc (by rw [World.size_alloc]; omega) _).drew
        have l1 : ((wr.alloc (.cells (madeCells #[.int .i64 0] n) 3)).alloc (.cells (madeCells #[.int .i64 0] n) 3)).heap[wr.heap.size]? = some (.cells (madeCells #[.int .i64 0] n) 3 (0, 0)) := (heap_al _ _ wr.heap.size (by rw [World.size_alloc]; omega)).trans (heap_alloc_new wr _)
        have l2 : ((wr.alloc (.cells (madeCells #[.int .i64 0] n) 3)).alloc (.cells (madeCells #[.int .i64 0] n) 3)).heap[wr.heap.size + 1]? = some (.cells (madeCells #[.int .i64 0] n) 3 (0, 0)) := by
          have := heap_alloc_new (wr.alloc (.cells (madeCells #[.int .i64 0] n) 3)) (.cells (madeCells #[.int .i64 0] n) 3)
          rw [World.size_alloc] at this
          exact this
        exact ⟨MS.first HB2.out hb9 (by omega) (by omega) (by omega) l1 l2, MS.first HB2.out hb9 (by omega) (by omega) (by omega) l2 l1⟩
      go_cut [14, 15] from 41 to 103 (fun v14 v15 wx => ∃ Gb Cb : Nat, v14 = .slice (some ⟨Gb, 0, none⟩) n n ∧ v15 = .slice (some ⟨Cb, 0, none⟩) n n ∧ Hid (MS P mn n C (.slice (some ⟨Nb, 0, none⟩) n n) w1 wx D (List.replicate n 0) (List.replicate n 0) na Gb Cb (List.replicate n 0) (List.replicate n 0)))
      case first =>
        go_region
        all_goals
          go_wp2_with fail
          go_meet
          case rel => first | exact ⟨_, _, rfl, rfl, HMA.out.1⟩ | exact ⟨_, _, rfl, rfl, HMA.out.2⟩
      case rest =>
        obtain ⟨Gb, Cb, rfl, rfl, HM0⟩ := hcut
        clear HMA HB2 hmk htl2
        as_aux_lemma =>
          go_wp2_with fail
          go_loopg [106] na (fun gk v106 wr => ∃ r : Nat, r ≤ na ∧ v106 = .int .i64 (r : Int) ∧ Hid (gk = na - r ∧ ∃ came got, MS P mn n C (.slice (some ⟨Nb, 0, none⟩) n n) w1 wr D came got (na - r) Gb Cb came got))
          case atStart => exact ⟨0, Nat.zero_le _, rfl, rfl, _, _, HM0.out⟩
          case round =>
            obtain ⟨r, hrn, rfl, HI⟩ := hrel
            clear HM0
            by_cases hrl : r < na
            · have i1 : (r : Int) < (na : Int) := by omega
              obtain ⟨came, got, hMS⟩ := HI.out.2
              have HNx : Hid (Calls Try.prog 12 #[.pointer (some ⟨P, 0, none⟩)] wr fun e w' => ∃ (i : Nat) (j : Jb), i < n ∧ j.ten = i + 1 ∧ came.getD i 0 < (Lf C n 0 (i + 1)).length ∧ ((Lf C n 0 (i + 1)).map Jb.name)[came.getD i 0]? = some j.name ∧ 1 ≤ j.cost ∧ j.cost ≤ 1000 ∧ e = .returned (.tuple #[jagg j, .bool true]) ∧ MS P mn n C (.slice (some ⟨Nb, 0, none⟩) n n) w1 w' D (came.set i (came.getD i 0 + 1)) (got.set i (got.getD i 0 + j.cost)) (na - r - 1) Gb Cb came got) := hMS.next (by omega)
              have HG : Hid (gk = na - r) := HI.out.1
              have HF0 : Hid (came.length = n ∧ got.length = n ∧ (∀ i, got.getD i 0 ≤ 1000 * came.getD i 0) ∧ ∀ i, came.getD i 0 ≤ 20) := by
                obtain ⟨a, b, c, d, _⟩ := hMS.facts
                exact ⟨a, b, c, d⟩
              clear HI hMS
              go_wp2_with fail
              refine HNx.out.mono ?_
              rintro e W5 ⟨i, ⟨jt, jn, jc⟩, hin, hten, hcl, hnm, hc1, hc2, rfl, hMS⟩
              clear HNx
              simp only at hten hnm hc1 hc2 hMS
              have q1 : (jt : Int) - 1 = (i : Int) := by omega
              have q2 : IntKind.i64.wrap (i : Int) = (i : Int) := by have := HNn.out; rw [IntKind.wrap_i64]; omega
              have q3 : ¬ (i : Int) < 0 := by omega
              have q4 : (i : Int) < (n : Int) := by omega
              have q5 : ¬ (n : Int) ≤ (i : Int) := by omega
              clear hten
              have hba : Below W5.heap.size W5 (W5.alloc (.cells #[.int .i64 (jt : Int), .string jn, .int .i64 (jc : Int)] 34)) := (Below.refl _ W5).alloc (Nat.le_refl _) _
              have hM6 := hMS.up hba
              have l6 := heap_alloc_new W5 (.cells #[.int .i64 (jt : Int), .string jn, .int .i64 (jc : Int)] 34)
              have hGA : ¬ Gb = W5.heap.size := by have := (Array.getElem?_eq_some_iff.1 hMS.gb).1; omega
              have hCA : ¬ Cb = W5.heap.size := by have := (Array.getElem?_eq_some_iff.1 hMS.cb).1; omega
              have hGA2 : ¬ W5.heap.size = Gb := fun e => hGA e.symm
              have hCA2 : ¬ W5.heap.size = Cb := fun e => hCA e.symm
              clear hMS hba
              unfold jagg
              go_wp2_with fail
              generalize W5.alloc (.cells #[.int .i64 (jt : Int), .string jn, .int .i64 (jc : Int)] 34) = W6 at *
              generalize W5.heap.size = A at *
              have d0 : W6.cell? ⟨A, 0, none⟩ = some (.int .i64 (jt : Int)) := by rw [Lib.cell_of_heap l6]; rfl
              have d1 : W6.cell? ⟨A, 1, none⟩ = some (.string jn) := by rw [Lib.cell_of_heap l6]; rfl
              have d2 : W6.cell? ⟨A, 2, none⟩ = some (.int .i64 (jc : Int)) := by rw [Lib.cell_of_heap l6]; rfl
              have hcmL : i < came.length := by rw [HF0.out.1]; exact hin
              have hgmL : i < got.length := by rw [HF0.out.2.1]; exact hin
              obtain ⟨s1, s2, hM7⟩ := hM6.setC i (came.getD i 0 + 1) hcmL
              obtain ⟨na1, nc1, n1, n2⟩ := hM6.names i hin rfl
              obtain ⟨gi, hgi, n3⟩ := n2 (by omega)
              subst hgi
              have n4 := n3 _ _ hnm
              obtain ⟨cc, hcc⟩ : ∃ cc, cc = came.getD i 0 := ⟨_, rfl⟩
              obtain ⟨Li, hLi⟩ : ∃ Li, Li = (Lf C n 0 (i + 1)).length := ⟨_, rfl⟩
              rw [← hcc] at s1 n4 hcl
              rw [← hLi] at n1 hcl
              have q6 : (cc : Int) < (Li : Int) := by omega
              have q7 : ¬ (Li : Int) ≤ (cc : Int) := by omega
              have q8 : (jn.toList == jn.toList) = true := by simp
              obtain ⟨c1, hc1e⟩ : ∃ c1, c1 = cc + 1 := ⟨_, rfl⟩
              have q9 : (cc : Int) + 1 = (c1 : Int) := by omega
              have q10 : IntKind.i64.wrap (c1 : Int) = (c1 : Int) := by have := HF0.out.2.2.2 i; rw [← hcc] at this; rw [IntKind.wrap_i64]; omega
              rw [← hcc, ← hc1e] at hM7
              have HM7 : Hid (MS P mn n C (.slice (some ⟨Nb, 0, none⟩) n n) w1 (W6.setCell ⟨Cb, i, none⟩ (.int .i64 (c1 : Int))) D (came.set i c1) (got.set i (got.getD i 0 + jc)) (na - r - 1) Gb Cb (came.set i c1) got ∧ (W6.setCell ⟨Cb, i, none⟩ (.int .i64 (c1 : Int))).heap[A]? = some (.cells #[.int .i64 (jt : Int), .string jn, .int .i64 (jc : Int)] 34 (0, 0)) ∧ i < got.length ∧ got.getD i 0 ≤ 20000 ∧ jc ≤ 1000 ∧ i < n ∧ r < na) := by
                have hb1 := HF0.out.2.2.1 i
                have hb2 := HF0.out.2.2.2 i
                exact ⟨hM7, (Below.heap_setCell _ ⟨Cb, i, none⟩ _ A hCA2).trans l6, hgmL, by omega, hc2, hin, hrl⟩
              clear hM6 hM7 l6 hcmL hgmL n2 n3 hnm hcc hLi hc1e hcl hc1 hc2
              go_quiet (fail)
              as_aux_lemma =>
                go_wp2_with fail
                have hM8 : MS P mn n C (.slice (some ⟨Nb, 0, none⟩) n n) w1 ((W6.drewN nq).setCell ⟨Cb, i, none⟩ (.int .i64 (c1 : Int))) D (came.set i c1) (got.set i (got.getD i 0 + jc)) (na - r - 1) Gb Cb (came.set i c1) got := HM7.out.1.up ⟨rfl, rfl, rfl, Nat.le_refl _, fun _ _ => rfl⟩
                have l8 : ((W6.drewN nq).setCell ⟨Cb, i, none⟩ (.int .i64 (c1 : Int))).heap[A]? = some (.cells #[.int .i64 (jt : Int), .string jn, .int .i64 (jc : Int)] 34 (0, 0)) := HM7.out.2.1
                obtain ⟨_, _, hgl, hg2, hjc, hin2, hrl2⟩ := HM7.out
                clear s1 s2 n1 n4 d0 d1 d2 q6 q7 q8 q9 q10 HM7
                generalize (W6.drewN nq).setCell ⟨Cb, i, none⟩ (.int .i64 (c1 : Int)) = W8 at *
                have d2 : W8.cell? ⟨A, 2, none⟩ = some (.int .i64 (jc : Int)) := by rw [Lib.cell_of_heap l8]; rfl
                obtain ⟨s1, s2, hM9⟩ := hM8.setG i (got.getD i 0 + jc) hgl
                obtain ⟨gg, hgg⟩ : ∃ gg, gg = got.getD i 0 := ⟨_, rfl⟩
                obtain ⟨x9, hx9⟩ : ∃ x9, x9 = gg + jc := ⟨_, rfl⟩
                have q6 : (gg : Int) + (jc : Int) = (x9 : Int) := by omega
                have q7 : IntKind.i64.wrap (x9 : Int) = (x9 : Int) := by rw [IntKind.wrap_i64]; omega
                rw [← hgg] at s1
                rw [← hgg, ← hx9] at hM9
                have HM9 : Hid (MS P mn n C (.slice (some ⟨Nb, 0, none⟩) n n) w1 (W8.setCell ⟨Gb, i, none⟩ (.int .i64 (x9 : Int))).drew D (came.set i c1) (got.set i x9) (na - r - 1) Gb Cb (came.set i c1) (got.set i x9)) := hM9.up ((Below.refl _ _).drew)
                have HRl : Hid (r < na) := hrl2
                clear hM8 hM9 l8 hgg hx9 hgl hg2 hjc hin2 hrl2 hin hrl
                go_region
                clear s1 s2 d2 q6 q7 HF0
                generalize (W8.setCell ⟨Gb, i, none⟩ (.int .i64 (x9 : Int))).drew = W9 at *
                generalize came.set i c1 = came2 at *
                generalize got.set i x9 = got2 at *
                clear q1 q2 q3 q4 q5 hGA hCA hGA2 hCA2
                as_aux_lemma =>
                  go_wp2_with fail
                  go_loopw [19] (fun v wx => ∃ a : Nat, a ≤ n ∧ v = .int .i64 (a : Int) ∧ ∃ m, wx = W9.drewN m) (fun v _ => n - (intOf v).toNat)
                  case atStart => exact ⟨0, Nat.zero_le _, rfl, 0, rfl⟩
                  case round =>
                    obtain ⟨a, han, rfl, m, rfl⟩ := hrel
                    by_cases hal : a < n
                    · have p1 : (a : Int) < (n : Int) := by omega
                      obtain ⟨a1, ha1⟩ : ∃ a1, a1 = a + 1 := ⟨_, rfl⟩
                      have p2 : (a : Int) + 1 = (a1 : Int) := by omega
                      have p3 : IntKind.i64.wrap (a1 : Int) = (a1 : Int) := by have := HNn.out; rw [IntKind.wrap_i64]; omega
                      have HA1 : Hid (a1 = a + 1 ∧ a < n) := ⟨ha1, hal⟩
                      clear ha1 han hal
                      go_wp2_with fail
                      go_loopw [20] (fun v wx => ∃ b : Nat, b ≤ n ∧ v = .int .i64 (b : Int) ∧ ∃ m, wx = W9.drewN m) (fun v _ => n - (intOf v).toNat)
                      case atStart => exact ⟨0, Nat.zero_le _, rfl, m, rfl⟩
                      case round =>
                        obtain ⟨b, hbn, rfl, m2, rfl⟩ := hrel
                        by_cases hbl : b < n
                        · have r1 : (b : Int) < (n : Int) := by omega
                          obtain ⟨b1, hb1⟩ : ∃ b1, b1 = b + 1 := ⟨_, rfl⟩
                          have r2 : (b : Int) + 1 = (b1 : Int) := by omega
                          have r3 : IntKind.i64.wrap (b1 : Int) = (b1 : Int) := by have := HNn.out; rw [IntKind.wrap_i64]; omega
                          have HB1b : Hid (b1 = b + 1 ∧ b < n) := ⟨hb1, hbl⟩
                          obtain ⟨f1, f2, f3, f4, f5, f6⟩ := HM9.out.facts
                          have hac : a < came2.length := by rw [f1]; exact HA1.out.2
                          have hbc : b < came2.length := by rw [f1]; exact hbl
                          have hag : a < got2.length := by rw [f2]; exact HA1.out.2
                          have hbg : b < got2.length := by rw [f2]; exact hbl
                          have x1 := (HM9.out.setC a 0 hac).1
                          have x2 := (HM9.out.setC b 0 hbc).1
                          have x3 := (HM9.out.setG a 0 hag).1
                          have x4 := (HM9.out.setG b 0 hbg).1
                          obtain ⟨va, vca, x5, _⟩ := HM9.out.names a HA1.out.2 rfl
                          obtain ⟨vb, vcb, x6, _⟩ := HM9.out.names b hbl rfl
                          have g1 := f3 a
                          have g2 := f3 b
                          have g3 := f4 a
                          have g4 := f4 b
                          have g5 := f5 a b
                          have hmn := HMn.out.2
                          generalize came2.getD a 0 = ca at *
                          generalize came2.getD b 0 = cb at *
                          generalize got2.getD a 0 = ga at *
                          generalize got2.getD b 0 = gb at *
                          generalize (Lf C n 0 (a + 1)).length = La at *
                          generalize (Lf C n 0 (b + 1)).length = Lb at *
                          obtain ⟨dd, hdd⟩ : ∃ dd : Int, dd = (ga : Int) - (gb : Int) := ⟨_, rfl⟩
                          obtain ⟨md, hmd⟩ : ∃ md, md = mn + D := ⟨_, rfl⟩
                          have y1 : (ga : Int) - (gb : Int) = dd := hdd.symm
                          have y2 : IntKind.i64.wrap dd = dd := by rw [IntKind.wrap_i64]; omega
                          have y3 : (mn : Int) + (D : Int) = (md : Int) := by omega
                          have y4 : IntKind.i64.wrap (md : Int) = (md : Int) := by rw [IntKind.wrap_i64]; omega
                          by_cases ha : ca < La
                          · have z1 : (ca : Int) < (La : Int) := by omega
                            by_cases hb : cb < Lb
                            · have z2 : (cb : Int) < (Lb : Int) := by omega
                              have g6 := g5 ha hb
                              have z3 : ¬ (md : Int) < dd := by omega
                              clear f1 f2 f3 f4 f5 f6 hac hbc hag hbg g1 g2 g3 g4 g5 g6 hmn hdd hmd hb1 hbl hbn ha hb
                              go_wp2_with fail
                              go_quiet (fail)
                              go_wp2_with fail
                              refine ⟨⟨b1, by have := HB1b.out; omega, rfl, _, rfl⟩, ?_⟩
                              have := HB1b.out
                              simp [intOf]; omega
                            · have z2 : ¬ (cb : Int) < (Lb : Int) := by omega
                              clear f1 f2 f3 f4 f5 f6 hac hbc hag hbg g1 g2 g3 g4 g5 hmn hdd hmd hb1 hbl hbn y1 y2 y3 y4
                              go_wp2_with fail
                              go_quiet (fail)
                              go_wp2_with fail
                              refine ⟨⟨b1, by have := HB1b.out; omega, rfl, _, rfl⟩, ?_⟩
                              have := HB1b.out
                              simp [intOf]; omega
                          · have z1 : ¬ (ca : Int) < (La : Int) := by omega
                            clear f1 f2 f3 f4 f5 f6 hac hbc hag hbg g1 g2 g3 g4 g5 hmn hdd hmd hb1 hbl hbn y1 y2 y3 y4
                            go_wp2_with fail
                            go_quiet (fail)
                            go_wp2_with fail
                            refine ⟨⟨b1, by have := HB1b.out; omega, rfl, _, rfl⟩, ?_⟩
                            have := HB1b.out
                            simp [intOf]; omega
                        · have r1 : ¬ (b : Int) < (n : Int) := by omega
                          clear hbl hbn
                          go_wp2_with fail
                          refine ⟨⟨a1, by have := HA1.out; omega, rfl, _, rfl⟩, ?_⟩
                          have := HA1.out
                          simp [intOf]; omega
                    · have p1 : ¬ (a : Int) < (n : Int) := by omega
                      obtain ⟨r1, hr1⟩ : ∃ r1, r1 = r + 1 := ⟨_, rfl⟩
                      have p2 : (r : Int) + 1 = (r1 : Int) := by omega
                      have p3 : IntKind.i64.wrap (r1 : Int) = (r1 : Int) := by have := HNa.out; have := HRl.out; rw [IntKind.wrap_i64]; omega
                      have HR1 : Hid (r1 = r + 1) := hr1
                      clear hal han hr1
                      go_wp2_with fail
                      go_roundg (na - r1)
                      case measure => have := HG.out; have := HR1.out; have := HRl.out; omega
                      case rel => exact ⟨r1, by have := HR1.out; have := HRl.out; omega, rfl, rfl, came2, got2, by
                        have e : na - r1 = na - r - 1 := by have := HR1.out; omega
                        rw [e]
                        exact HM9.out.up ⟨rfl, rfl, rfl, Nat.le_refl _, fun _ _ => rfl⟩⟩
            · -- ALL HAVE COME
              have i1 : ¬ (r : Int) < (na : Int) := by omega
              have HNx : Hid (Calls Try.prog 12 #[.pointer (some ⟨P, 0, none⟩)] wr fun e w' => e = .returned (.tuple #[.agg #[.int .i64 0, .string ⟨#[]⟩, .int .i64 0], .bool false]) ∧ Below w1.heap.size w1 w') := by
                obtain ⟨came, got, hMS⟩ := HI.out.2
                have e : na - r = 0 := by omega
                rw [e] at hMS
                exact hMS.none
              clear HI hrl hrn
              go_wp2_with fail
              refine HNx.out.mono ?_
              rintro e W5 ⟨rfl, hb5⟩
              have HE : Hid (∀ o : Obj, Below w.heap.size w (W5.alloc o)) := fun o => (HB1.out.trans (hb5.mono HB1.out.size)).alloc (by have := HB1.out.size; have := hb5.size; omega) _
              clear HNx hb5
              go_wp2
              go_ret
              exact ⟨rfl, HE.out _⟩
end Go.Proofs.Ytfddhdpnoliamaa
