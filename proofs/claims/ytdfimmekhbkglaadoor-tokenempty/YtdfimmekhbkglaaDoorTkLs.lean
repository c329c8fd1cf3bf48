/- TokenStands, walked. -/
import Derived.Test.YtdfimmekhbkglaaDoorTkBg
import Derived.Test.YtdfimmekhbkglaaDoorTkSd
namespace Go.Proofs.YtdfimmekhbkglaaDoor
open Go.RowKit Go.Shelf

theorem tcs_at : ∀ (l : List Tk) (k : Nat) (h : k < l.length) (j : Nat), j < 4 → (tcs l)[k * 4 + j]? = (tc l[k])[j]?
  | a :: r, 0, _, j, hj => by
    show (tc a ++ tcs r)[0 * 4 + j]? = _
    rw [List.getElem?_append_left (by show 0 * 4 + j < 4; omega)]
    simp
  | a :: r, k + 1, h, j, hj => by
    show (tc a ++ tcs r)[(k + 1) * 4 + j]? = _
    rw [List.getElem?_append_right (by show 4 ≤ _; omega), show (k + 1) * 4 + j - (tc a).length = k * 4 + j from by show _ - 4 = _; omega]
    exact tcs_at r k (by simpa using h) j hj

theorem row_max {w : World} {base : Nat} {e : TypeId} {size : Nat} {v : Value} {n : Nat} {xs : List Value} (h : w.ownsRow base e size v n xs) : n ≤ maxLen := by
  rcases h.2 with ⟨_, b⟩ | ⟨g, cap, cur, _, _, _, h1, h2, _⟩
  · subst b; exact Nat.zero_le _
  · exact Nat.le_trans h1 h2

set_option maxHeartbeats 8000000 in
set_option maxRecDepth 100000 in
theorem st_ok (L : List UInt8) (l : List Tk) (w : World) (hs : (mkB L).size ≤ 140737488355328) (hr : ErrR w) (hl : splitA L = .ok l) (hst : ∀ t ∈ l, Std L t) :
    Calls Tryd.prog 4 #[.string (mkB L)] w fun e w' => e = .returned (.bool true) ∧ Below w.heap.size w w' := by
  have HBg : Hid (Calls Tryd.prog 6 #[] w fun e w' => e = .returned (.bool true) ∧ Below w.heap.size w w') := begun_any w hr
  have HSp : Hid (∀ W, Below w.heap.size w W → Calls Tryd.prog 7 #[.string (mkB L)] W fun e w' => ∃ tv, e = .returned (.tuple #[tv, .agg #[.int .i64 0, .int .i64 0]]) ∧ w'.ownsRow W.heap.size 30 4 tv l.length (tcs l) ∧ Below w.heap.size w w') := fun W hW => (Split_any L W (hr.up hW)).mono fun e w' ⟨_, h2, h3⟩ => by
    obtain ⟨tv, a, b⟩ := h2 _ hl
    exact ⟨tv, a, b, hW.trans (h3.mono hW.size)⟩
  have HSt : Hid (∀ t ∈ l, Std L t) := hst
  have hsz := mk_size L
  clear hr hl hst
  go_enter Tryd.func4, Tryd.ntmps4
  go_wp2_with fail
  refine HBg.out.mono ?_
  rintro e w1 ⟨rfl, hb1⟩
  go_wp2_with fail
  refine (HSp.out w1 hb1).mono ?_
  rintro e w2 ⟨tv, rfl, ho, hb2⟩
  obtain ⟨ao, cap, rfl⟩ := row_shape ho
  have l3 := heap_alloc_new w2 (.cells #[.int .i64 0, .int .i64 0] 26)
  have H3 : Hid (Below w.heap.size w (w2.alloc (.cells #[.int .i64 0, .int .i64 0] 26)) ∧ (w2.alloc (.cells #[.int .i64 0, .int .i64 0] 26)).heap[w2.heap.size]? = some (.cells #[.int .i64 0, .int .i64 0] 26 (0, 0)) ∧ (w2.alloc (.cells #[.int .i64 0, .int .i64 0] 26)).ownsRow w1.heap.size 30 4 (.slice ao l.length cap) l.length (tcs l)) := ⟨hb2.alloc hb2.size _, l3, ho.alloc _⟩
  clear hb1 hb2 l3 ho HBg HSp
  go_wp2
  generalize w2.alloc (.cells #[.int .i64 0, .int .i64 0] 26) = w3 at *
  generalize w2.heap.size = F at *
  go_loopw [5] (fun v wr => ∃ k : Nat, k ≤ l.length ∧ v = .int .i64 (k : Int) ∧ Hid (Below w3.heap.size w3 wr)) (fun v _ => l.length - (intOf v).toNat)
  case atStart => exact ⟨0, Nat.zero_le _, rfl, Below.refl _ _⟩
  case round =>
    obtain ⟨k, hk, rfl, HR⟩ := hrel
    have hF : F < w3.heap.size := (Array.getElem?_eq_some_iff.1 H3.out.2.1).1
    have lF := (HR.out.block F hF).trans H3.out.2.1
    have e0 : wr.cell? ⟨F, 0, none⟩ = some (.int .i64 0) := by rw [Lib.cell_of_heap lF]; rfl
    by_cases hkl : k < l.length
    · obtain ⟨g, cap', hv, hg1, hg2⟩ := H3.out.2.2.form (by omega)
      cases hv
      have hki : (k : Int) < (l.length : Int) := by omega
      have hc : ∀ j, j < 4 → wr.cell? ⟨g, k * 4 + j, none⟩ = (tc l[k])[j]? := fun j hj => (HR.out.cell (p := ⟨g, k * 4 + j, none⟩) hg2).trans ((H3.out.2.2.cellAt (k * 4 + j) (by omega)).trans (tcs_at l k hkl j hj))
      have c0 : wr.cell? ⟨g, k * 4, none⟩ = some (.int .i64 (l[k].kind : Int)) := hc 0 (by omega)
      have c1 : wr.cell? ⟨g, k * 4 + 1, none⟩ = some (.string (mkB l[k].text)) := hc 1 (by omega)
      have c2 : wr.cell? ⟨g, k * 4 + 2, none⟩ = some (.int .i64 (l[k].num : Int)) := hc 2 (by omega)
      have c3 : wr.cell? ⟨g, k * 4 + 3, none⟩ = some (.int .i64 (l[k].pos : Int)) := hc 3 (by omega)
      have HT : Hid (Std L l[k]) := HSt.out _ (List.getElem_mem hkl)
      clear hc
      generalize l[k] = t at *
      obtain ⟨tk, tt, tn, tp⟩ := t
      simp only at c0 c1 c2 c3
      have hmx : l.length ≤ maxLen := row_max H3.out.2.2
      have HBk : Hid (∀ (W : World), Below w3.heap.size w3 W → ∃ k' : Nat, k' ≤ l.length ∧ (.int .i64 ((k + 1 : Nat) : Int) : Value) = .int .i64 (k' : Int) ∧ Hid (Below w3.heap.size w3 W)) := fun W hW => ⟨k + 1, hkl, rfl, hW⟩
      have HWA : Hid (∀ o : Obj, Below w3.heap.size w3 (wr.alloc o)) := fun o => HR.out.alloc HR.out.size _
      obtain ⟨k1, hk1⟩ : ∃ k1, k1 = k + 1 := ⟨_, rfl⟩
      have hki1 : (k : Int) + 1 = (k1 : Int) := by omega
      have hw1 : IntKind.i64.wrap (k1 : Int) = (k1 : Int) := by rw [IntKind.wrap_i64]; unfold maxLen at hmx; omega
      have HM : Hid (l.length - k1 < l.length - k) := by show _ < _; omega
      rw [← hk1] at HBk
      clear hk1 hmx lF hF hg1 hg2
      have h18 : tk = 3 ∨ tk = 6 ∨ tk = 7 ∨ tk = 8 ∨ tk = 1 ∨ tk = 4 ∨ tk = 5 ∨ tk = 2 := by have := HT.out.kind; simp only at this; omega
      rcases h18 with rfl | h18
      · obtain rfl : tn = 0 := HT.out.num (by simp)
        obtain ⟨hp3, hq3⟩ := HT.out.quote rfl
        simp only at hp3 hq3
        have hs0 : tp < (mkB L).size := by rw [hsz]; exact hp3
        have hgt := mk_get L tp hs0
        have hgi : ((L.getD tp 0).toNat : Int) = 34 := by omega
        have hpi : (tp : Int) < (L.length : Int) := by omega
        generalize L.getD tp 0 = c at *
        clear HT hq3
        go_wp2
        refine ⟨HBk.out _ (HWA.out _), ?_⟩
        have hm := HM.out
        simpa [intOf] using hm
      rcases h18 with rfl | h18
      · obtain rfl : tn = 0 := HT.out.num (by simp)
        obtain rfl : tt = [] := HT.out.none_ (by simp)
        have c1' : wr.cell? ⟨g, k * 4 + 1, none⟩ = some (.string ⟨#[]⟩) := c1
        clear HT c1
        go_wp2
        refine ⟨HBk.out _ (HWA.out _), ?_⟩
        have hm := HM.out
        simpa [intOf] using hm
      rcases h18 with rfl | h18
      · obtain rfl : tn = 0 := HT.out.num (by simp)
        obtain rfl : tt = [] := HT.out.none_ (by simp)
        have c1' : wr.cell? ⟨g, k * 4 + 1, none⟩ = some (.string ⟨#[]⟩) := c1
        clear HT c1
        go_wp2
        refine ⟨HBk.out _ (HWA.out _), ?_⟩
        have hm := HM.out
        simpa [intOf] using hm
      rcases h18 with rfl | h18
      · obtain rfl : tn = 0 := HT.out.num (by simp)
        obtain rfl : tt = [] := HT.out.none_ (by simp)
        have c1' : wr.cell? ⟨g, k * 4 + 1, none⟩ = some (.string ⟨#[]⟩) := c1
        clear HT c1
        go_wp2
        refine ⟨HBk.out _ (HWA.out _), ?_⟩
        have hm := HM.out
        simpa [intOf] using hm
      rcases h18 with rfl | h18
      · obtain rfl : tn = 0 := HT.out.num (by simp)
        obtain ⟨hne0, hpl, htk⟩ := HT.out.plain (by simp)
        simp only at hne0 hpl htk
        have hne : ((mkB tt).toList == []) = false := by rw [mk_toList]; simpa using hne0
        have htsz := mk_size tt
        obtain ⟨y, hy⟩ : ∃ y, y = tp + tt.length := ⟨_, rfl⟩
        have hyi : (tp : Int) + ((mkB tt).size : Int) = (y : Int) := by omega
        have hyw : IntKind.i64.wrap (y : Int) = (y : Int) := by rw [IntKind.wrap_i64]; omega
        have hyl : ¬ ((mkB L).size : Int) < (y : Int) := by omega
        have hyn : ¬ L.length < y := by omega
        have hyn2 : decide (L.length < y) = false := by simpa using hyn
        have hyl2 : (y : Int) ≤ (L.length : Int) := by omega
        have htpy : (tp : Int) ≤ (y : Int) := by omega
        have hsl := sl_mid L tp y _ _ rfl rfl (by omega) (by omega)
        rw [show y - tp = tt.length from by omega, htk] at hsl
        generalize mkB tt = tx at *
        clear HT hne0 hpl htk hy htsz
        go_wp2
        go_quiet (fail)
        go_wp2
        refine ⟨HBk.out _ (below_drewN (HWA.out _) nq), ?_⟩
        have hm := HM.out
        simpa [intOf] using hm
      rcases h18 with rfl | h18
      · obtain rfl : tn = 0 := HT.out.num (by simp)
        obtain ⟨hne0, hpl, htk⟩ := HT.out.plain (by simp)
        simp only at hne0 hpl htk
        have hne : ((mkB tt).toList == []) = false := by rw [mk_toList]; simpa using hne0
        have htsz := mk_size tt
        obtain ⟨y, hy⟩ : ∃ y, y = tp + tt.length := ⟨_, rfl⟩
        have hyi : (tp : Int) + ((mkB tt).size : Int) = (y : Int) := by omega
        have hyw : IntKind.i64.wrap (y : Int) = (y : Int) := by rw [IntKind.wrap_i64]; omega
        have hyl : ¬ ((mkB L).size : Int) < (y : Int) := by omega
        have hyn : ¬ L.length < y := by omega
        have hyn2 : decide (L.length < y) = false := by simpa using hyn
        have hyl2 : (y : Int) ≤ (L.length : Int) := by omega
        have htpy : (tp : Int) ≤ (y : Int) := by omega
        have hsl := sl_mid L tp y _ _ rfl rfl (by omega) (by omega)
        rw [show y - tp = tt.length from by omega, htk] at hsl
        generalize mkB tt = tx at *
        clear HT hne0 hpl htk hy htsz
        go_wp2
        go_quiet (fail)
        go_wp2
        refine ⟨HBk.out _ (below_drewN (HWA.out _) nq), ?_⟩
        have hm := HM.out
        simpa [intOf] using hm
      rcases h18 with rfl | h18
      · obtain rfl : tn = 0 := HT.out.num (by simp)
        obtain ⟨hne0, hpl, htk⟩ := HT.out.plain (by simp)
        simp only at hne0 hpl htk
        have hne : ((mkB tt).toList == []) = false := by rw [mk_toList]; simpa using hne0
        have htsz := mk_size tt
        obtain ⟨y, hy⟩ : ∃ y, y = tp + tt.length := ⟨_, rfl⟩
        have hyi : (tp : Int) + ((mkB tt).size : Int) = (y : Int) := by omega
        have hyw : IntKind.i64.wrap (y : Int) = (y : Int) := by rw [IntKind.wrap_i64]; omega
        have hyl : ¬ ((mkB L).size : Int) < (y : Int) := by omega
        have hyn : ¬ L.length < y := by omega
        have hyn2 : decide (L.length < y) = false := by simpa using hyn
        have hyl2 : (y : Int) ≤ (L.length : Int) := by omega
        have htpy : (tp : Int) ≤ (y : Int) := by omega
        have hsl := sl_mid L tp y _ _ rfl rfl (by omega) (by omega)
        rw [show y - tp = tt.length from by omega, htk] at hsl
        generalize mkB tt = tx at *
        clear HT hne0 hpl htk hy htsz
        go_wp2
        go_quiet (fail)
        go_wp2
        refine ⟨HBk.out _ (below_drewN (HWA.out _) nq), ?_⟩
        have hm := HM.out
        simpa [intOf] using hm
      subst h18
      by_cases hz : tn = 0
      · subst hz
        obtain ⟨hne0, hpl, htk⟩ := HT.out.plain (by simp)
        simp only at hne0 hpl htk
        have hne : ((mkB tt).toList == []) = false := by rw [mk_toList]; simpa using hne0
        have htsz := mk_size tt
        obtain ⟨y, hy⟩ : ∃ y, y = tp + tt.length := ⟨_, rfl⟩
        have hyi : (tp : Int) + ((mkB tt).size : Int) = (y : Int) := by omega
        have hyw : IntKind.i64.wrap (y : Int) = (y : Int) := by rw [IntKind.wrap_i64]; omega
        have hyl : ¬ ((mkB L).size : Int) < (y : Int) := by omega
        have hyn : ¬ L.length < y := by omega
        have hyn2 : decide (L.length < y) = false := by simpa using hyn
        have hyl2 : (y : Int) ≤ (L.length : Int) := by omega
        have htpy : (tp : Int) ≤ (y : Int) := by omega
        have hsl := sl_mid L tp y _ _ rfl rfl (by omega) (by omega)
        rw [show y - tp = tt.length from by omega, htk] at hsl
        generalize mkB tt = tx at *
        clear HT hne0 hpl htk hy htsz
        go_wp2
        go_quiet (fail)
        go_wp2
        refine ⟨HBk.out _ (below_drewN (HWA.out _) nq), ?_⟩
        have hm := HM.out
        simpa [intOf] using hm
      · have hz2 : ((tn : Int) != 0) = true := by simpa using hz
        have hz3 : ¬ (tn : Int) = 0 := by omega
        obtain ⟨hne0, hpl, htk⟩ := HT.out.plain (by simp)
        simp only at hne0 hpl htk
        have hne : ((mkB tt).toList == []) = false := by rw [mk_toList]; simpa using hne0
        have htsz := mk_size tt
        obtain ⟨y, hy⟩ : ∃ y, y = tp + tt.length := ⟨_, rfl⟩
        have hyi : (tp : Int) + ((mkB tt).size : Int) = (y : Int) := by omega
        have hyw : IntKind.i64.wrap (y : Int) = (y : Int) := by rw [IntKind.wrap_i64]; omega
        have hyl : ¬ ((mkB L).size : Int) < (y : Int) := by omega
        have hyn : ¬ L.length < y := by omega
        have hyn2 : decide (L.length < y) = false := by simpa using hyn
        have hyl2 : (y : Int) ≤ (L.length : Int) := by omega
        have htpy : (tp : Int) ≤ (y : Int) := by omega
        have hsl := sl_mid L tp y _ _ rfl rfl (by omega) (by omega)
        rw [show y - tp = tt.length from by omega, htk] at hsl
        generalize mkB tt = tx at *
        clear HT hne0 hpl htk hy htsz
        go_wp2
        go_quiet (fail)
        go_wp2
        refine ⟨HBk.out _ (below_drewN (HWA.out _) nq), ?_⟩
        have hm := HM.out
        simpa [intOf] using hm
    · have hki : ¬ (k : Int) < (l.length : Int) := by omega
      go_wp2
      go_ret
      refine ⟨rfl, H3.out.1.trans (HR.out.mono ?_)⟩
      exact H3.out.1.size
end Go.Proofs.YtdfimmekhbkglaaDoor
