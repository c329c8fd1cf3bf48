/- TokenLevels, walked. -/
import Derived.Test.YtdfimmekhbkglaaDoorTkLs
import Derived.Test.YtdfimmekhbkglaaDoorTkLv
namespace Go.Proofs.YtdfimmekhbkglaaDoor
open Go.RowKit Go.Shelf

theorem take_next {l : List Tk} {k : Nat} (h : k < l.length) : l.take (k + 1) = l.take k ++ [l[k]] := List.take_succ_eq_append_getElem h
theorem dep_next {l : List Tk} {k : Nat} (h : k < l.length) : dep (l.take (k + 1)) = dep (l.take k) + lvl l[k] := by rw [take_next h, dep_snoc]
theorem lastP_next {l : List Tk} {k : Nat} (h : k < l.length) : lastP (l.take (k + 1)) = l[k].pos := by rw [take_next h, lastP_snoc]
theorem lastK_next {l : List Tk} {k : Nat} (h : k < l.length) : lastK (l.take (k + 1)) = l[k].kind := by rw [take_next h, lastK_snoc]

set_option maxHeartbeats 8000000 in
set_option maxRecDepth 100000 in
theorem lw_ok (L : List UInt8) (l : List Tk) (w : World) (hr : ErrR w) (hl : splitA L = .ok l) (hst : AllNxt L.length l) (hd0 : dep l = 0) :
    Calls Tryd.prog 3 #[.string (mkB L)] w fun e w' => e = .returned (.bool true) ∧ Below w.heap.size w w' := by
  have HBg : Hid (Calls Tryd.prog 6 #[] w fun e w' => e = .returned (.bool true) ∧ Below w.heap.size w w') := begun_any w hr
  have HSp : Hid (∀ W, Below w.heap.size w W → Calls Tryd.prog 7 #[.string (mkB L)] W fun e w' => ∃ tv, e = .returned (.tuple #[tv, .agg #[.int .i64 0, .int .i64 0]]) ∧ w'.ownsRow W.heap.size 30 4 tv l.length (tcs l) ∧ Below w.heap.size w w') := fun W hW => (Split_any L W (hr.up hW)).mono fun e w' ⟨_, h2, h3⟩ => by
    obtain ⟨tv, a, b⟩ := h2 _ hl
    exact ⟨tv, a, b, hW.trans (h3.mono hW.size)⟩
  have HSt : Hid (AllNxt L.length l) := hst
  have HD : Hid (dep l = 0) := hd0
  have hsz := mk_size L
  clear hr hl hst hd0
  go_enter Tryd.func3, Tryd.ntmps3
  go_wp2_with fail
  refine HBg.out.mono ?_
  rintro e w1 ⟨rfl, hb1⟩
  go_wp2_with fail
  refine (HSp.out w1 hb1).mono ?_
  rintro e w2 ⟨tv, rfl, ho, hb2⟩
  obtain ⟨ao, cap, rfl⟩ := row_shape ho
  have l3 := heap_alloc_new w2 (.cells #[.int .i64 0, .int .i64 0] 26)
  have H3 : Hid (Below w.heap.size w (w2.alloc (.cells #[.int .i64 0, .int .i64 0] 26)) ∧ (w2.alloc (.cells #[.int .i64 0, .int .i64 0] 26)).heap[w2.heap.size]? = some (.cells #[.int .i64 0, .int .i64 0] 26 (0, 0)) ∧ (w2.alloc (.cells #[.int .i64 0, .int .i64 0] 26)).ownsRow w1.heap.size 30 4 (.slice ao l.length cap) l.length (tcs l)) := ⟨hb2.alloc hb2.size _, l3, ho.alloc _⟩
  clear hb1 hb2 l3 ho HBg HSp
  go_wp2
  generalize w2.alloc (.cells #[.int .i64 0, .int .i64 0] 26) = w3 at *
  generalize w2.heap.size = F at *
  go_loopw [5, 6, 7] (fun v5 v6 v wr => ∃ (k : Nat) (d : Int) (a : Nat), k ≤ l.length ∧ v5 = .int .i64 d ∧ v6 = .int .i64 (a : Int) ∧ v = .int .i64 (k : Int) ∧ Hid (d = dep (l.take k) ∧ a = lastP (l.take k)) ∧ wr = w3) (fun _ _ v _ => l.length - (intOf v).toNat)
  case atStart => exact ⟨0, 0, 0, Nat.zero_le _, rfl, rfl, rfl, ⟨rfl, rfl⟩, rfl⟩
  case round =>
    obtain ⟨k, d, a, hk, rfl, rfl, rfl, HI, rfl⟩ := hrel
    by_cases hkl : k < l.length
    · obtain ⟨g, cap', hv, hg1, hg2⟩ := H3.out.2.2.form (by omega)
      cases hv
      have hki : (k : Int) < (l.length : Int) := by omega
      have hc : ∀ j, j < 4 → wr.cell? ⟨g, k * 4 + j, none⟩ = (tc l[k])[j]? := fun j hj => (H3.out.2.2.cellAt (k * 4 + j) (by omega)).trans (tcs_at l k hkl j hj)
      have c0 : wr.cell? ⟨g, k * 4, none⟩ = some (.int .i64 (l[k].kind : Int)) := hc 0 (by omega)
      have c3 : wr.cell? ⟨g, k * 4 + 3, none⟩ = some (.int .i64 (l[k].pos : Int)) := hc 3 (by omega)
      have HN : Hid (Nxt L.length (l.take k) l[k]) := HSt.out k hkl
      have hN := HN.out
      have hmx : l.length ≤ maxLen := row_max H3.out.2.2
      have HB : 0 < k → ∃ b : Nat, (b : Int) = (k : Int) - 1 ∧ b < l.length ∧ wr.cell? ⟨g, b * 4, none⟩ = some (.int .i64 (lastK (l.take k) : Int)) := by
        intro h0
        refine ⟨k - 1, by omega, by omega, ?_⟩
        have h1 : k - 1 < l.length := by omega
        have := (H3.out.2.2.cellAt ((k - 1) * 4 + 0) (by omega)).trans (tcs_at l (k - 1) h1 0 (by omega))
        have e : lastK (l.take k) = l[k - 1].kind := by
          have := lastK_next h1
          rwa [show k - 1 + 1 = k from by omega] at this
        rw [e]; exact this
      have HNx : Hid (dep (l.take (k + 1)) = d + lvl l[k] ∧ lastP (l.take (k + 1)) = l[k].pos) := ⟨by rw [dep_next hkl, HI.out.1], lastP_next hkl⟩
      have e1 : a ≤ l[k].pos := by rw [HI.out.2]; exact hN.rise
      have e2 := hN.most
      have e3 : 0 ≤ d + lvl l[k] := by rw [HI.out.1]; exact hN.d0
      have e4 : d + lvl l[k] ≤ 30 := by rw [HI.out.1]; exact hN.d30
      have e5 := hN.behind
      generalize lastK (l.take k) = lk at *
      have HBk : Hid (∀ k1 : Nat, k1 = k + 1 → ∀ d' : Int, d' = d + lvl l[k] → ∃ (k' : Nat) (d0 : Int) (a0 : Nat), k' ≤ l.length ∧ (.int .i64 d' : Value) = .int .i64 d0 ∧ (.int .i64 (l[k].pos : Int) : Value) = .int .i64 (a0 : Int) ∧ (.int .i64 (k1 : Int) : Value) = .int .i64 (k' : Int) ∧ Hid (d0 = dep (l.take k') ∧ a0 = lastP (l.take k')) ∧ True) := by
        rintro k1 rfl d' rfl
        exact ⟨k + 1, _, _, hkl, rfl, rfl, rfl, ⟨HNx.out.1.symm, HNx.out.2.symm⟩, trivial⟩
      clear hc hN HN HNx
      generalize ht : l[k] = t at *
      clear ht
      obtain ⟨tk, tt, tn, tp⟩ := t
      simp only at c0 c3 e1 e2 e3 e4 e5
      have n1 : ¬ (tp : Int) < (a : Int) := by omega
      have n2 : ¬ ((mkB L).size : Int) < (tp : Int) := by omega
      have n2' : ¬ (L.length : Int) < (tp : Int) := by omega
      have n2'' : ¬ L.length < tp := by omega
      obtain ⟨k1, hk1⟩ : ∃ k1, k1 = k + 1 := ⟨_, rfl⟩
      have hki1 : (k : Int) + 1 = (k1 : Int) := by omega
      have hw1 : IntKind.i64.wrap (k1 : Int) = (k1 : Int) := by rw [IntKind.wrap_i64]; unfold maxLen at hmx; omega
      have HM : Hid (l.length - k1 < l.length - k) := by show _ < _; omega
      have HBk1 := HBk.out k1 hk1
      have HK1 : Hid (k1 = k + 1) := hk1
      have HMX : Hid (l.length ≤ maxLen) := hmx
      clear hk1 hmx hg1 hg2 HBk
      by_cases h7 : tk = 7
      · subst h7
        have hlv : lvl ⟨7, tt, tn, tp⟩ = 1 := rfl
        obtain ⟨d1, hd1⟩ : ∃ d1, d1 = d + 1 := ⟨_, rfl⟩
        have HQ : Hid (∀ d' : Int, d' = d + lvl ⟨7, tt, tn, tp⟩ → _) := HBk1
        have HQ1 := HQ.out d1 (by rw [hlv]; exact hd1)
        have HQ2 : Hid (_) := HQ1
        rw [hlv] at e3 e4
        have hwd : IntKind.i64.wrap d1 = d1 := by rw [IntKind.wrap_i64]; omega
        have hde : d + 1 = d1 := hd1.symm
        have m1 : ¬ d1 < 0 := by omega
        have m2 : ¬ 30 < d1 := by omega
        clear HQ HQ1 HBk1 hd1
        rcases Nat.eq_zero_or_pos k with h0 | h0
        · subst h0
          obtain rfl : k1 = 1 := HK1.out
          clear e5 HB
          go_wp2
          refine ⟨HQ2.out, ?_⟩
          have hm := HM.out
          simpa [intOf] using hm
        · obtain ⟨b, hb1, hb2, hb3⟩ := HB h0
          have hkb : (k : Int) - 1 = (b : Int) := hb1.symm
          have hkp : (0 : Int) < (k : Int) := by omega
          have hwb : IntKind.i64.wrap (b : Int) = (b : Int) := by rw [IntKind.wrap_i64]; have := HMX.out; unfold maxLen at this; omega
          have hbi : (b : Int) < (l.length : Int) := by omega
          rcases e5 (.inl rfl) with rfl | rfl
          · clear e5 HB h0 hb1
            go_wp2
            refine ⟨HQ2.out, ?_⟩
            have hm := HM.out
            simpa [intOf] using hm
          · clear e5 HB h0 hb1
            go_wp2
            refine ⟨HQ2.out, ?_⟩
            have hm := HM.out
            simpa [intOf] using hm
      · by_cases h8 : tk = 8
        · subst h8
          have hlv : lvl ⟨8, tt, tn, tp⟩ = -1 := rfl
          obtain ⟨d1, hd1⟩ : ∃ d1, d1 = d - 1 := ⟨_, rfl⟩
          have HQ2 : Hid (_) := HBk1 d1 (by rw [hlv]; omega)
          rw [hlv] at e3 e4
          have hwd : IntKind.i64.wrap d1 = d1 := by rw [IntKind.wrap_i64]; omega
          have hde : d - 1 = d1 := hd1.symm
          have m1 : ¬ d1 < 0 := by omega
          have m2 : ¬ 30 < d1 := by omega
          clear HBk1 hd1
          rcases Nat.eq_zero_or_pos k with h0 | h0
          · subst h0
            obtain rfl : k1 = 1 := HK1.out
            clear e5 HB
            go_wp2
            refine ⟨HQ2.out, ?_⟩
            have hm := HM.out
            simpa [intOf] using hm
          · obtain ⟨b, hb1, hb2, hb3⟩ := HB h0
            have hkb : (k : Int) - 1 = (b : Int) := hb1.symm
            have hkp : (0 : Int) < (k : Int) := by omega
            have hwb : IntKind.i64.wrap (b : Int) = (b : Int) := by rw [IntKind.wrap_i64]; have := HMX.out; unfold maxLen at this; omega
            have hbi : (b : Int) < (l.length : Int) := by omega
            rcases e5 (.inr rfl) with rfl | rfl
            · clear e5 HB h0 hb1
              go_wp2
              refine ⟨HQ2.out, ?_⟩
              have hm := HM.out
              simpa [intOf] using hm
            · clear e5 HB h0 hb1
              go_wp2
              refine ⟨HQ2.out, ?_⟩
              have hm := HM.out
              simpa [intOf] using hm
        · have hlv : lvl ⟨tk, tt, tn, tp⟩ = 0 := by
            show (if tk = 7 then (1 : Int) else if tk = 8 then -1 else 0) = 0
            rw [if_neg h7, if_neg h8]
          have HQ2 : Hid (_) := HBk1 d (by rw [hlv]; omega)
          rw [hlv] at e3 e4
          have m1 : ¬ d < 0 := by omega
          have m2 : ¬ 30 < d := by omega
          have i7 : ¬ (tk : Int) = 7 := by omega
          have i8 : ¬ (tk : Int) = 8 := by omega
          have j7 : ((tk : Int) == 7) = false := by simpa using i7
          have j8 : ((tk : Int) == 8) = false := by simpa using i8
          clear HBk1 e5 HB
          go_wp2
          refine ⟨HQ2.out, ?_⟩
          have hm := HM.out
          simpa [intOf] using hm
    · have hki : ¬ (k : Int) < (l.length : Int) := by omega
      have hkl2 : k = l.length := by omega
      have hd : d = 0 := by rw [HI.out.1, hkl2, List.take_length, HD.out]
      subst hd
      clear hkl2
      go_wp2
      go_ret
      exact ⟨rfl, H3.out.1⟩

set_option maxHeartbeats 4000000 in
set_option maxRecDepth 100000 in
theorem lw_err (L : List UInt8) (k z : Nat) (w : World) (hr : ErrR w) (hl : splitA L = .error (k, z)) (hz : z ≤ L.length) :
    Calls Tryd.prog 3 #[.string (mkB L)] w fun e w' => e = .returned (.bool true) ∧ Below w.heap.size w w' := by
  have HBg : Hid (Calls Tryd.prog 6 #[] w fun e w' => e = .returned (.bool true) ∧ Below w.heap.size w w') := begun_any w hr
  have HSp : Hid (∀ W, Below w.heap.size w W → Calls Tryd.prog 7 #[.string (mkB L)] W fun e w' => e = .returned (.tuple #[.slice none 0 0, .agg #[.int .i64 (k : Int), .int .i64 (z : Int)]]) ∧ Below w.heap.size w w') := fun W hW => (Split_any L W (hr.up hW)).mono fun e w' ⟨h1, _, h3⟩ => ⟨h1 k z hl, hW.trans (h3.mono hW.size)⟩
  have hsz := mk_size L
  have hz1 : (0 : Int) ≤ (z : Int) := by omega
  have hz2 : (z : Int) ≤ ((mkB L).size : Int) := by omega
  have hz3 : (z : Int) ≤ (L.length : Int) := by omega
  clear hr hl
  go_enter Tryd.func3, Tryd.ntmps3
  go_wp2_with fail
  refine HBg.out.mono ?_
  rintro e w1 ⟨rfl, hb1⟩
  go_wp2_with fail
  refine (HSp.out w1 hb1).mono ?_
  rintro e w2 ⟨rfl, hb2⟩
  have H3 : Hid (Below w.heap.size w (w2.alloc (.cells #[.int .i64 (k : Int), .int .i64 (z : Int)] 26))) := hb2.alloc hb2.size _
  clear hb1 hb2 HBg HSp
  by_cases hk : k = 0
  · subst hk
    go_wp2
    generalize w2.alloc (.cells #[.int .i64 ((0 : Nat) : Int), .int .i64 (z : Int)] 26) = w3 at *
    go_loopw [5, 7] (fun v5 v wr => v5 = .int .i64 0 ∧ v = .int .i64 0 ∧ wr = w3) (fun _ _ _ => 0)
    case atStart => exact ⟨rfl, rfl, rfl⟩
    case round =>
      obtain ⟨rfl, rfl, rfl⟩ := hrel
      go_wp2
      go_ret
      exact ⟨rfl, H3.out⟩
  · have hki : ¬ (k : Int) = 0 := by omega
    have hki2 : ((k : Int) == 0) = false := by simpa using hki
    clear hk
    go_wp2
    go_ret
    exact ⟨rfl, H3.out⟩
end Go.Proofs.YtdfimmekhbkglaaDoor
