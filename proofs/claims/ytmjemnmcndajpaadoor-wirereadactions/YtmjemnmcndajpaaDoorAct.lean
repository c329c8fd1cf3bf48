/- What wire's actionError answers, and what it asks of each part of an action. -/
import Derived.Test.YtmjemnmcndajpaaDoorPath
import Derived.Test.YtmjemnmcndajpaaDoorPackR
import Derived.Test.YtmjemnmcndajpaaDoorPackTs
import Derived.Test.YtmjemnmcndajpaaDoorRise
import Derived.Deep.RegionHeld3
namespace Go.Proofs.YtmjemnmcndajpaaDoor
open Go.RowKit Go.Shelf

theorem IsTexts.up {w w' : World} {v : Value} {ss : List ByteArray} (h : IsTexts w v ss) (hb : Below w.heap.size w w') : IsTexts w' v ss := texts_of (texts_below (old_of w v ss h) hb) h.1

def longB (ss : List ByteArray) : Bool := ss.any fun s => decide (100000 < s.size)
theorem longB_yes {ss : List ByteArray} (h : longB ss = true) : ∃ s ∈ ss, 100000 < s.size := by
  unfold longB at h
  rw [List.any_eq_true] at h
  obtain ⟨s, hs, h⟩ := h
  exact ⟨s, hs, by simpa using h⟩
theorem longB_no {ss : List ByteArray} (h : longB ss = false) : ∀ s ∈ ss, s.size ≤ 100000 := by
  intro s hs
  unfold longB at h
  rw [List.any_eq_false] at h
  have := h s hs
  simp at this
  omega

theorem cfl_any (v : Value) (ss : List ByteArray) (w : World) (h : IsTexts w v ss) :
    Calls Tryd.prog 45 #[v, .func (.func 46) #[] #[]] w fun e w' => e = .returned (.bool (longB ss)) ∧ w' = w := by
  obtain ⟨hn, a, cap, rfl, hs⟩ := h
  rcases hs with rfl | ⟨g, o, rfl, hc⟩
  · exact cf_zero a cap w
  cases hl : longB ss with
  | true => exact cf_some g o cap ss w hn hc (longB_yes hl)
  | false => exact cf_none g o cap ss w hn hc (longB_no hl)

theorem isNoPath_any (s : ByteArray) (w : World) (hm : MaxIs w) : Calls Tryd.prog 48 #[.string s] w fun e w' => e = .returned (.bool (!pathOk s)) ∧ Below w.heap.size w w' := by
  have HM : Hid _ := hm
  clear hm
  go_enter Tryd.func48, Tryd.ntmps48
  go_wp2_with fail
  refine (IsPath_any s w HM.out).mono ?_
  rintro e w1 ⟨rfl, hb⟩
  go_wp2
  go_ret
  exact ⟨rfl, hb⟩

theorem allp_no (l : List ByteArray) (k : Nat) (hk : k < l.length) (h : pathOk l[k] = false) : l.all pathOk = false := by
  rw [List.all_eq_false]
  exact ⟨l[k], List.getElem_mem hk, by simp [h]⟩
theorem allp_yes (l : List ByteArray) (h : ∀ j (hj : j < l.length), pathOk l[j] = true) : l.all pathOk = true := by
  rw [List.all_eq_true]
  intro x hx
  obtain ⟨j, hj, rfl⟩ := List.getElem_of_mem hx
  exact h j hj

set_option maxHeartbeats 1000000 in
set_option maxRecDepth 100000 in
theorem idxp (g o cap : Nat) (ss : List ByteArray) (w : World) (hn : ss.length ≤ 4611686018427387904) (hcell : ∀ j (hj : j < ss.length), w.cell? ⟨g, o + j, none⟩ = some (.string ss[j])) (hg : g < w.heap.size) (hm : MaxIs w) :
    Calls Tryd.prog 65 #[.slice (some ⟨g, o, none⟩) ss.length cap, .func (.func 48) #[] #[]] w fun e w' => ((ss.all pathOk = true → e = .returned (.int .i64 (-1))) ∧ (ss.all pathOk = false → ∃ k : Nat, e = .returned (.int .i64 k))) ∧ Below w.heap.size w w' := by
  have HC : Hid _ := hcell
  have HM : Hid (MaxIs w) := hm
  have hn1 : (ss.length : Int) ≤ 4611686018427387904 := by omega
  clear hcell hm
  go_enter Tryd.func65, Tryd.ntmps65
  go_wp2
  go_loopw [8] (fun i wr => ∃ k : Nat, k ≤ ss.length ∧ i = .int .i64 k ∧ (∀ j (hj : j < ss.length), j < k → pathOk ss[j] = true) ∧ Below w.heap.size w wr) (fun i _ => ss.length - (intOf i).toNat)
  case atStart => exact ⟨0, Nat.zero_le _, rfl, by omega, Below.refl _ _⟩
  case round =>
    obtain ⟨k, hk, rfl, hlo, hb⟩ := hrel
    have HL : Hid _ := hlo
    have HB : Hid (Below w.heap.size w wr) := hb
    clear hlo hb
    by_cases hlt : k < ss.length
    · have hc := (HB.out.cell (p := ⟨g, o + k, none⟩) hg).trans (HC.out k hlt)
      have i2 : (k : Int) < ss.length := by omega
      by_cases hp : pathOk ss[k] = true
      · go_wp2_with fail
        refine (isNoPath_any ss[k] wr (HM.out.up HB.out)).mono ?_
        rintro e w2 ⟨rfl, hb2⟩
        have HB2 : Hid (Below w.heap.size w w2) := HB.out.trans (hb2.mono HB.out.size)
        clear hb2
        rw [hp]
        go_wp2
        refine ⟨⟨k + 1, by omega, by go_num, fun j hj hjk => ?_, HB2.out⟩, by simp [intOf]; omega⟩
        by_cases h : j < k
        · exact HL.out j hj h
        · obtain rfl : j = k := by omega
          assumption
      · have hp' : pathOk ss[k] = false := by simpa using hp
        have HP : Hid _ := hp'
        clear hp
        go_wp2_with fail
        refine (isNoPath_any ss[k] wr (HM.out.up HB.out)).mono ?_
        rintro e w2 ⟨rfl, hb2⟩
        have HB2 : Hid (Below w.heap.size w w2) := HB.out.trans (hb2.mono HB.out.size)
        clear hb2
        rw [hp']
        go_wp2
        go_ret
        refine ⟨⟨fun h => ?_, fun _ => ⟨k, rfl⟩⟩, HB2.out⟩
        rw [allp_no ss k hlt HP.out] at h
        cases h
    · go_wp2
      go_ret
      refine ⟨⟨fun _ => rfl, fun h => ?_⟩, HB.out⟩
      rw [allp_yes ss (fun j hj => HL.out j hj (by omega))] at h
      cases h

set_option maxHeartbeats 1000000 in
set_option maxRecDepth 100000 in
theorem cfp_zero (a : Option Addr) (cap : Nat) (w : World) :
    Calls Tryd.prog 45 #[.slice a 0 cap, .func (.func 48) #[] #[]] w fun e w' => e = .returned (.bool false) ∧ w' = w := by
  go_enter Tryd.func45, Tryd.ntmps45
  go_wp2
  refine wp_loop_rounds 1 ?_
  rw [rounds_succ]
  go_wp2
  go_ret
  exact ⟨rfl, rfl⟩

set_option maxHeartbeats 1000000 in
theorem cfp_any (v : Value) (ss : List ByteArray) (w : World) (h : IsTexts w v ss) (hm : MaxIs w) :
    Calls Tryd.prog 45 #[v, .func (.func 48) #[] #[]] w fun e w' => e = .returned (.bool (!ss.all pathOk)) ∧ Below w.heap.size w w' := by
  have ho := old_of w v ss h
  obtain ⟨hn, a', cap', rfl, _⟩ := h
  obtain ⟨a, cap, e, hs⟩ := ho
  rw [e]
  rcases hs with rfl | ⟨g, o, rfl, hg, hc⟩
  · refine (cfp_zero a cap w).mono ?_
    rintro e w' ⟨rfl, rfl⟩
    exact ⟨rfl, Below.refl _ _⟩
  have HC : Hid _ := hc
  have HM : Hid _ := hm
  clear hc hm e
  go_enter Tryd.func45, Tryd.ntmps45
  go_wp2_with fail
  refine (idxp g o cap ss w hn HC.out hg HM.out).mono ?_
  rintro e w1 ⟨⟨h1, h2⟩, hb⟩
  have HB : Hid _ := hb
  clear hb
  cases ha : ss.all pathOk with
  | true =>
    obtain rfl := h1 ha
    have HA : Hid _ := ha
    clear h1 h2 ha
    go_wp2
    go_ret
    exact ⟨by rw [HA.out]; rfl, HB.out⟩
  | false =>
    obtain ⟨k, rfl⟩ := h2 ha
    have HA : Hid _ := ha
    clear h1 h2 ha
    go_wp2
    go_ret
    exact ⟨by rw [HA.out]; rfl, HB.out⟩

theorem itself_any (s : ByteArray) (w : World) : Calls Tryd.prog 50 #[.string s] w fun e w' => e = .returned (.string s) ∧ w' = w := by
  go_enter Tryd.func50, Tryd.ntmps50
  go_wp2
  go_ret
  exact ⟨rfl, rfl⟩

set_option maxHeartbeats 2000000 in
set_option maxRecDepth 100000 in
theorem rs_zero (a : Option Addr) (cap : Nat) (w : World) : Calls Tryd.prog 49 #[.slice a 0 cap, .func (.func 50) #[] #[]] w fun e w' => e = .returned (.bool true) ∧ w' = w := by
  go_enter Tryd.func49, Tryd.ntmps49
  go_wp2
  refine wp_loop_rounds 1 ?_
  rw [rounds_succ]
  go_wp2
  go_ret
  exact ⟨rfl, rfl⟩

set_option maxHeartbeats 2000000 in
set_option maxRecDepth 100000 in
theorem rs_some (g o cap : Nat) (ss : List ByteArray) (w : World) (hn : ss.length ≤ 4611686018427387904) (hcell : ∀ j (hj : j < ss.length), w.cell? ⟨g, o + j, none⟩ = some (.string ss[j])) (hg : g < w.heap.size) :
    Calls Tryd.prog 49 #[.slice (some ⟨g, o, none⟩) ss.length cap, .func (.func 50) #[] #[]] w fun e w' => e = .returned (.bool (riseB ss)) ∧ Below w.heap.size w w' := by
  have HC : Hid _ := hcell
  have hn1 : (ss.length : Int) ≤ 4611686018427387904 := by omega
  clear hcell
  go_enter Tryd.func49, Tryd.ntmps49
  go_wp2
  go_loopw [5] (fun i wr => ∃ k : Nat, 1 ≤ k ∧ k ≤ max 1 ss.length ∧ i = .int .i64 k ∧ (∀ j, (hj : j + 1 < ss.length) → j + 1 < k → less ss[j] ss[j + 1] = true) ∧ Below w.heap.size w wr) (fun i _ => ss.length - (intOf i).toNat)
  case atStart => exact ⟨1, by omega, by omega, rfl, by omega, Below.refl _ _⟩
  case round =>
    obtain ⟨k, hk1, hk, rfl, hlo, hb⟩ := hrel
    have HL : Hid _ := hlo
    have HB : Hid (Below w.heap.size w wr) := hb
    clear hlo hb
    by_cases hlt : k < ss.length
    · obtain ⟨m, rfl⟩ : ∃ m, k = m + 1 := ⟨k - 1, by omega⟩
      have a0 := (HB.out.cell (p := ⟨g, o + m, none⟩) hg).trans (HC.out m (by omega))
      have b0 := (HB.out.cell (p := ⟨g, o + (m + 1), none⟩) hg).trans (HC.out (m + 1) hlt)
      have i1 : (0 : Int) ≤ (m : Int) := by omega
      have i2 : (m : Int) < ss.length := by omega
      have i3 : (0 : Int) ≤ (m : Int) + 1 := by omega
      have i4 : (m : Int) + 1 < ss.length := by omega
      have i5 : IntKind.i64.wrap ((m : Int) + 1 - 1) = m := by rw [wraps_i64 _ (by omega) (by omega)]; omega
      have i6 : IntKind.i64.wrap (m : Int) = m := wraps_i64 _ (by omega) (by omega)
      have i7 : ((m : Int) + 1).toNat = m + 1 := by omega
      generalize hx : ss[m] = xa at a0
      generalize hy : ss[m + 1] = ya at b0
      have HX : Hid (ss[m] = xa) := hx
      have HY : Hid (ss[m + 1] = ya) := hy
      clear hx hy
      by_cases hls : Op.bytesLess xa.toList ya.toList = true
      · have HLS : Hid _ := hls
        go_wp2_with fail
        go_region_held3 (fun w' => w'.cell? ⟨g, o + m, none⟩ = some (.string xa) ∧ w'.cell? ⟨g, o + (m + 1), none⟩ = some (.string ya))
          (first | (simp [go_sem, *]; done) | (go_split_ands; constructor <;> assumption))
          (first
            | (go_at_call_of 50 (Value.string xa); refine (itself_any xa _).mono ?_; rintro e w1 ⟨rfl, rfl⟩)
            | (go_at_call_of 50 (Value.string ya); refine (itself_any ya _).mono ?_; rintro e w2 ⟨rfl, rfl⟩))
        all_goals go_wp2
        all_goals
          refine ⟨⟨m + 2, by omega, by omega, by go_num, fun j hj hjk => ?_, HB.out.drew⟩, by simp [intOf]; omega⟩
          by_cases h : j + 1 < m + 1
          · exact HL.out j hj h
          · obtain rfl : j = m := by omega
            rw [HX.out, HY.out]
            exact HLS.out
      · have hls' : Op.bytesLess xa.toList ya.toList = false := by simpa using hls
        have HLS : Hid _ := hls'
        clear hls
        go_wp2_with fail
        go_region_held3 (fun w' => w'.cell? ⟨g, o + m, none⟩ = some (.string xa) ∧ w'.cell? ⟨g, o + (m + 1), none⟩ = some (.string ya))
          (first | (simp [go_sem, *]; done) | (go_split_ands; constructor <;> assumption))
          (first
            | (go_at_call_of 50 (Value.string xa); refine (itself_any xa _).mono ?_; rintro e w1 ⟨rfl, rfl⟩)
            | (go_at_call_of 50 (Value.string ya); refine (itself_any ya _).mono ?_; rintro e w2 ⟨rfl, rfl⟩))
        all_goals go_wp2
        all_goals
          go_ret
          refine ⟨?_, HB.out.drew⟩
          rw [riseB_no ss m hlt (by rw [HX.out, HY.out]; exact HLS.out)]
          rfl
    · go_wp2
      go_ret
      refine ⟨?_, HB.out⟩
      rw [riseB_yes ss (fun j hj => HL.out j hj (by omega))]
      rfl

theorem rs_any (v : Value) (ss : List ByteArray) (w : World) (h : IsTexts w v ss) :
    Calls Tryd.prog 49 #[v, .func (.func 50) #[] #[]] w fun e w' => e = .returned (.bool (riseB ss)) ∧ Below w.heap.size w w' := by
  have ho := old_of w v ss h
  have hn := h.1
  clear h
  obtain ⟨a, cap, rfl, hs⟩ := ho
  rcases hs with rfl | ⟨g, o, rfl, hg, hc⟩
  · refine (rs_zero a cap w).mono ?_
    rintro e w' ⟨rfl, rfl⟩
    exact ⟨rfl, Below.refl _ _⟩
  · exact rs_some g o cap ss w hn hc hg

abbrev Av (c : Value) (i : ByteArray) (o : Value) (f : Int) : Value := .agg #[c, .string i, o, .int .i64 f]
/-- What is wrong with an action. -/
def aeC (cs : List ByteArray) (i : ByteArray) (os : List ByteArray) (f : Int) : Int :=
  if 60 < cs.length then 2 else if 60 < os.length then 2 else if longB cs = true then 2 else if digOk i = false then 1 else if os.all pathOk = false then 1 else if riseB os = false then 6 else if noN f = true then 3 else 0

set_option maxHeartbeats 4000000 in
set_option maxRecDepth 100000 in
theorem ae_any (c o : Value) (cs os : List ByteArray) (i : ByteArray) (f : Int) (w : World) (hc : IsTexts w c cs) (ho : IsTexts w o os) (hm : MaxIs w) :
    Calls Tryd.prog 24 #[Av c i o f] w fun e w' => e = .returned (.int .i64 (aeC cs i os f)) ∧ Below w.heap.size w w' := by
  have hb0 : Below w.heap.size w (w.alloc (.cells #[c, .string i, o, .int .i64 f] 26)) := (Below.refl _ _).alloc (Nat.le_refl _) _
  have C1 : Hid (IsTexts (w.alloc (.cells #[c, .string i, o, .int .i64 f] 26)) c cs) := hc.up hb0
  have O1 : Hid (IsTexts (w.alloc (.cells #[c, .string i, o, .int .i64 f] 26)) o os) := ho.up hb0
  have M1 : Hid (MaxIs (w.alloc (.cells #[c, .string i, o, .int .i64 f] 26))) := hm.up hb0
  have HB0 : Hid (Below w.heap.size w (w.alloc (.cells #[c, .string i, o, .int .i64 f] 26))) := hb0
  have n1 := hc.1
  have n2 := ho.1
  obtain ⟨_, ac, cc, rfl, _⟩ := hc
  obtain ⟨_, ao, co, rfl, _⟩ := ho
  clear hb0 hm
  have n1' : (cs.length : Int) ≤ 4611686018427387904 := by omega
  have n2' : (os.length : Int) ≤ 4611686018427387904 := by omega
  by_cases g0 : 60 < cs.length
  · have HR : Hid (aeC cs i os f = 2) := by show _ = _; unfold aeC; rw [if_pos g0]
    have z1 : (60 : Int) < (cs.length : Int) := by omega
    clear g0
    go_enter Tryd.func24, Tryd.ntmps24
    go_wp2
    go_ret
    exact ⟨by rw [HR.out]; rfl, HB0.out⟩
  have z1 : (cs.length : Int) ≤ 60 := by omega
  by_cases g1 : 60 < os.length
  · have HR : Hid (aeC cs i os f = 2) := by show _ = _; unfold aeC; rw [if_neg g0, if_pos g1]
    have z2 : (60 : Int) < (os.length : Int) := by omega
    clear g0 g1
    go_enter Tryd.func24, Tryd.ntmps24
    go_wp2
    go_ret
    exact ⟨by rw [HR.out]; rfl, HB0.out⟩
  have z2 : (os.length : Int) ≤ 60 := by omega
  by_cases g2 : longB cs = true
  · have HR : Hid (aeC cs i os f = 2) := by show _ = _; unfold aeC; rw [if_neg g0, if_neg g1, if_pos g2]
    have h_lg : longB cs = true := g2
    clear g0 g1 g2
    go_enter Tryd.func24, Tryd.ntmps24
    go_wp2_with fail
    refine (cfl_any _ cs _ C1.out).mono ?_
    rintro e w2 ⟨rfl, rfl⟩
    rw [h_lg]
    go_wp2
    go_ret
    exact ⟨by rw [HR.out]; rfl, HB0.out⟩
  have h_lg : longB cs = false := by simpa using g2
  by_cases g3 : digOk i = false
  · have HR : Hid (aeC cs i os f = 1) := by show _ = _; unfold aeC; rw [if_neg g0, if_neg g1, if_neg g2, if_pos g3]
    have h_dg : digOk i = false := g3
    clear g0 g1 g2 g3
    go_enter Tryd.func24, Tryd.ntmps24
    go_wp2_with fail
    refine (cfl_any _ cs _ C1.out).mono ?_
    rintro e w2 ⟨rfl, rfl⟩
    rw [h_lg]
    go_wp2_with fail
    refine (Is_any i _).mono ?_
    rintro e w2 ⟨rfl, rfl⟩
    rw [h_dg]
    go_wp2
    go_ret
    exact ⟨by rw [HR.out]; rfl, HB0.out⟩
  have h_dg : digOk i = true := by simpa using g3
  by_cases g4 : os.all pathOk = false
  · have HR : Hid (aeC cs i os f = 1) := by show _ = _; unfold aeC; rw [if_neg g0, if_neg g1, if_neg g2, if_neg g3, if_pos g4]
    have h_pa : os.all pathOk = false := g4
    clear g0 g1 g2 g3 g4
    go_enter Tryd.func24, Tryd.ntmps24
    go_wp2_with fail
    refine (cfl_any _ cs _ C1.out).mono ?_
    rintro e w2 ⟨rfl, rfl⟩
    rw [h_lg]
    go_wp2_with fail
    refine (Is_any i _).mono ?_
    rintro e w2 ⟨rfl, rfl⟩
    rw [h_dg]
    go_wp2_with fail
    refine (cfp_any _ os _ O1.out M1.out).mono ?_
    rintro e w3 ⟨rfl, hb3⟩
    have q0 := (hb3.cell (p := ⟨w.heap.size, 2, none⟩) (by simp)).trans (show (w.alloc (.cells #[.slice ac cs.length cc, .string i, .slice ao os.length co, .int .i64 f] 26)).cell? ⟨w.heap.size, 2, none⟩ = some (.slice ao os.length co) by simp [go_sem])
    have q1 := (hb3.cell (p := ⟨w.heap.size, 3, none⟩) (by simp)).trans (show (w.alloc (.cells #[.slice ac cs.length cc, .string i, .slice ao os.length co, .int .i64 f] 26)).cell? ⟨w.heap.size, 3, none⟩ = some (.int .i64 f) by simp [go_sem])
    have B3 : Hid (Below w.heap.size w w3) := HB0.out.trans (hb3.mono HB0.out.size)
    have O3 : Hid (IsTexts w3 (.slice ao os.length co) os) := O1.out.up hb3
    have hs3 := hb3.size
    clear hb3
    rw [h_pa]
    go_wp2
    go_ret
    exact ⟨by rw [HR.out]; rfl, B3.out⟩
  have h_pa : os.all pathOk = true := by simpa using g4
  by_cases g5 : riseB os = false
  · have HR : Hid (aeC cs i os f = 6) := by show _ = _; unfold aeC; rw [if_neg g0, if_neg g1, if_neg g2, if_neg g3, if_neg g4, if_pos g5]
    have h_ri : riseB os = false := g5
    clear g0 g1 g2 g3 g4 g5
    go_enter Tryd.func24, Tryd.ntmps24
    go_wp2_with fail
    refine (cfl_any _ cs _ C1.out).mono ?_
    rintro e w2 ⟨rfl, rfl⟩
    rw [h_lg]
    go_wp2_with fail
    refine (Is_any i _).mono ?_
    rintro e w2 ⟨rfl, rfl⟩
    rw [h_dg]
    go_wp2_with fail
    refine (cfp_any _ os _ O1.out M1.out).mono ?_
    rintro e w3 ⟨rfl, hb3⟩
    have q0 := (hb3.cell (p := ⟨w.heap.size, 2, none⟩) (by simp)).trans (show (w.alloc (.cells #[.slice ac cs.length cc, .string i, .slice ao os.length co, .int .i64 f] 26)).cell? ⟨w.heap.size, 2, none⟩ = some (.slice ao os.length co) by simp [go_sem])
    have q1 := (hb3.cell (p := ⟨w.heap.size, 3, none⟩) (by simp)).trans (show (w.alloc (.cells #[.slice ac cs.length cc, .string i, .slice ao os.length co, .int .i64 f] 26)).cell? ⟨w.heap.size, 3, none⟩ = some (.int .i64 f) by simp [go_sem])
    have B3 : Hid (Below w.heap.size w w3) := HB0.out.trans (hb3.mono HB0.out.size)
    have O3 : Hid (IsTexts w3 (.slice ao os.length co) os) := O1.out.up hb3
    have hs3 := hb3.size
    clear hb3
    rw [h_pa]
    go_wp2_with fail
    refine (rs_any _ os w3 O3.out).mono ?_
    rintro e w4 ⟨rfl, hb4⟩
    have q2 := (hb4.cell (p := ⟨w.heap.size, 3, none⟩) (by simp at hs3; show w.heap.size < _; omega)).trans q1
    have B4 : Hid (Below w.heap.size w w4) := B3.out.trans (hb4.mono B3.out.size)
    clear hb4
    rw [h_ri]
    go_wp2
    go_ret
    exact ⟨by rw [HR.out]; rfl, B4.out⟩
  have h_ri : riseB os = true := by simpa using g5
  by_cases g6 : noN f = true
  · have HR : Hid (aeC cs i os f = 3) := by show _ = _; unfold aeC; rw [if_neg g0, if_neg g1, if_neg g2, if_neg g3, if_neg g4, if_neg g5, if_pos g6]
    have h_nn : noN f = true := g6
    clear g0 g1 g2 g3 g4 g5 g6
    go_enter Tryd.func24, Tryd.ntmps24
    go_wp2_with fail
    refine (cfl_any _ cs _ C1.out).mono ?_
    rintro e w2 ⟨rfl, rfl⟩
    rw [h_lg]
    go_wp2_with fail
    refine (Is_any i _).mono ?_
    rintro e w2 ⟨rfl, rfl⟩
    rw [h_dg]
    go_wp2_with fail
    refine (cfp_any _ os _ O1.out M1.out).mono ?_
    rintro e w3 ⟨rfl, hb3⟩
    have q0 := (hb3.cell (p := ⟨w.heap.size, 2, none⟩) (by simp)).trans (show (w.alloc (.cells #[.slice ac cs.length cc, .string i, .slice ao os.length co, .int .i64 f] 26)).cell? ⟨w.heap.size, 2, none⟩ = some (.slice ao os.length co) by simp [go_sem])
    have q1 := (hb3.cell (p := ⟨w.heap.size, 3, none⟩) (by simp)).trans (show (w.alloc (.cells #[.slice ac cs.length cc, .string i, .slice ao os.length co, .int .i64 f] 26)).cell? ⟨w.heap.size, 3, none⟩ = some (.int .i64 f) by simp [go_sem])
    have B3 : Hid (Below w.heap.size w w3) := HB0.out.trans (hb3.mono HB0.out.size)
    have O3 : Hid (IsTexts w3 (.slice ao os.length co) os) := O1.out.up hb3
    have hs3 := hb3.size
    clear hb3
    rw [h_pa]
    go_wp2_with fail
    refine (rs_any _ os w3 O3.out).mono ?_
    rintro e w4 ⟨rfl, hb4⟩
    have q2 := (hb4.cell (p := ⟨w.heap.size, 3, none⟩) (by simp at hs3; show w.heap.size < _; omega)).trans q1
    have B4 : Hid (Below w.heap.size w w4) := B3.out.trans (hb4.mono B3.out.size)
    clear hb4
    rw [h_ri]
    go_wp2_with fail
    refine (isNoNumber_noN f _).mono ?_
    rintro e w5 ⟨rfl, rfl⟩
    rw [h_nn]
    go_wp2
    go_ret
    exact ⟨by rw [HR.out]; rfl, B4.out⟩
  have h_nn : noN f = false := by simpa using g6
  have HR : Hid (aeC cs i os f = 0) := by show _ = _; unfold aeC; rw [if_neg g0, if_neg g1, if_neg g2, if_neg g3, if_neg g4, if_neg g5, if_neg g6]
  clear g0 g1 g2 g3 g4 g5 g6
  go_enter Tryd.func24, Tryd.ntmps24
  go_wp2_with fail
  refine (cfl_any _ cs _ C1.out).mono ?_
  rintro e w2 ⟨rfl, rfl⟩
  rw [h_lg]
  go_wp2_with fail
  refine (Is_any i _).mono ?_
  rintro e w2 ⟨rfl, rfl⟩
  rw [h_dg]
  go_wp2_with fail
  refine (cfp_any _ os _ O1.out M1.out).mono ?_
  rintro e w3 ⟨rfl, hb3⟩
  have q0 := (hb3.cell (p := ⟨w.heap.size, 2, none⟩) (by simp)).trans (show (w.alloc (.cells #[.slice ac cs.length cc, .string i, .slice ao os.length co, .int .i64 f] 26)).cell? ⟨w.heap.size, 2, none⟩ = some (.slice ao os.length co) by simp [go_sem])
  have q1 := (hb3.cell (p := ⟨w.heap.size, 3, none⟩) (by simp)).trans (show (w.alloc (.cells #[.slice ac cs.length cc, .string i, .slice ao os.length co, .int .i64 f] 26)).cell? ⟨w.heap.size, 3, none⟩ = some (.int .i64 f) by simp [go_sem])
  have B3 : Hid (Below w.heap.size w w3) := HB0.out.trans (hb3.mono HB0.out.size)
  have O3 : Hid (IsTexts w3 (.slice ao os.length co) os) := O1.out.up hb3
  have hs3 := hb3.size
  clear hb3
  rw [h_pa]
  go_wp2_with fail
  refine (rs_any _ os w3 O3.out).mono ?_
  rintro e w4 ⟨rfl, hb4⟩
  have q2 := (hb4.cell (p := ⟨w.heap.size, 3, none⟩) (by simp at hs3; show w.heap.size < _; omega)).trans q1
  have B4 : Hid (Below w.heap.size w w4) := B3.out.trans (hb4.mono B3.out.size)
  clear hb4
  rw [h_ri]
  go_wp2_with fail
  refine (isNoNumber_noN f _).mono ?_
  rintro e w5 ⟨rfl, rfl⟩
  rw [h_nn]
  go_wp2
  go_ret
  exact ⟨by rw [HR.out]; rfl, B4.out⟩
end Go.Proofs.YtmjemnmcndajpaaDoor
