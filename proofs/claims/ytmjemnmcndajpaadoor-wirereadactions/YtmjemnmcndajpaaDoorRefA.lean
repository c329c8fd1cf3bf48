/- What the document's own CheckAction and PackAction answer. -/
import Derived.Test.YtmjemnmcndajpaaDoorPackA
import Derived.Test.YtmjemnmcndajpaaDoorRefTexts
namespace Go.Proofs.YtmjemnmcndajpaaDoor
open Go.RowKit Go.Shelf

theorem RisNumber_noN (n : Int) (w : World) : Calls Tryd.prog 30 #[.int .i64 n] w fun e w' => e = .returned (.bool (!noN n)) ∧ w' = w := by
  refine (isNumber_any n w).mono ?_
  rintro e w' ⟨rfl, rfl⟩
  refine ⟨?_, rfl⟩
  rw [show (decide (0 ≤ n) && decide (n ≤ 9007199254740991)) = !noN n from ?_]
  unfold noN
  rw [Bool.eq_iff_iff]
  simp

theorem okList_60 {cs : List ByteArray} : okList 60 cs ↔ ¬ 60 < cs.length ∧ ¬ longB cs = true := by
  constructor
  · rintro ⟨h1, h2⟩
    refine ⟨by omega, fun h => ?_⟩
    obtain ⟨s, hs, h⟩ := longB_yes h
    have := h2 s hs
    omega
  · rintro ⟨h1, h2⟩
    exact ⟨by omega, longB_no (by simpa using h2)⟩

set_option maxHeartbeats 4000000 in
set_option maxRecDepth 100000 in
theorem ca_any (c o : Value) (cs os : List ByteArray) (i : ByteArray) (f : Int) (w : World) (hc : IsTexts w c cs) (ho : IsTexts w o os) (hi : i.size ≤ maxLen) :
    Calls Tryd.prog 11 #[Av c i o f] w fun e w' => e = .returned (.int .i64 (aeC cs i os f)) ∧ Below w.heap.size w w' := by
  have hb0 : Below w.heap.size w (w.alloc (.cells #[c, .string i, o, .int .i64 f] 26)) := (Below.refl _ _).alloc (Nat.le_refl _) _
  have C1 : Hid (IsTexts (w.alloc (.cells #[c, .string i, o, .int .i64 f] 26)) c cs) := hc.up hb0
  have O1 : Hid (IsTexts (w.alloc (.cells #[c, .string i, o, .int .i64 f] 26)) o os) := ho.up hb0
  have HB0 : Hid (Below w.heap.size w (w.alloc (.cells #[c, .string i, o, .int .i64 f] 26))) := hb0
  have n1 := hc.1
  have n2 := ho.1
  obtain ⟨_, ac, cc, rfl, _⟩ := hc
  obtain ⟨_, ao, co, rfl, _⟩ := ho
  clear hb0
  have n1' : (cs.length : Int) ≤ 4611686018427387904 := by omega
  have n2' : (os.length : Int) ≤ 4611686018427387904 := by omega
  by_cases gl : okList 60 cs
  · have CL : Hid (Calls Tryd.prog 27 #[.slice ac cs.length cc, .int .i64 60] (w.alloc (.cells #[.slice ac cs.length cc, .string i, .slice ao os.length co, .int .i64 f] 26)) fun e w' => e = .returned (.int .i64 0) ∧ w' = (w.alloc (.cells #[.slice ac cs.length cc, .string i, .slice ao os.length co, .int .i64 f] 26))) := (cl_any 60 _ cs _ C1.out).1 gl
    obtain ⟨g0, g2⟩ := okList_60.1 gl
    by_cases g1 : 60 < os.length
    · have HR : Hid (aeC cs i os f = 2) := by show _ = _; unfold aeC; rw [if_neg g0, if_pos g1]
      have z2 : (60 : Int) < (os.length : Int) := by omega
      clear g0 g1 g2 gl
      go_enter Tryd.func11, Tryd.ntmps11
      go_wp2_with fail
      refine CL.out.mono ?_
      rintro e w2 ⟨rfl, rfl⟩
      go_wp2
      go_ret
      exact ⟨by rw [HR.out]; rfl, HB0.out⟩
    have z2 : (os.length : Int) ≤ 60 := by omega
    by_cases g3 : digOk i = false
    · have HR : Hid (aeC cs i os f = 1) := by show _ = _; unfold aeC; rw [if_neg g0, if_neg g1, if_neg g2, if_pos g3]
      have h_dg : digOk i = false := g3
      clear g0 g1 g2 g3 gl
      go_enter Tryd.func11, Tryd.ntmps11
      go_wp2_with fail
      refine CL.out.mono ?_
      rintro e w2 ⟨rfl, rfl⟩
      go_wp2_with fail
      refine (RIsDigest_any i _ hi).mono ?_
      rintro e w2 ⟨rfl, rfl⟩
      rw [h_dg]
      go_wp2
      go_ret
      exact ⟨by rw [HR.out]; rfl, HB0.out⟩
    have h_dg : digOk i = true := by simpa using g3
    have HR : Hid (aeC cs i os f = if os.all pathOk = false then 1 else if riseB os = false then 6 else if noN f = true then 3 else 0) := by show _ = _; unfold aeC; rw [if_neg g0, if_neg g1, if_neg g2, if_neg g3]
    have HN : Hid (os.length ≤ 60) := by show _ ≤ _; omega
    clear g0 g1 g2 g3 gl
    have D0 : Hid (OldTexts (w.heap.size + 1) (w.alloc (.cells #[.slice ac cs.length cc, .string i, .slice ao os.length co, .int .i64 f] 26)) (.slice ao os.length co) os) := by
      have := old_of _ _ _ O1.out
      show OldTexts _ _ _ _
      simpa using this
    go_enter Tryd.func11, Tryd.ntmps11
    go_wp2_with fail
    refine CL.out.mono ?_
    rintro e w2 ⟨rfl, rfl⟩
    go_wp2_with fail
    refine (RIsDigest_any i _ hi).mono ?_
    rintro e w2 ⟨rfl, rfl⟩
    rw [h_dg]
    go_wp2_with fail
    go_loopw [3] (fun j wr => ∃ k : Nat, k ≤ os.length ∧ j = .int .i64 k ∧ (∀ j, (hj : j < os.length) → j < k → pathOk os[j] = true) ∧ Below (w.heap.size + 1) (w.alloc (.cells #[.slice ac cs.length cc, .string i, .slice ao os.length co, .int .i64 f] 26)) wr) (fun j _ => os.length - (intOf j).toNat)
    case atStart => exact ⟨0, by omega, rfl, by omega, Below.refl _ _⟩
    case round =>
      obtain ⟨k, hk, rfl, hlo, hb⟩ := hrel
      have HL : Hid _ := hlo
      have HB : Hid (Below (w.heap.size + 1) (w.alloc (.cells #[.slice ac cs.length cc, .string i, .slice ao os.length co, .int .i64 f] 26)) wr) := hb
      have q2 : wr.cell? ⟨w.heap.size, 2, none⟩ = some (.slice ao os.length co) := (hb.cell (p := ⟨w.heap.size, 2, none⟩) (by show w.heap.size < _; omega)).trans (by simp [go_sem])
      have q3 : wr.cell? ⟨w.heap.size, 3, none⟩ = some (.int .i64 f) := (hb.cell (p := ⟨w.heap.size, 3, none⟩) (by show w.heap.size < _; omega)).trans (by simp [go_sem])
      have HBw : Hid (Below w.heap.size w wr) := HB0.out.trans (hb.mono (by omega))
      have DK : Hid (OldTexts (w.heap.size + 1) wr (.slice ao os.length co) os) := texts_below D0.out hb
      have hsz := hb.size
      clear hlo hb
      by_cases hlt : k < os.length
      · obtain ⟨g, oo, rfl, hcell⟩ : ∃ g oo, ao = some ⟨g, oo, none⟩ ∧ wr.cell? ⟨g, oo + k, none⟩ = some (.string os[k]) := by
          obtain ⟨a', cap', e, hs⟩ := DK.out
          cases e
          rcases hs with h | ⟨g, oo, h1, _, h3⟩
          · rw [h] at hlt; cases hlt
          · exact ⟨g, oo, h1, h3 k hlt⟩
        have i2 : (k : Int) < os.length := by omega
        by_cases hp : pathOk os[k] = true
        · have HP : Hid _ := hp
          go_wp2_with fail
          refine (RIsPath_any os[k] wr).mono ?_
          rintro e w3 ⟨rfl, hb3⟩
          have HB3 : Hid (Below (w.heap.size + 1) (w.alloc (.cells #[.slice ac cs.length cc, .string i, .slice (some ⟨g, oo, none⟩) os.length co, .int .i64 f] 26)) w3) := HB.out.trans (hb3.mono (by simp at hsz; omega))
          clear hb3
          rw [hp]
          go_wp2
          refine ⟨⟨k + 1, by omega, by go_num, fun j hj hjk => ?_, HB3.out⟩, by simp [intOf]; omega⟩
          by_cases h : j < k
          · exact HL.out j hj h
          · obtain rfl : j = k := by omega
            exact HP.out
        · have hp' : pathOk os[k] = false := by simpa using hp
          have HP : Hid _ := hp'
          clear hp
          go_wp2_with fail
          refine (RIsPath_any os[k] wr).mono ?_
          rintro e w3 ⟨rfl, hb3⟩
          have HB3 : Hid (Below w.heap.size w w3) := HBw.out.trans (hb3.mono HBw.out.size)
          clear hb3
          rw [hp']
          go_wp2
          go_ret
          exact ⟨by rw [HR.out, if_pos (allp_no os k hlt HP.out)]; rfl, HB3.out⟩
      · have HA : Hid (¬ os.all pathOk = false) := by
          show ¬ _
          rw [allp_yes os (fun j hj => HL.out j hj (by omega))]
          simp
        go_wp2_with fail
        refine (Rise_any _ os wr (texts_of DK.out (by have := HN.out; omega))).mono ?_
        rintro e w3 ⟨rfl, hb3⟩
        have q4 : w3.cell? ⟨w.heap.size, 3, none⟩ = some (.int .i64 f) := (hb3.cell (p := ⟨w.heap.size, 3, none⟩) (by simp at hsz; show w.heap.size < _; omega)).trans q3
        have HB3 : Hid (Below w.heap.size w w3) := HBw.out.trans (hb3.mono HBw.out.size)
        clear hb3
        by_cases g5 : riseB os = false
        · have H5 : Hid _ := g5
          rw [g5]
          clear g5
          go_wp2
          go_ret
          exact ⟨by rw [HR.out, if_neg HA.out, if_pos H5.out]; rfl, HB3.out⟩
        · have g5' : riseB os = true := by simpa using g5
          have H5 : Hid (¬ riseB os = false) := g5
          rw [g5']
          clear g5 g5'
          go_wp2_with fail
          refine (RisNumber_noN f _).mono ?_
          rintro e w4 ⟨rfl, rfl⟩
          by_cases g6 : noN f = true
          · have H6 : Hid _ := g6
            rw [g6]
            clear g6
            go_wp2
            go_ret
            exact ⟨by rw [HR.out, if_neg HA.out, if_neg H5.out, if_pos H6.out]; rfl, HB3.out⟩
          · have g6' : noN f = false := by simpa using g6
            have H6 : Hid _ := g6
            rw [g6']
            clear g6 g6'
            go_wp2
            go_ret
            exact ⟨by rw [HR.out, if_neg HA.out, if_neg H5.out, if_neg H6.out]; rfl, HB3.out⟩
  · have HR : Hid (aeC cs i os f = 2) := by
      show _ = _
      unfold aeC
      by_cases g0 : 60 < cs.length
      · rw [if_pos g0]
      by_cases g2 : longB cs = true
      · rw [if_neg g0, if_pos g2]; split <;> rfl
      · exact absurd (okList_60.2 ⟨g0, g2⟩) gl
    have CL : Hid (Calls Tryd.prog 27 #[.slice ac cs.length cc, .int .i64 60] (w.alloc (.cells #[.slice ac cs.length cc, .string i, .slice ao os.length co, .int .i64 f] 26)) fun e w' => e = .returned (.int .i64 2) ∧ w' = (w.alloc (.cells #[.slice ac cs.length cc, .string i, .slice ao os.length co, .int .i64 f] 26))) := (cl_any 60 _ cs _ C1.out).2 gl
    clear gl
    go_enter Tryd.func11, Tryd.ntmps11
    go_wp2_with fail
    refine CL.out.mono ?_
    rintro e w2 ⟨rfl, rfl⟩
    go_wp2
    go_ret
    exact ⟨by rw [HR.out]; rfl, HB0.out⟩

/-- The texts that are put together, each under a name. -/
def bL (ss : List ByteArray) : ByteArray := ⟨(pk ss.length ++ pkSS ss).toArray⟩
def bT (s : ByteArray) : ByteArray := ⟨(pkT s).toArray⟩
def bN (n : Nat) : ByteArray := ⟨(pk n).toArray⟩
def bLT (ss : List ByteArray) (s : ByteArray) : ByteArray := ⟨(pkL ss ++ pkT s).toArray⟩
def bLTL (cs : List ByteArray) (i : ByteArray) (os : List ByteArray) : ByteArray := ⟨(pkL cs ++ pkT i ++ pkL os).toArray⟩
def bA (cs : List ByteArray) (i : ByteArray) (os : List ByteArray) (f : Nat) : ByteArray := ⟨(pkA cs i os f).toArray⟩
theorem packtexts_b (v : Value) (ss : List ByteArray) (w : World) (hok : okTexts ss) (h : OldTexts w.heap.size w v ss) :
    Calls Tryd.prog 31 #[v] w fun e w' => e = .returned (.string (bL ss)) ∧ Below w.heap.size w w' := packtexts_any v ss w hok h
theorem packtext_b (s : ByteArray) (w : World) (hs : s.size ≤ 9007199254740991) :
    Calls Tryd.prog 32 #[.string s] w fun e w' => e = .returned (.string (bT s)) ∧ Below w.heap.size w w' := packtext_any s w hs
theorem packn_b (n : Nat) (w : World) (h : n ≤ 9007199254740991) :
    Calls Tryd.prog 33 #[.int .i64 n] w fun e w' => e = .returned (.string (bN n)) ∧ Below w.heap.size w w' := packn_any n n w (Nat.le_refl _) h

set_option maxHeartbeats 2000000 in
set_option maxRecDepth 100000 in
theorem packaction_any (f : Nat) (c o : Value) (cs os : List ByteArray) (i : ByteArray) (w : World) (hc : IsTexts w c cs) (ho : IsTexts w o os) (kc : okTexts cs) (ko : okTexts os) (hi : i.size ≤ 100000) (hf : f ≤ 9007199254740991) :
    Calls Tryd.prog 12 #[Av c i o f] w fun e w' => e = .returned (.string ⟨(pkA cs i os f).toArray⟩) ∧ Below w.heap.size w w' := by
  have h1 := pkTexts_len cs kc
  have h2 := pkTexts_len os ko
  have h3 := pk_len8 i.size (by omega)
  have h4 : (pkT i).length = (pk i.size).length + i.size := by unfold pkT; rw [List.length_append, size_of (s := i) rfl]
  have h5 := pk_len8 f hf
  have hadd1 : ∀ W : World, (Op.stringOp .add (bL cs) (bT i)).run Tryd.prog W = .ok (.string (bLT cs i)) W := addll _ _ (by omega)
  have hadd2 : ∀ W : World, (Op.stringOp .add (bLT cs i) (bL os)).run Tryd.prog W = .ok (.string (bLTL cs i os)) W := addll _ _ (by unfold pkL; rw [List.length_append]; omega)
  have hadd3 : ∀ W : World, (Op.stringOp .add (bLTL cs i os) (bN f)).run Tryd.prog W = .ok (.string (bA cs i os f)) W := fun W => by
    unfold bLTL bN bA
    rw [addll _ _ (by unfold pkL; rw [List.length_append, List.length_append]; omega) W]
    unfold pkA
    simp only [List.append_assoc]
  have hb0 : Below w.heap.size w (w.alloc (.cells #[c, .string i, o, .int .i64 f] 26)).drew := ((Below.refl _ _).alloc (Nat.le_refl _) _).drew
  have C0 : Hid (IsTexts w c cs) := hc
  have O0 : Hid (IsTexts w o os) := ho
  have HB0 : Hid (Below w.heap.size w (w.alloc (.cells #[c, .string i, o, .int .i64 f] 26)).drew) := hb0
  have HK : Hid (okTexts cs ∧ okTexts os) := ⟨kc, ko⟩
  have hi1 : i.size ≤ 9007199254740991 := by omega
  obtain ⟨_, ac, cc, rfl, _⟩ := hc
  obtain ⟨_, ao, co, rfl, _⟩ := ho
  clear h1 h2 h3 h4 h5 kc ko hb0
  go_enter Tryd.func12, Tryd.ntmps12
  go_wp2_with fail
  go_region_held3 (fun w' => w'.cell? ⟨w.heap.size, 0, none⟩ = some (.slice ac cs.length cc) ∧ w'.cell? ⟨w.heap.size, 1, none⟩ = some (.string i) ∧ w'.cell? ⟨w.heap.size, 2, none⟩ = some (.slice ao os.length co) ∧ w'.cell? ⟨w.heap.size, 3, none⟩ = some (.int .i64 f) ∧ w.heap.size < w'.heap.size ∧ Below w.heap.size w w')
    (first | (refine ⟨?_, ?_, ?_, ?_, ?_, HB0.out⟩ <;> (simp [go_sem]; done)) | (go_split_ands; refine ⟨?_, ?_, ?_, ?_, ?_, ?_⟩ <;> first
      | (exact Nat.lt_of_lt_of_le (by assumption) hb4.size) | (rw [hb4.cell (p := ⟨w.heap.size, _, none⟩) (by assumption)]; assumption) | (exact Below.trans (by assumption) (hb4.mono (Nat.le_of_lt (by assumption))))
      | (exact Nat.lt_of_lt_of_le (by assumption) hb3.size) | (rw [hb3.cell (p := ⟨w.heap.size, _, none⟩) (by assumption)]; assumption) | (exact Below.trans (by assumption) (hb3.mono (Nat.le_of_lt (by assumption))))
      | (exact Nat.lt_of_lt_of_le (by assumption) hb2.size) | (rw [hb2.cell (p := ⟨w.heap.size, _, none⟩) (by assumption)]; assumption) | (exact Below.trans (by assumption) (hb2.mono (Nat.le_of_lt (by assumption))))
      | (exact Nat.lt_of_lt_of_le (by assumption) hb1.size) | (rw [hb1.cell (p := ⟨w.heap.size, _, none⟩) (by assumption)]; assumption) | (exact Below.trans (by assumption) (hb1.mono (Nat.le_of_lt (by assumption))))))
    (first
      | (go_at_call_of 31 (Value.slice ac cs.length cc); refine (packtexts_b _ cs _ HK.out.1 (old_of _ _ _ (C0.out.up (by go_split_ands; assumption)))).mono ?_; rintro e w1 ⟨rfl, hb1⟩)
      | (go_at_call 32; refine (packtext_b i _ hi1).mono ?_; rintro e w2 ⟨rfl, hb2⟩)
      | (go_at_call_of 31 (Value.slice ao os.length co); refine (packtexts_b _ os _ HK.out.2 (old_of _ _ _ (O0.out.up (by go_split_ands; assumption)))).mono ?_; rintro e w3 ⟨rfl, hb3⟩)
      | (go_at_call 33; refine (packn_b f _ hf).mono ?_; rintro e w4 ⟨rfl, hb4⟩))
  rename_i hH
  have HB4 : Hid (Below w.heap.size w w4) := hH.2.2.2.2.2
  clear hH hb1 hb2 hb3 hb4
  go_wp2
  go_ret
  exact ⟨rfl, HB4.out⟩
end Go.Proofs.YtmjemnmcndajpaaDoor
