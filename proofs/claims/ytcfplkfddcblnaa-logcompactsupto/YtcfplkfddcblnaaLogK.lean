/- What the log's Compact answers. -/
import Derived.Test.YtcfplkfddcblnaaLogFind
import Derived.Test.YtcfplkfddcblnaaLogBld
import Derived.Test.YtcfplkfddcblnaaLogArg
namespace Go.Proofs.Ytcfplkfddcblnaa
open Go.RowKit Go.Shelf

theorem cf_yes (v : Value) (ss : List ByteArray) (w : World) (h : IsTexts w v ss) (hs : ∀ s ∈ ss, s.size ≤ 100000) :
    Calls Try.prog 28 #[v, .func (.func 19) #[] #[]] w fun e w' => e = .returned (.bool false) ∧ w' = w := by
  obtain ⟨hn, a, cap, rfl, hc⟩ := h
  rcases hc with rfl | ⟨g, o, rfl, hcell⟩
  · exact lcf_zero a cap w
  · exact lcf_none g o cap ss w hn hcell hs
theorem cf_no (v : Value) (ss : List ByteArray) (w : World) (h : IsTexts w v ss) (hs : ∃ s ∈ ss, 100000 < s.size) :
    Calls Try.prog 28 #[v, .func (.func 19) #[] #[]] w fun e w' => e = .returned (.bool true) ∧ w' = w := by
  obtain ⟨hn, a, cap, rfl, hc⟩ := h
  rcases hc with rfl | ⟨g, o, rfl, hcell⟩
  · obtain ⟨s, hs, _⟩ := hs; cases hs
  · exact lcf_some g o cap ss w hn hcell hs

set_option maxHeartbeats 2000000 in
set_option maxRecDepth 100000 in
theorem Compact_no (s : ByteArray) (v : Value) (ss : List ByteArray) (w : World) (h : IsTexts w v ss) (hno : ¬ okTexts ss) :
    Calls Try.prog 16 #[.string s, v] w fun e w' => e = .returned (.tuple #[.string ⟨#[]⟩, .int .i64 2]) ∧ w' = w := by
  have H : Hid (IsTexts w v ss) := h
  obtain ⟨_, a, cap, rfl, _⟩ := h
  by_cases hl : ss.length ≤ 2000
  · have hli : (ss.length : Int) ≤ 2000 := by omega
    have HX : Hid (∃ s ∈ ss, 100000 < s.size) := by
      rcases Classical.em (∃ s ∈ ss, 100000 < s.size) with h | h
      · exact h
      · refine absurd ⟨hl, fun s hs => ?_⟩ hno
        rcases Nat.lt_or_ge 100000 s.size with h2 | h2
        · exact absurd ⟨s, hs, h2⟩ h
        · exact h2
    clear hno
    go_enter Try.func16, Try.ntmps16
    go_wp2_with fail
    refine (cf_no _ ss w H.out HX.out).mono ?_
    rintro e w' ⟨rfl, rfl⟩
    go_wp2
    go_ret2
    exact ⟨rfl, rfl⟩
  · have hli : (2000 : Int) < (ss.length : Int) := by omega
    clear hno
    go_enter Try.func16, Try.ntmps16
    go_wp2
    go_ret2
    exact ⟨rfl, rfl⟩

theorem strCells_bytes (s : ByteArray) : Lib.strCells s = Lib.byteCells s.data.toList := by
  simp [Lib.strCells, Lib.byteCells]
theorem byteCells_append (l m : List UInt8) : Lib.byteCells (l ++ m) = Lib.byteCells l ++ Lib.byteCells m := by simp [Lib.byteCells]

theorem bdat_below {B b : Nat} {p : Value} {bs : List Value} {w w' : World} (h : BdAt B b p bs w) (hb : Below w.heap.size w w') : BdAt B b p bs w' := by
  obtain ⟨hB, v, hbk, hown, hne⟩ := h
  exact ⟨hB, v, (hb.block b (Array.getElem?_eq_some_iff.1 hbk).1).trans hbk, own_below hown hb, hne⟩
theorem bd_below {B b : Nat} {bs : List Value} {w w' : World} (h : BdIs B b bs w) (hb : Below w.heap.size w w') : BdIs B b bs w' := by
  rcases h with h | h
  · exact Or.inl (bdat_below h hb)
  · exact Or.inr (bdat_below h hb)
theorem bd_lt {B b : Nat} {bs : List Value} {w : World} (h : BdIs B b bs w) : b < w.heap.size := by
  rcases h with ⟨_, v, hbk, _⟩ | ⟨_, v, hbk, _⟩
  · exact (Array.getElem?_eq_some_iff.1 hbk).1
  · exact (Array.getElem?_eq_some_iff.1 hbk).1
theorem stL_both (B b : Nat) (l : List UInt8) (w : World) (h : BdIs B b (Lib.byteCells l) w) (hBw : B ≤ w.heap.size) :
    Calls Try.prog 30 #[.pointer (some ⟨b, 0, none⟩)] w fun e w' => e = .returned (.string ⟨l.toArray⟩) ∧ Below B w w' := by
  by_cases h0 : l = []
  · subst h0
    exact stL_zero B b w h hBw
  · exact stL_any B b l w h h0

set_option maxHeartbeats 8000000 in
set_option maxRecDepth 100000 in
theorem Compact_yes (s : ByteArray) (v : Value) (ss : List ByteArray) (l : List (List UInt8)) (r : List UInt8) (w : World) (h : IsTexts w v ss) (hok : okTexts ss) (hs : s.size ≤ 1099511627776) (hd : s.data.toList = flat l ++ r) (hl : Short l) (hr : NoEnt r) :
    Calls Try.prog 16 #[.string s, v] w fun e w' => e = .returned (.tuple #[.string ⟨(flat (lists ss) ++ r).toArray⟩, .int .i64 0]) ∧ Below w.heap.size w w' := by
  have H : Hid (IsTexts w v ss) := h
  obtain ⟨_, a, cap, rfl, hc⟩ := h
  have HC : Hid (ss = [] ∨ ∃ g o, a = some ⟨g, o, none⟩ ∧ ∀ j (hj : j < ss.length), w.cell? ⟨g, o + j, none⟩ = some (.string ss[j])) := hc
  have HOK : Hid (okTexts ss) := hok
  have hli : (ss.length : Int) ≤ 2000 := by have := hok.1; omega
  have HFB : Hid (∀ k, (flat (lists (ss.take k))).length ≤ 200030000) := fun k => by
    have h1 : ∀ (tt : List ByteArray), (∀ s ∈ tt, s.size ≤ 100000) → (flat (lists tt)).length ≤ 100015 * tt.length := by
      intro tt
      induction tt with
      | nil => intro _; simp [lists, flat]
      | cons x tt ih =>
        intro hx
        have e : lists (x :: tt) = x.data.toList :: lists tt := rfl
        have h2 := ih fun y hy => hx y (List.mem_cons_of_mem _ hy)
        have h3 := hx x (List.mem_cons_self ..)
        have h4 := size_of (s := x) rfl
        have h8 := pk_len8 x.data.toList.length (by omega)
        rw [e]
        simp only [flat, List.length_append, ent_len, List.length_cons]
        omega
    have h2 := h1 (ss.take k) fun x hx => hok.2 x (List.mem_of_mem_take hx)
    have h3 : (ss.take k).length ≤ 2000 := by rw [List.length_take]; have := hok.1; omega
    have h4 : 100015 * (ss.take k).length ≤ 100015 * 2000 := Nat.mul_le_mul_left _ h3
    omega
  have hz := zero256
  have hne := zc256_ne
  obtain ⟨C, hM⟩ := made_ex
  have HM : Hid _ := hM
  have hfl : (flat l).length ≤ s.size := by rw [size_of hd, List.length_append]; omega
  have HRD : Hid (∀ w, Calls Try.prog 13 #[.string s] w fun e w' => ∃ v, e = .returned (.tuple #[v, .int .i64 ((flat l).length : Nat)]) ∧ w'.ownsRow w.heap.size 9 1 v l.length (strs l) ∧ Below w.heap.size w w') := fun w => Read_any s l r w hs hd hl hr
  obtain ⟨R, hR⟩ : ∃ R : ByteArray, R = ⟨r.toArray⟩ := ⟨_, rfl⟩
  have hsx := sub_from s (flat l).length ((flat l).length : Int) rfl hfl
  rw [extract_end s (flat l) r hd, ← hR] at hsx
  have HR : Hid (R.data.toList = r) := by show _ = _; rw [hR]
  have hRz : R.size ≤ 1099511627776 := by
    rw [hR, size_of (s := ⟨r.toArray⟩) (l := r) rfl]
    have := size_of hd
    rw [List.length_append] at this
    omega
  generalize (flat l).length = n at hfl HRD hsx
  have hni : (n : Int) ≤ (s.size : Int) := by omega
  clear hM hc hok hd hl hr hR
  go_enter Try.func16, Try.ntmps16
  go_wp2_with fail
  refine (cf_yes _ ss w H.out HOK.out.2).mono ?_
  rintro e w0 ⟨rfl, rfl⟩
  go_wp2_with fail
  refine (newShifts_any _).mono ?_
  rintro e w1 ⟨rfl, hb1⟩
  have B1 : Hid (Below w0.heap.size w0 w1) := hb1
  have hw1 := hb1.size
  clear hb1
  rw [HM.out.1]
  go_wp2_with (refine wpList_store_any rfl 45 (Operand.tmp 6) (Operand.tmp 19) rfl w1.heap.size 0 C rfl rfl (HM.out.2.2.2 w1).1 HM.out.2.1 HM.out.2.2.1 (Made w1) (HM.out.2.2.2 w1).2 ?_; intro w2 hF; simp only [Act.put])
  obtain ⟨hT, hb2⟩ := hF
  have T2 : Hid (TabAt (w2.alloc (.cells #[.pointer none, .slice none 0 0] 55)) w1.heap.size) := hT.up ((Below.refl w2.heap.size w2).alloc (Nat.le_refl _) _) hT.lt
  have B2 : Hid (Below w0.heap.size w0 (w2.alloc (.cells #[.pointer none, .slice none 0 0] 55))) := by
    have b := B1.out.trans (hb2.mono B1.out.size)
    exact b.alloc b.size _
  have D2 : Hid (BdIs w2.heap.size w2.heap.size [] (w2.alloc (.cells #[.pointer none, .slice none 0 0] 55))) := Lib.fresh_isBuilder _ _ w2
  have hw2 : w1.heap.size < w2.heap.size := hT.lt
  have hw02 : w0.heap.size ≤ w2.heap.size := by omega
  clear hb2 hT hz hne
  go_wp2
  go_loopw [22] (fun i wr => ∃ k : Nat, k ≤ ss.length ∧ i = .int .i64 k ∧ BdIs w2.heap.size w2.heap.size (Lib.byteCells (flat (lists (ss.take k)))) wr ∧ TabAt wr w1.heap.size ∧ Below w0.heap.size w0 wr) (fun i _ => ss.length - (intOf i).toNat)
  case atStart => exact ⟨0, Nat.zero_le _, rfl, D2.out, T2.out, B2.out⟩
  case round =>
    clear T2 B2 D2
    obtain ⟨k, hk, rfl, hD, hTr, hb⟩ := hrel
    have HD : Hid (BdIs w2.heap.size w2.heap.size (Lib.byteCells (flat (lists (ss.take k)))) wr) := hD
    have HT : Hid (TabAt wr w1.heap.size) := hTr
    have HB : Hid (Below w0.heap.size w0 wr) := hb
    have hwr : w2.heap.size < wr.heap.size := bd_lt hD
    clear hD hTr hb
    by_cases hlt : k < ss.length
    · have i2 : (k : Int) < (ss.length : Int) := by omega
      rcases HC.out with h0 | ⟨g, o, rfl, hcell⟩
      · rw [h0] at hlt; simp at hlt
      have hg0 : g < w0.heap.size := World.block_lt_of_cell? w0 ⟨g, o + k, none⟩ (hcell k hlt)
      have c1 : wr.cell? ⟨g, o + k, none⟩ = some (.string ss[k]) := (HB.out.cell (p := ⟨g, o + k, none⟩) hg0).trans (hcell k hlt)
      have hx := HOK.out.2 ss[k] (List.getElem_mem hlt)
      obtain ⟨E, hE⟩ : ∃ E : ByteArray, E = ⟨(ent ss[k].data.toList).toArray⟩ := ⟨_, rfl⟩
      have HE : Hid (Calls Try.prog 21 #[.pointer (some ⟨w1.heap.size, 0, none⟩), .string ss[k]] wr fun e w' => e = .returned (.string E) ∧ Below wr.heap.size wr w') := by rw [hE]; exact entry_any w1.heap.size ss[k] wr (by omega) HT.out
      have HN : Hid (Lib.byteCells (flat (lists (ss.take (k + 1)))) = Lib.byteCells (flat (lists (ss.take k))) ++ Lib.strCells E) := by
        show _ = _
        rw [lists_take ss k hlt, byteCells_append, strCells_bytes, hE]
      have hEl : (Lib.byteCells (flat (lists (ss.take k)))).length + E.size ≤ 140737488355328 := by
        have h1 := HFB.out (k + 1)
        rw [lists_take ss k hlt, List.length_append] at h1
        rw [Lib.byteCells_length, hE, size_of (s := ⟨(ent ss[k].data.toList).toArray⟩) (l := ent ss[k].data.toList) rfl]
        omega
      generalize ss[k] = y at c1 HE hx
      clear hcell hx hE
      go_wp2_with fail
      refine HE.out.mono ?_
      rintro e w3 ⟨rfl, hb3⟩
      have B3 : Hid (Below w0.heap.size w0 w3) := HB.out.trans (hb3.mono HB.out.size)
      have T3 : Hid (TabAt w3 w1.heap.size) := HT.out.up hb3 (by omega)
      have D3 : Hid (BdIs w2.heap.size w2.heap.size (Lib.byteCells (flat (lists (ss.take k)))) w3) := bd_below HD.out hb3
      have hw3 := hb3.size
      clear hb3 HE
      go_wp2_with fail
      refine (wsL_any w2.heap.size w2.heap.size _ E w3 D3.out hEl (by omega)).mono ?_
      rintro e w4 ⟨rfl, hD4, hK4⟩
      have B4 : Hid (Below w0.heap.size w0 w4) := B3.out.trans (hK4.bel.mono hw02)
      have T4 : Hid (TabAt w4 w1.heap.size) := T3.out.up hK4.bel hw2
      have D4 : Hid (BdIs w2.heap.size w2.heap.size (Lib.byteCells (flat (lists (ss.take (k + 1))))) w4) := by rw [HN.out]; exact Or.inr hD4
      clear hD4 hK4
      go_wp2
      exact ⟨⟨k + 1, by omega, by go_num, D4.out, T4.out, B4.out⟩, by simp [intOf]; omega⟩
    · obtain rfl : k = ss.length := by omega
      have D3 : Hid (BdIs w2.heap.size w2.heap.size (Lib.byteCells (flat (lists ss))) wr) := by have := HD.out; rwa [List.take_length] at this
      have hF : (flat (lists ss)).length ≤ 200030000 := by have := HFB.out ss.length; rwa [List.take_length] at this
      clear HD
      go_wp2_with fail
      refine (HRD.out _).mono ?_
      rintro e w3 ⟨v3, rfl, ho3, hb3⟩
      have B3 : Hid (Below w0.heap.size w0 w3) := HB.out.trans (hb3.mono HB.out.size)
      have D4 : Hid (BdIs w2.heap.size w2.heap.size (Lib.byteCells (flat (lists ss))) w3) := bd_below D3.out hb3
      have hw3 := hb3.size
      clear hb3 ho3 HRD D3
      go_wp2_with fail
      refine (wsL_any w2.heap.size w2.heap.size _ R w3 D4.out (by rw [Lib.byteCells_length]; omega) (by omega)).mono ?_
      rintro e w4 ⟨rfl, hD4, hK4⟩
      have B4 : Hid (Below w0.heap.size w0 w4) := B3.out.trans (hK4.bel.mono hw02)
      have D5 : Hid (BdIs w2.heap.size w2.heap.size (Lib.byteCells (flat (lists ss) ++ r)) w4) := by
        rw [byteCells_append, ← HR.out, ← strCells_bytes]
        exact Or.inr hD4
      have hw4 : w2.heap.size ≤ w4.heap.size := by have := hK4.size; omega
      clear hD4 hK4
      go_wp2_with fail
      refine (stL_both w2.heap.size w2.heap.size (flat (lists ss) ++ r) w4 D5.out hw4).mono ?_
      rintro e w5 ⟨rfl, hb5⟩
      have B5 : Hid (Below w0.heap.size w0 w5) := B4.out.trans (hb5.mono hw02)
      clear hb5
      go_wp2
      go_ret2
      exact ⟨rfl, B5.out⟩
end Go.Proofs.Ytcfplkfddcblnaa
