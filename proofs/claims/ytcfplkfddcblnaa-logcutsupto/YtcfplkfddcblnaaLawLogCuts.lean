/- LogCuts, its second form: for every list of texts that holds at most so much (the row's bound) and every number, a log that is cut off there has the entries that were whole; the list reads behind the call as it read before. -/
import Derived.Test.YtcfplkfddcblnaaLogArg
namespace Go.Proofs.Ytcfplkfddcblnaa
open Go.ChangeShapes Go.WideShapes Go.ChangeAt Go.RowKit Go.Shelf
open Go.ChangeMaps (open_string shut_string)

/-- Where the k-th entry begins. -/
def endAt (T : List (List UInt8)) (k : Nat) : Nat := (flat (T.take k)).length
def ints (l : List Nat) : List Value := l.map fun (n : Nat) => .int .i64 (n : Int)
/-- Where the first k entries end. -/
def endsOf (T : List (List UInt8)) (k : Nat) : List Nat := (List.range (k + 1)).map (endAt T)
theorem endsOf_succ (T : List (List UInt8)) (k : Nat) : endsOf T (k + 1) = endsOf T k ++ [endAt T (k + 1)] := by
  unfold endsOf
  rw [List.range_succ, List.map_append]
  rfl
theorem endsOf_len (T : List (List UInt8)) (k : Nat) : (endsOf T k).length = k + 1 := by simp [endsOf]
theorem endsOf_get (T : List (List UInt8)) (k j : Nat) (hj : j < (endsOf T k).length) : (endsOf T k)[j] = endAt T j := by simp [endsOf]
theorem endAt_succ (T : List (List UInt8)) (k : Nat) (hk : k < T.length) : endAt T (k + 1) = endAt T k + (ent T[k]).length := flat_take T k hk
/-- A log that is cut off has the entries that were whole. -/
theorem cut_flat (T : List (List UInt8)) (c k : Nat) (hk : k ≤ T.length) (h1 : endAt T k ≤ c) (h2 : k < T.length → c < endAt T (k + 1)) (h3 : c ≤ (flat T).length) : ∃ r, (flat T).take c = flat (T.take k) ++ r ∧ NoEnt r := by
  by_cases hlt : k < T.length
  · have h2' := h2 hlt
    rw [endAt_succ T k hlt] at h2'
    refine ⟨(ent T[k]).take (c - endAt T k), ?_, NoEnt.part T[k] _ ((ent T[k]).drop (c - endAt T k)) (List.take_append_drop _ _) ?_⟩
    · have e := flat_drop T [] k
      rw [List.append_nil, List.append_nil, List.drop_eq_getElem_cons hlt] at e
      rw [e]
      simp only [flat]
      have h0 : c - (flat (T.take k)).length - (ent T[k]).length = 0 := by unfold endAt at *; omega
      rw [List.take_append, List.take_of_length_le (show (flat (T.take k)).length ≤ c from h1), List.take_append, h0, List.take_zero, List.append_nil]
      rfl
    · intro h
      have := congrArg List.length h
      rw [List.length_drop] at this
      simp at this
      omega
  · obtain rfl : k = T.length := by omega
    have hc : c = (flat T).length := by
      have : endAt T T.length = (flat T).length := by unfold endAt; rw [List.take_length]
      omega
    refine ⟨[], ?_, NoEnt.nil⟩
    rw [hc, List.take_length, List.take_length, List.append_nil]

theorem infI : (Try.prog.info? 3).map (fun i => (i.zero, i.size, i.bytes)) = some (some (.int .i64 0), 1, 8) := by kernel_rfl
theorem one_own (w : World) : (w.alloc (.cells #[.int .i64 0] 3)).ownsRow w.heap.size 3 1 (.slice (some ⟨w.heap.size, 0, none⟩) 1 1) 1 (ints [0]) :=
  ⟨by simp [ints], .inr ⟨w.heap.size, 1, #[.int .i64 0], rfl, Nat.le_refl _, heap_alloc_new w _, by omega, by decide, by simp, by simp [ints]⟩⟩
theorem ints_snoc (l : List Nat) (n : Nat) : ints (l ++ [n]) = ints l ++ [.int .i64 (n : Int)] := by simp [ints]
theorem take0 (s : ByteArray) (c : Nat) : (s.extract 0 c).data.toList = s.data.toList.take c := by rw [Lib.extract_data]; simp

set_option maxHeartbeats 8000000 in
set_option maxRecDepth 100000 in
theorem lcu_walk (v : Value) (ss : List ByteArray) (c : Int) (w : World) (ht : TextsN w v ss) (hT : total ss ≤ 1048576) (hc0 : -9223372036854775808 ≤ c) (hc1 : c ≤ 9223372036854775807) :
    Calls Try.prog 7 #[v, .int .i64 c] w fun e w' => e = .returned (.bool true) ∧ Below w.heap.size w w' := by
  have HT : Hid (TextsN w v ss) := ht
  obtain ⟨⟨_, a, cap, rfl, hc⟩, _⟩ := ht
  obtain ⟨i0, hi, hz0, hz1, hz2⟩ := info_parts infI
  have hsl := total_len ss
  have hli : (ss.length : Int) ≤ 1048576 := by omega
  have HC : Hid (ss = [] ∨ ∃ g o, a = some ⟨g, o, none⟩ ∧ ∀ j (hj : j < ss.length), w.cell? ⟨g, o + j, none⟩ = some (.string ss[j])) := hc
  have HCH : Hid (∀ (m : Nat) (w : World), 0 < m → m ≤ 1099511627776 → Calls Try.prog 18 #[.int .i64 c, .int .i64 m] w fun e w' => (∃ r : Nat, r < m ∧ e = .returned (.int .i64 (r : Int))) ∧ w' = w) := fun m w h1 h2 => choose_any c m w hc0 hc1 h1 h2
  clear hc hc0 hc1
  go_enter Try.func7, Try.ntmps7
  go_wp2_with fail
  refine (logBegun_any w).mono ?_
  rintro e w1 ⟨rfl, hb1⟩
  have B1 : Hid (Below w.heap.size w (w1.alloc (.cells #[.int .i64 0] 3))) := hb1.alloc hb1.size _
  have hw1 := hb1.size
  have O1 : Hid ((w1.alloc (.cells #[.int .i64 0] 3)).ownsRow w1.heap.size 3 1 (.slice (some ⟨w1.heap.size, 0, none⟩) 1 1) 1 (ints [0])) := one_own w1
  clear hb1
  go_wp2
  go_loopw [5, 6, 7] (fun sv ev i wr => ∃ (k : Nat) (S : ByteArray), k ≤ ss.length ∧ S = ⟨(flat (lists (ss.take k))).toArray⟩ ∧ sv = .string S ∧ i = .int .i64 k ∧ (∀ s ∈ ss.take k, s.size ≤ 100000) ∧ wr.ownsRow w1.heap.size 3 1 ev (k + 1) (ints (endsOf (lists ss) k)) ∧ Below w.heap.size w wr) (fun _ _ i _ => ss.length - (intOf i).toNat)
  case atStart => exact ⟨0, ⟨#[]⟩, Nat.zero_le _, rfl, rfl, rfl, by simp, O1.out, B1.out⟩
  case round =>
    clear B1 O1
    obtain ⟨k, S, hk, hS, rfl, rfl, hsh, hok, hb⟩ := hrel
    have HS : Hid (S = ⟨(flat (lists (ss.take k))).toArray⟩) := hS
    have HSH : Hid (∀ s ∈ ss.take k, s.size ≤ 100000) := hsh
    have HB : Hid (Below w.heap.size w wr) := hb
    have HO : Hid (wr.ownsRow w1.heap.size 3 1 u6 (k + 1) (ints (endsOf (lists ss) k))) := hok
    have hSz : S.size ≤ 14680064 := by
      rw [hS, size_of (l := flat (lists (ss.take k))) rfl]
      have h1 := flat_total (ss.take k) hsh
      have h2 := total_take ss k
      omega
    clear hS hsh hb hok
    by_cases hlt : k < ss.length
    · have i2 : (k : Int) < (ss.length : Int) := by omega
      rcases HC.out with h0 | ⟨g, o, rfl, hcell⟩
      · rw [h0] at hlt; simp at hlt
      have hg0 : g < w.heap.size := World.block_lt_of_cell? w ⟨g, o + k, none⟩ (hcell k hlt)
      have c1 : wr.cell? ⟨g, o + k, none⟩ = some (.string ss[k]) := (HB.out.cell (p := ⟨g, o + k, none⟩) hg0).trans (hcell k hlt)
      clear hcell
      by_cases hx : ss[k].size ≤ 100000
      · have HA : Hid (Calls Try.prog 9 #[.string S, .string ss[k]] wr fun e w' => e = .returned (.tuple #[.string ⟨(flat (lists (ss.take (k + 1)))).toArray⟩, .int .i64 0]) ∧ Below wr.heap.size wr w') := by
          have := Append_yes S ss[k] wr (by omega) hx
          rw [HS.out] at this ⊢
          rw [lists_take ss k hlt]
          exact this
        have HSN : Hid (∀ s ∈ ss.take (k + 1), s.size ≤ 100000) := by
          intro s hs
          rw [List.take_succ_eq_append_getElem hlt] at hs
          rcases List.mem_append.1 hs with h1 | h1
          · exact HSH.out s h1
          · simp at h1; rw [h1]; exact hx
        obtain ⟨S2, hS2⟩ : ∃ S2 : ByteArray, S2 = ⟨(flat (lists (ss.take (k + 1)))).toArray⟩ := ⟨_, rfl⟩
        rw [← hS2] at HA
        have HS2 : Hid (S2 = ⟨(flat (lists (ss.take (k + 1)))).toArray⟩) := hS2
        have hS2z : (flat (lists (ss.take (k + 1)))).length = S2.size := by rw [hS2]; exact (size_of (s := ⟨(flat (lists (ss.take (k + 1)))).toArray⟩) (l := flat (lists (ss.take (k + 1)))) rfl).symm
        have hS2b : S2.size ≤ 14680064 := by
          rw [← hS2z]
          have h1 := flat_total (ss.take (k + 1)) HSN.out
          have h2 := total_take ss (k + 1)
          omega
        have HEN : Hid (endAt (lists ss) (k + 1) = S2.size) := by
          show _ = _
          unfold endAt
          rw [← hS2z, show (lists ss).take (k + 1) = lists (ss.take (k + 1)) from by simp [lists, List.map_take]]
        have HRD : Hid (∀ w, Calls Try.prog 13 #[.string S2] w fun e w' => ∃ v, e = .returned (.tuple #[v, .int .i64 (S2.size : Int)]) ∧ w'.ownsRow w.heap.size 9 1 v (lists (ss.take (k + 1))).length (strs (lists (ss.take (k + 1)))) ∧ Below w.heap.size w w') := fun w => by
          have := Read_any S2 (lists (ss.take (k + 1))) [] w (by omega) (by rw [hS2]; simp) (lists_short _ HSN.out) NoEnt.nil
          rwa [hS2z] at this
        obtain ⟨v', hsl', hTn⟩ := slice_take w (.slice (some ⟨g, o, none⟩) ss.length cap) ss (k + 1) HT.out (by omega)
        rw [show ((k + 1 : Nat) : Int) = (k : Int) + 1 from by push_cast; rfl] at hsl'
        have HTN : Hid (TextsN w v' (ss.take (k + 1))) := hTn
        have hll2 : (lists (ss.take (k + 1))).length ≤ 4611686018427387904 := by rw [lists_len, List.length_take]; omega
        have hS2i : (S2.size : Int) ≤ 14680064 := by omega
        clear hS2 hS2z hTn
        generalize ss[k] = y at c1 HA hx
        clear hx
        go_wp2_with fail
        refine HA.out.mono ?_
        rintro e w2 ⟨rfl, hb2⟩
        have B2 : Hid (Below w.heap.size w w2) := HB.out.trans (hb2.mono HB.out.size)
        have O2 : Hid (w2.ownsRow w1.heap.size 3 1 u6 (k + 1) (ints (endsOf (lists ss) k))) := own_below HO.out hb2
        clear hb2 HA
        go_wp2_with fail
        refine (HRD.out w2).mono ?_
        rintro e w3 ⟨v3, rfl, ho3, hb3⟩
        have B3 : Hid (Below w.heap.size w w3) := B2.out.trans (hb3.mono B2.out.size)
        have O3 : Hid (w3.ownsRow w1.heap.size 3 1 u6 (k + 1) (ints (endsOf (lists ss) k))) := own_below O2.out hb3
        have P3 : Hid (IsTexts w3 v3 (ss.take (k + 1))) := by have := own_texts ho3 hll2; rwa [lists_back] at this
        have Q3 : Hid (IsTexts w3 v' (ss.take (k + 1))) := (HTN.out.up B3.out).1
        clear hb3 ho3 HRD B2 O2
        go_wp2_with fail
        refine (same_any _ _ _ _ _ P3.out Q3.out).mono ?_
        rintro e w4 ⟨rfl, q, rfl⟩
        have hb4 : Below w3.heap.size w3 (w3.drewN q) := ⟨rfl, rfl, rfl, Nat.le_refl _, fun _ _ => rfl⟩
        have B4 : Hid (Below w.heap.size w (w3.drewN q)) := B3.out.trans (hb4.mono B3.out.size)
        have O4 : Hid ((w3.drewN q).ownsRow w1.heap.size 3 1 u6 (k + 1) (ints (endsOf (lists ss) k))) := own_below O3.out hb4
        rw [decide_eq_true rfl]
        clear hb4 B3 O3 P3 Q3
        generalize w3.drewN q = w4 at B4 O4
        have hw4 : w1.heap.size ≤ w4.heap.size := by
          rcases O4.out.2 with ⟨_, h⟩ | ⟨g', _, _, _, hg', hh, _⟩
          · omega
          · have := (Array.getElem?_eq_some_iff.1 hh).1; omega
        go_wp2_with (at_builtin; refine wpList_append_own _ rfl _ _ 38 rfl w1.heap.size 3 i0 (.int .i64 0) 1 8 Try.underlying38 hi hz0 hz1 hz2 rfl (by decide) _ _ _ rfl (O4.out.alloc _) ⟨w4.heap.size, 0, none⟩ 1 1 [.int .i64 (S2.size : Int)] rfl rfl ?c1 ?c2 ?c3 ?c4 ?c5 ?_)
        case c1 =>
          intro j u hj
          match j, hj with
          | 0, hj => simp at hj; subst hj; simp [Addr.add]
        case c2 => intro u hu; simp at hu; subst hu; rfl
        case c3 => unfold maxLen; omega
        case c4 => omega
        case c5 => simp; omega
        intro v5 w5 ho5 hg5 _
        have HB5 : Hid (Below w.heap.size w w5) := (B4.out.alloc B4.out.size _).grown hg5 (by have := B4.out.size; simp; omega) (fun j hj => Nat.le_trans hw1 (O4.out.lt j hj).1)
        have HO5 : Hid (w5.ownsRow w1.heap.size 3 1 v5 (k + 1 + 1) (ints (endsOf (lists ss) (k + 1)))) := by
          rw [endsOf_succ, ints_snoc, HEN.out]
          exact ho5
        clear ho5 hg5
        go_wp2
        exact ⟨⟨k + 1, S2, by omega, HS2.out, rfl, by go_num, HSN.out, HO5.out, HB5.out⟩, by simp [intOf]; omega⟩
      · have HA : Hid (Calls Try.prog 9 #[.string S, .string ss[k]] wr fun e w' => e = .returned (.tuple #[.string ⟨#[]⟩, .int .i64 2]) ∧ w' = wr) := Append_no S ss[k] wr (by omega)
        generalize ss[k] = y at c1 HA hx
        clear hx
        go_wp2_with fail
        refine HA.out.mono ?_
        rintro e w2 ⟨rfl, rfl⟩
        go_wp2
        go_ret
        exact ⟨rfl, HB.out⟩
    · obtain rfl : k = ss.length := by omega
      have HS3 : Hid (S = ⟨(flat (lists ss)).toArray⟩) := by have := HS.out; rwa [List.take_length] at this
      have HSH3 : Hid (∀ s ∈ ss, s.size ≤ 100000) := by have := HSH.out; rwa [List.take_length] at this
      have hSz3 : (flat (lists ss)).length = S.size := by rw [HS3.out]; exact (size_of (s := ⟨(flat (lists ss)).toArray⟩) (l := flat (lists ss)) rfl).symm
      clear HS HSH
      obtain ⟨T, hTd⟩ : ∃ T, T = lists ss := ⟨_, rfl⟩
      have hTl : T.length = ss.length := by rw [hTd, lists_len]
      have hcells := fun (g : Nat) (hg : u6.ownBlock = some g) => HO.out.cells hg
      obtain ⟨g6, cap6, rfl, hc6⟩ : ∃ g cap, u6 = .slice (some ⟨g, 0, none⟩) (ss.length + 1) cap ∧ ∀ j, j < ss.length + 1 → wr.cell? ⟨g, j, none⟩ = some (.int .i64 (endAt T j : Int)) := by
        rcases HO.out.2 with ⟨_, h⟩ | ⟨g, cap', cur, hv, _⟩
        · omega
        · refine ⟨g, cap', hv, fun j hj => ?_⟩
          have hjl : j < (endsOf (lists ss) ss.length).length := by rw [endsOf_len]; exact hj
          have := hcells g (by rw [hv]; rfl) j (.int .i64 (endAt T j : Int)) (by rw [ints, List.getElem?_map, List.getElem?_eq_getElem hjl, endsOf_get, hTd]; rfl)
          rwa [addr_add, Nat.zero_add] at this
      have H6 : Hid (∀ j, j < ss.length + 1 → wr.cell? ⟨g6, j, none⟩ = some (.int .i64 (endAt T j : Int))) := hc6
      have hg6 : g6 < wr.heap.size := World.block_lt_of_cell? wr ⟨g6, 0, none⟩ (hc6 0 (by omega))
      have hSi : (S.size : Int) ≤ 14680064 := by omega
      have HM : Hid (∀ w, Calls Try.prog 18 #[.int .i64 c, .int .i64 ((S.size : Int) + 1)] w fun e w' => (∃ r : Nat, r < S.size + 1 ∧ e = .returned (.int .i64 (r : Int))) ∧ w' = w) := fun w => by
        have := HCH.out (S.size + 1) w (by omega) (by omega)
        rwa [show ((S.size + 1 : Nat) : Int) = (S.size : Int) + 1 from by push_cast; rfl] at this
      clear hcells hc6 HO HCH
      go_wp2_with fail
      refine (HM.out _).mono ?_
      rintro e w2 ⟨⟨r, hr, rfl⟩, rfl⟩
      clear HM
      go_wp2
      go_loop [12, 13] (fun wv i => ∃ j W : Nat, j ≤ ss.length + 1 ∧ W ≤ ss.length ∧ wv = .int .i64 W ∧ i = .int .i64 j ∧ endAt T W ≤ r ∧ ∀ q, W < q → q < j → r < endAt T q) (fun _ i => ss.length + 1 - (intOf i).toNat)
      case atStart => exact ⟨0, 0, by omega, by omega, rfl, rfl, by simp [endAt, flat], by omega⟩
      case round =>
        obtain ⟨j, W, hj, hW, rfl, rfl, hle, hgt⟩ := hrel
        have HLE : Hid (endAt T W ≤ r) := hle
        have HGT : Hid (∀ q, W < q → q < j → r < endAt T q) := hgt
        clear hle hgt
        by_cases hjl : j < ss.length + 1
        · have c1 := H6.out j hjl
          have hji : (j : Int) < (ss.length : Int) + 1 := by omega
          by_cases hd : endAt T j ≤ r
          · have hdi : (endAt T j : Int) ≤ (r : Int) := by omega
            have HD : Hid (endAt T j ≤ r) := hd
            generalize endAt T j = z at c1 hdi
            clear hd
            go_wp2
            exact ⟨⟨j + 1, j, by omega, by omega, rfl, by go_num, HD.out, by omega⟩, by simp [intOf]; omega⟩
          · have hdi : (r : Int) < (endAt T j : Int) := by omega
            have HD : Hid (r < endAt T j) := by show _ < _; omega
            generalize endAt T j = z at c1 hdi
            clear hd
            go_wp2
            refine ⟨⟨j + 1, W, by omega, hW, rfl, by go_num, HLE.out, fun q h1 h2 => ?_⟩, by simp [intOf]; omega⟩
            by_cases h3 : q < j
            · exact HGT.out q h1 h3
            · obtain rfl : q = j := by omega
              exact HD.out
        · obtain rfl : j = ss.length + 1 := by omega
          obtain ⟨p, hp, hpn⟩ := cut_flat T r W (by omega) HLE.out (fun h => HGT.out (W + 1) (by omega) (by omega)) (by rw [hTd, hSz3]; omega)
          have hX : (S.extract 0 r).data.toList = flat (T.take W) ++ p := by
            rw [take0, HS3.out, ← hp, hTd]
          have hXz : (S.extract 0 r).size ≤ S.size := by rw [ByteArray.size_extract]; omega
          have hTW : T.take W = lists (ss.take W) := by rw [hTd]; simp [lists, List.map_take]
          have hsx : ∀ W' : World, (Instr.slice 9 (.string S) none (some (.int .i64 (r : Int))) none).run Try.prog W' = .ok (.string (S.extract 0 r)) W' := fun W' => by
            have : r ≤ S.size := by omega
            simp [Instr.slice, Instr.sliceBounds, Instr.sliceBound, run_underlying Try.underlying9, asIntOf, this]
          have HRD : Hid (∀ w, Calls Try.prog 13 #[.string (S.extract 0 r)] w fun e w' => ∃ v, e = .returned (.tuple #[v, .int .i64 (endAt T W : Int)]) ∧ w'.ownsRow w.heap.size 9 1 v (T.take W).length (strs (T.take W)) ∧ Below w.heap.size w w') := fun w => Read_any _ (T.take W) p w (by omega) hX (by rw [hTW]; exact lists_short _ fun s hs => HSH3.out s (List.mem_of_mem_take hs)) hpn
          generalize S.extract 0 r = X at hsx HRD
          obtain ⟨v', hsl', hTn⟩ := slice_take w (.slice a ss.length cap) ss W HT.out hW
          have HTN : Hid (TextsN w v' (ss.take W)) := hTn
          have hll2 : (lists (ss.take W)).length ≤ 4611686018427387904 := by rw [lists_len, List.length_take]; omega
          have HTW : Hid (T.take W = lists (ss.take W)) := hTW
          have cW := H6.out W (by omega)
          have hWi : (W : Int) < (ss.length : Int) + 1 := by omega
          generalize endAt T W = z at cW HRD
          have CW : Hid (w2.cell? ⟨g6, W, none⟩ = some (.int .i64 (z : Int))) := cW
          clear hp hpn hX hXz hTW hTn HGT HLE cW
          go_wp2_with fail
          refine (HRD.out _).mono ?_
          rintro e w3 ⟨v3, rfl, ho3, hb3⟩
          have B3 : Hid (Below w.heap.size w w3) := HB.out.trans (hb3.mono HB.out.size)
          have P3 : Hid (IsTexts w3 v3 (ss.take W)) := by
            rw [HTW.out] at ho3
            have := own_texts ho3 hll2
            rwa [lists_back] at this
          have Q3 : Hid (IsTexts w3 v' (ss.take W)) := (HTN.out.up B3.out).1
          have c3 : w3.cell? ⟨g6, W, none⟩ = some (.int .i64 (z : Int)) := (hb3.cell (p := ⟨g6, W, none⟩) hg6).trans CW.out
          clear hb3 ho3 HRD
          go_wp2_with fail
          refine (same_any _ _ _ _ _ P3.out Q3.out).mono ?_
          rintro e w4 ⟨rfl, q, rfl⟩
          have B4 : Hid (Below w.heap.size w (w3.drewN q)) := ⟨B3.out.os, B3.out.tape, B3.out.output, B3.out.size, B3.out.block⟩
          have c4 : (w3.drewN q).cell? ⟨g6, W, none⟩ = some (.int .i64 (z : Int)) := c3
          rw [decide_eq_true rfl]
          generalize w3.drewN q = w4 at B4 c4
          go_wp2
          go_ret
          exact ⟨by simp, B4.out⟩

set_option maxRecDepth 100000 in
theorem lcu_lifted (os : Os) (started : os.Started) (H : Type) (enc : TypeId × Value → H) (F : Stop.Interp) :
    ReturnsInHanded {} Try.checked os 7 .any ((Rows.OpenSpec.upto Rows.logCutsSpec).pre6 enc Try.prog Try.f7 Rows.logCutsUptoRow.domain false) (((Rows.OpenSpec.upto Rows.logCutsSpec).at F).post enc Try.prog Try.f7 false true false false) := by
  refine returnsInHanded_of_cond (C := Try.checked) (s := Rows.OpenSpec.upto Rows.logCutsSpec) (k := Rows.uptoSmall) rfl own started (by kernel_rfl) Try.func7
    (OpenSpec.witness (enc := enc) (C := Try.checked) (s := Rows.OpenSpec.upto Rows.logCutsSpec) (k := Rows.uptoSmall) rfl false ⟨#[], #[.slice none 0 0, .int .i64 0], []⟩ 8 (by kernel_rfl) (by kernel_rfl) (by kernel_rfl)
      (x := ([.nil, .lit (.int .i64 0)], [], [])) (by kernel_rfl) rfl (by kernel_rfl)) ?_
  intro W base args ds gs before hval0 hW _ hk _
  have hval : ∀ (j : Nat) t v, Try.f7.params[j]? = some t → args[j]? = some v → Value.okWide Try.prog W .any base t v := hval0
  have hW' := hW
  obtain ⟨p, q, hA0, hV, rfl, hfz, hnd⟩ := hW
  have hA : DataW.TrodAll enc Try.prog W 0 (fun _ => true) true Try.f7.params.toList args.toList ds p := hA0
  rw [Try.params7] at hA hval
  obtain ⟨v0, v1, d0, d1, p0, p1, rfl, rfl, rfl, h0, h1⟩ := trodAll_two hA
  obtain ⟨rfl, rfl⟩ := trodVars_none hV
  obtain ⟨a1, rfl, rfl, rfl, w1⟩ := open_int Try.underlying3 (hval 1 3 v1 rfl rfl) h1
  have hx : -9223372036854775808 ≤ a1 ∧ a1 ≤ 9223372036854775807 := by simpa [Lit.wf, IntKind.min, IntKind.max, IntKind.signed, IntKind.bits] using w1
  have h2 := of_decide_eq_true hk
  simp only [List.cons_append, List.nil_append, Rows.uptoBulkAll, Rows.uptoBulk] at h2
  obtain ⟨ss, ht, hT⟩ := arg_textsN (hval 0 29 v0 rfl rfl) h0 (by omega)
  have lt0 : ∀ x ∈ p0, x.block < W.heap.size := by obtain ⟨m, hm⟩ := h0; exact DataW.trod_lt m _ _ _ hm
  clear hA0 hval0
  refine (lcu_walk v0 ss a1 W ht (by omega) hx.1 hx.2).mono fun e W' ⟨he, bel⟩ => ?_
  subst he
  exact ⟨_, rfl, _, _, _, [], _, [], hW', trodAll_mk1 (shut_bool Try.underlying4 _), trodAll_mk2 (Below.trod laidOut (by kernel_rfl) (of_decide_eq_true (by kernel_rfl)) h0 bel lt0) (shut_int Try.underlying3 w1), rfl, bel.frame _, fun h => by cases h⟩

theorem logCuts_holds : Rows.LogCutsUptoSaid :=
  OpenClaim.holds_of_cond 7 Try.f7 rfl rfl rfl rfl rfl rfl rfl ⟨rfl, rfl, rfl, rfl, rfl⟩ rfl rfl rfl rfl rfl (by kernel_rfl) Try.func7 (by kernel_rfl)
    (of_decide_eq_true (by kernel_rfl)) (by unfold Func.isWrapper; first | (rw [if_pos (by decide +kernel)]; kernel_rfl) | (rw [if_neg (by decide +kernel)]; exact ⟨rfl, rfl⟩))
    (fun os started H enc _ F => lcu_lifted os started H enc F)
#print axioms logCuts_holds
end Go.Proofs.Ytcfplkfddcblnaa
