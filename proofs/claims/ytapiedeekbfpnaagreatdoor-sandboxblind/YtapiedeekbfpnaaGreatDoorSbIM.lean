/- What the document's WordsOf, IsRegister and NumberOf answer. -/
import Derived.Test.YtapiedeekbfpnaaGreatDoorTa7
namespace Go.Proofs.YtapiedeekbfpnaaGreatDoor
open Go.RowKit Go.Shelf

set_option maxHeartbeats 2000000 in
set_option maxRecDepth 100000 in
theorem WordsOf_any (s : ByteArray) (w : World) (hs : s.size ≤ 100000) :
    Calls Tryz.prog 17 #[.string s] w fun e w' => ∃ v, e = .returned v ∧ w'.ownsRow w.heap.size 9 1 v (wdL [] s.data.toList).length (strs (wdL [] s.data.toList)) ∧ Below w.heap.size w w' := by
  obtain ⟨i0, hi, hz0, hz1, hz2⟩ := info_parts infS
  have hz : (s.size : Int) ≤ 100000 := by omega
  go_enter Tryz.func17, Tryz.ntmps17
  go_wp2
  go_loopw [3, 4] (fun v i wr => ∃ k : Nat, k ≤ s.size ∧ i = .int .i64 k ∧ wr.ownsRow w.heap.size 9 1 v (wdL [] (s.data.toList.take k)).length (strs (wdL [] (s.data.toList.take k))) ∧ Below w.heap.size w wr) (fun _ i _ => s.size - (intOf i).toNat)
  case atStart =>
    refine ⟨0, by omega, rfl, ?_, (Below.refl _ _).alloc (Nat.le_refl _) _⟩
    exact ⟨rfl, Or.inr ⟨w.heap.size, 1, #[.string ⟨#[]⟩], rfl, Nat.le_refl _, heap_alloc_new w _, Nat.le_refl _, by decide, rfl, rfl⟩⟩
  case round =>
    obtain ⟨k, hk, rfl, hown, hb⟩ := hrel
    have HB : Hid (Below w.heap.size w wr) := hb
    have HO : Hid (wr.ownsRow w.heap.size 9 1 u3 (wdL [] (s.data.toList.take k)).length (strs (wdL [] (s.data.toList.take k)))) := hown
    have hsz := hb.size
    have hpl := wdL_len (s.data.toList.take k) []
    rw [List.length_take] at hpl
    clear hb hown
    by_cases hlt : k < s.size
    · have hts := take_snoc s k hlt
      by_cases hc : s[k] = 32
      · have hc1 : (s[k].toNat : Int) = 32 := by rw [hc]; rfl
        have HT : Hid (wdL [] (s.data.toList.take (k + 1)) = wdL [] (s.data.toList.take k) ++ [[]]) := by
          show _ = _
          rw [hts, hc, wdL_blank]
        clear hts hc
        go_wp2_with (at_builtin; refine wpList_append_own _ rfl _ _ 23 rfl w.heap.size 9 i0 (.string ⟨#[]⟩) 1 16 Tryz.underlying23 hi hz0 hz1 hz2 rfl (by decide) _ _ _ rfl (HO.out.alloc _) ⟨wr.heap.size, 0, none⟩ 1 1 [.string ⟨#[]⟩] rfl rfl ?c1 ?c2 ?c3 ?c4 ?c5 ?_)
        case c1 =>
          intro j u hj
          match j, hj with
          | 0, hj => simp at hj; subst hj; simp [Addr.add]
        case c2 => intro u hu; simp at hu; subst hu; rfl
        case c3 => unfold maxLen; omega
        case c4 => omega
        case c5 => simp; omega
        intro v' w4 hown4 hg4 _
        have hrow : ∀ j, u3.ownBlock = some j → w.heap.size ≤ j := fun j hj => (HO.out.lt j hj).1
        have HB4 : Hid (Below w.heap.size w w4) := (HB.out.alloc hsz _).grown hg4 (by simp; omega) hrow
        have HO4 : Hid (w4.ownsRow w.heap.size 9 1 v' ((wdL [] (s.data.toList.take k)).length + 1) (strs (wdL [] (s.data.toList.take k)) ++ [.string ⟨#[]⟩])) := hown4
        clear hown4 hg4 hrow
        go_wp2
        refine ⟨⟨k + 1, by omega, by go_num, ?_, HB4.out⟩, by simp [intOf]; omega⟩
        rw [HT.out, List.length_append, show strs (wdL [] (s.data.toList.take k) ++ [[]]) = strs (wdL [] (s.data.toList.take k)) ++ [.string ⟨#[]⟩] from by simp [strs]]
        exact HO4.out
      · have hc1 : ((s[k].toNat : Int) == 32) = false := by
          rw [beq_eq_false_iff_ne]
          intro h
          exact hc (UInt8.toNat_inj.1 (by show s[k].toNat = 32; omega))
        obtain ⟨ps, p, e1, e2⟩ := wdL_snoc (s.data.toList.take k) s[k] hc []
        rw [← hts] at e2
        have E2 : Hid _ := e2
        clear e2 hts hc
        rw [e1] at HO
        have hlen : (ps ++ [p]).length = ps.length + 1 := by simp
        rw [hlen] at HO
        obtain ⟨g, cap, rfl⟩ := own_block HO.out
        have q0 : wr.cell? ⟨g, ps.length, none⟩ = some (.string ⟨p.toArray⟩) := by
          have := HO.out.cells rfl ps.length (.string ⟨p.toArray⟩) (by simp [strs])
          rwa [addr_add, Nat.zero_add] at this
        have q1 : wr.frozen? ⟨g, ps.length, none⟩ = false := HO.out.frozenAt _
        have hpl2 : ps.length ≤ k := by rw [e1, hlen] at hpl; omega
        have i1 : (ps.length : Int) < (ps.length : Int) + 1 := by omega
        have i2 : (0 : Int) ≤ (ps.length : Int) := by omega
        have i5 : IntKind.i64.wrap ((ps.length : Int) + 1 - 1) = ps.length := by rw [wraps_i64 _ (by omega) (by omega)]; omega
        have i6 : IntKind.i64.wrap (ps.length : Int) = ps.length := wraps_i64 _ (by omega) (by omega)
        have hp := wdL_mem (s.data.toList.take k) [] p (by rw [e1]; simp)
        rw [List.length_take] at hp
        have hadd : ∀ W : World, (Op.stringOp .add ⟨p.toArray⟩ (s.extract k (k + 1))).run Tryz.prog W = .ok (.string ⟨(p ++ [s[k]]).toArray⟩) W := fun W => by
          have h1 := addl p (s.extract k (k + 1)) (by simp at hp ⊢; omega) W
          rwa [extract_one s k hlt] at h1
        clear hp
        have HO5 : Hid ((wr.setCell ⟨g, ps.length, none⟩ (.string ⟨(p ++ [s[k]]).toArray⟩)).ownsRow w.heap.size 9 1 (.slice (some ⟨g, 0, none⟩) (ps.length + 1) cap) (ps.length + 1) (strs (ps ++ [p ++ [s[k]]]))) := by
          have h1 := (HO.out.stored ps.length (.string ⟨(p ++ [s[k]]).toArray⟩)).1
          rwa [show (strs (ps ++ [p])).set ps.length (.string ⟨(p ++ [s[k]]).toArray⟩) = strs (ps ++ [p ++ [s[k]]]) from by simp [strs]] at h1
        have HB5 : Hid (Below w.heap.size w (wr.setCell ⟨g, ps.length, none⟩ (.string ⟨(p ++ [s[k]]).toArray⟩)).drew) := (HB.out.setCell (p := ⟨g, ps.length, none⟩) (HO.out.lt g rfl).1 _).drew
        go_wp2
        go_region
        go_wp2
        refine ⟨⟨k + 1, by omega, by go_num, ?_, HB5.out⟩, by simp [intOf]; omega⟩
        rw [E2.out, show (ps ++ [p ++ [s[k]]]).length = ps.length + 1 from by simp]
        exact HO5.out
    · obtain rfl : k = s.size := by omega
      rw [size_of (s := s) rfl, List.take_length] at HO
      go_wp2
      go_ret
      exact ⟨_, rfl, HO.out, HB.out⟩

set_option maxHeartbeats 1000000 in
set_option maxRecDepth 100000 in
theorem IsRegister_any (s : ByteArray) (w : World) (hs : s.size ≤ 1000000) :
    Calls Tryz.prog 96 #[.string s] w fun e w' => e = .returned (.bool (regF s.data.toList).isSome) ∧ w' = w := by
  have hsz9 : (s.size : Int) ≤ 9223372036854775807 := by omega
  clear hs
  by_cases h1 : s.size = 1
  · obtain ⟨c, hc⟩ : ∃ c, s.data.toList = [c] := by
      have : s.data.toList.length = 1 := by rw [← h1]; rfl
      exact List.length_eq_one_iff.1 this
    obtain ⟨c0, hc0⟩ : ∃ c0 : Nat, c0 = c.toNat := ⟨_, rfl⟩
    have hlt : c0 < 256 := by rw [hc0]; exact c.toNat_lt
    have hg : s[0]'(by omega) = c := by
      have : s.data.toList[0]? = some c := by rw [hc]; rfl
      rw [List.getElem?_eq_getElem (by rw [hc]; simp)] at this
      exact Option.some.inj this
    have hsz : (s.size : Int) = 1 := by omega
    have hg' : (s[0]'(by omega)).toNat = c0 := by rw [hg, hc0]
    unfold regF
    rw [hc]
    simp only
    rw [← hc0]
    clear hg hc0 hc
    by_cases h2 : 97 ≤ c0
    · by_cases h3 : c0 < 105
      · rw [if_pos ⟨h2, h3⟩]
        have e1 : (97 : Int) ≤ (c0 : Int) := by omega
        have e2 : (c0 : Int) ≤ 104 := by omega
        go_enter Tryz.func96, Tryz.ntmps96
        go_wp2
        go_ret
        exact ⟨rfl, rfl⟩
      · rw [if_neg (by omega)]
        have e1 : (97 : Int) ≤ (c0 : Int) := by omega
        have e2 : decide ((c0 : Int) ≤ 104) = false := by simp; omega
        go_enter Tryz.func96, Tryz.ntmps96
        go_wp2
        go_ret
        refine ⟨?_, rfl⟩
        first | rfl | (show Ending.returned (.bool (decide ((c0 : Int) ≤ 104))) = _; rw [decide_eq_false (by omega)]; rfl)
    · rw [if_neg (by omega)]
      have e1 : ¬ (97 : Int) ≤ (c0 : Int) := by omega
      go_enter Tryz.func96, Tryz.ntmps96
      go_wp2
      go_ret
      exact ⟨rfl, rfl⟩
  · have hr : regF s.data.toList = none := by
      unfold regF
      cases h : s.data.toList with
      | nil => rfl
      | cons a l => cases l with
        | nil =>
          exfalso
          apply h1
          show s.data.size = 1
          rw [← Array.length_toList, h]
          rfl
        | cons b l => rfl
    rw [hr]
    have hsz : ¬ (s.size : Int) = 1 := by omega
    go_enter Tryz.func96, Tryz.ntmps96
    go_wp2
    go_ret
    exact ⟨rfl, rfl⟩

set_option maxHeartbeats 1000000 in
theorem IsDigitByte_any (c : UInt8) (w : World) :
    Calls Tryz.prog 97 #[.int .u8 (c.toNat : Int)] w fun e w' => e = .returned (.bool (digF c)) ∧ w' = w := by
  unfold digF
  obtain ⟨c0, hc0⟩ : ∃ c0 : Nat, c.toNat = c0 := ⟨_, rfl⟩
  rw [hc0]
  clear hc0
  by_cases h1 : 48 ≤ c0
  · have e1 : (48 : Int) ≤ (c0 : Int) := by omega
    by_cases h2 : c0 ≤ 57
    · have e2 : (c0 : Int) ≤ 57 := by omega
      rw [decide_eq_true h1, decide_eq_true h2]
      clear h1 h2
      go_enter Tryz.func97, Tryz.ntmps97
      go_wp2
      go_ret
      exact ⟨rfl, rfl⟩
    · have e2 : decide ((c0 : Int) ≤ 57) = false := by simp; omega
      rw [decide_eq_true h1, decide_eq_false h2]
      clear h1 h2
      go_enter Tryz.func97, Tryz.ntmps97
      go_wp2
      go_ret
      refine ⟨?_, rfl⟩
      first | rfl | (show Ending.returned (.bool (decide ((c0 : Int) ≤ 57))) = _; rw [decide_eq_false (by omega)]; rfl)
  · have e1 : ¬ (48 : Int) ≤ (c0 : Int) := by omega
    rw [decide_eq_false h1, Bool.false_and]
    clear h1
    go_enter Tryz.func97, Tryz.ntmps97
    go_wp2
    go_ret
    exact ⟨rfl, rfl⟩

/-- A number of the document's, or -1. -/
def nmbF (s : List UInt8) (most : Int) : Int := match numF s with | some v => if (v : Int) ≤ most then v else -1 | none => -1
theorem nmb_no {s : List UInt8} {m : Int} (h : numF s = none) : nmbF s m = -1 := by unfold nmbF; rw [h]
theorem num_no {s : List UInt8} (h : s.all digF = false) : numF s = none := by
  unfold numF
  rw [h]
  simp

set_option maxHeartbeats 2000000 in
set_option maxRecDepth 100000 in
theorem NumberOf_any (s : ByteArray) (m : Nat) (w : World) (hs : s.size ≤ 1000000) :
    Calls Tryz.prog 46 #[.string s, .int .i64 (m : Int)] w fun e w' => e = .returned (.int .i64 (nmbF s.data.toList (m : Int))) ∧ w' = w := by
  have hsl : s.size = s.data.toList.length := size_of rfl
  have HL : Hid (s.size = s.data.toList.length) := hsl
  have hsz9 : (s.size : Int) ≤ 9223372036854775807 := by omega
  have HG : Hid (∀ k (hk : k < s.size), s.data.toList[k]? = some (s[k]'hk)) := fun k hk => List.getElem?_eq_getElem (by omega)
  have HD : Hid (∀ (c : UInt8) (W : World), Calls Tryz.prog 97 #[.int .u8 (c.toNat : Int)] W fun e w' => e = .returned (.bool (digF c)) ∧ w' = W) := fun c W => IsDigitByte_any c W
  obtain ⟨z, hz⟩ : ∃ z, nmbF s.data.toList (m : Int) = z := ⟨_, rfl⟩
  have HZ : Hid (nmbF s.data.toList (m : Int) = z) := hz
  rw [hz]
  clear hs hsl hz
  go_enter Tryz.func46, Tryz.ntmps46
  go_wp2
  go_loopw [5, 6] (fun v5 v wr => ∃ (k n : Nat), k ≤ s.size ∧ v = .int .i64 (k : Int) ∧ v5 = .int .i64 (n : Int) ∧ wr = w ∧ Hid (n = valF 0 (s.data.toList.take k) ∧ (s.data.toList.take k).all digF = true ∧ k ≤ 6)) (fun _ v _ => s.size - (intOf v).toNat)
  case atStart => exact ⟨0, 0, by omega, rfl, rfl, rfl, rfl, rfl, by omega⟩
  case round =>
    obtain ⟨k, n, hk, rfl, rfl, rfl, HI⟩ := hrel
    by_cases hkl : k < s.size
    · have hki : (k : Int) < (s.size : Int) := by omega
      obtain ⟨x, hx⟩ : ∃ x : UInt8, s[k]'hkl = x := ⟨_, rfl⟩
      have hxl : s.data.toList[k]? = some x := by rw [← hx]; exact HG.out k hkl
      have htk : s.data.toList.take (k + 1) = s.data.toList.take k ++ [x] := by
        rw [List.take_add_one, hxl]
        rfl
      obtain ⟨c1, hc1⟩ : ∃ c1 : Nat, x.toNat = c1 := ⟨_, rfl⟩
      have hx2 : (s[k]'hkl).toNat = c1 := by rw [hx, hc1]
      cases hd : digF x with
      | false =>
        have hD := HD.out x
        rw [hd, hc1] at hD
        have HD2 : Hid (∀ (W : World), Calls Tryz.prog 97 #[.int .u8 (c1 : Int)] W fun e w' => e = .returned (.bool false) ∧ w' = W) := hD
        have HZ2 : Hid (z = -1) := by
          show z = -1
          rw [← HZ.out, nmb_no (num_no (List.all_eq_false.2 ⟨x, List.mem_of_getElem? hxl, by rw [hd]; simp⟩))]
        obtain rfl := HZ2.out
        clear hD hd hc1 htk hxl hx
        go_wp2_with (first | (go_at_call 97; refine (HD2.out _).mono ?_; rintro e w1 ⟨rfl, hw⟩; subst w1) | go_in)
        go_ret
        exact ⟨rfl, rfl⟩
      | true =>
        have hD := HD.out x
        rw [hd, hc1] at hD
        have HD2 : Hid (∀ (W : World), Calls Tryz.prog 97 #[.int .u8 (c1 : Int)] W fun e w' => e = .returned (.bool true) ∧ w' = W) := hD
        have hd' := (digF_iff x).1 hd
        rw [hc1] at hd'
        by_cases h5 : 5 < k
        · have h5i : (5 : Int) < (k : Int) := by omega
          have HZ2 : Hid (z = -1) := by
            show z = -1
            have h7 : numF s.data.toList = none := by
              unfold numF
              rw [if_pos (.inr (.inl (by have := HL.out; omega)))]
            rw [← HZ.out, nmb_no h7]
          obtain rfl := HZ2.out
          clear hD hd hc1 htk hxl hx
          go_wp2_with (first | (go_at_call 97; refine (HD2.out _).mono ?_; rintro e w1 ⟨rfl, hw⟩; subst w1) | go_in)
          go_ret
          exact ⟨rfl, rfl⟩
        · have h5i : ¬ (5 : Int) < (k : Int) := by omega
          have hvv : n < 1000000 := by
            rw [HI.out.1]
            have h1 := valF_le _ 0 HI.out.2.1
            have h2 : (s.data.toList.take k).length ≤ 5 := by rw [List.length_take]; omega
            have h3 : (10 : Nat) ^ (s.data.toList.take k).length ≤ 10 ^ 5 := Nat.pow_le_pow_right (by decide) h2
            have h4 : (10 : Nat) ^ 5 = 100000 := by decide
            omega
          have HE : Hid (valF 0 (s.data.toList.take (k + 1)) = 10 * n + (c1 - 48) ∧ (s.data.toList.take (k + 1)).all digF = true) := by
            refine ⟨?_, ?_⟩
            · rw [htk, HI.out.1]
              unfold valF
              rw [List.foldl_append, ← hc1]
              rfl
            · rw [htk, List.all_append, HI.out.2.1]
              simp [hd]
          obtain ⟨v1, hv1⟩ : ∃ v1 : Nat, v1 = 10 * n := ⟨_, rfl⟩
          obtain ⟨v2, hv2⟩ : ∃ v2 : Nat, v2 = v1 + c1 := ⟨_, rfl⟩
          obtain ⟨v3, hv3⟩ : ∃ v3 : Nat, v2 = v3 + 48 := ⟨v2 - 48, by omega⟩
          have e3 : (10 : Int) * (n : Int) = (v1 : Int) := by omega
          have e4 : IntKind.i64.wrap (v1 : Int) = (v1 : Int) := by rw [IntKind.wrap_i64]; omega
          have e5 : IntKind.i64.wrap (c1 : Int) = (c1 : Int) := by rw [IntKind.wrap_i64]; omega
          have e6 : (v1 : Int) + (c1 : Int) = (v2 : Int) := by omega
          have e7 : IntKind.i64.wrap (v2 : Int) = (v2 : Int) := by rw [IntKind.wrap_i64]; omega
          have e8 : (v2 : Int) - 48 = (v3 : Int) := by omega
          have e9 : IntKind.i64.wrap (v3 : Int) = (v3 : Int) := by rw [IntKind.wrap_i64]; omega
          have HV : Hid (v3 = 10 * n + (c1 - 48)) := by show v3 = _; omega
          clear hD hd hc1 htk hxl hx hd' hvv hv1 hv2 hv3
          go_wp2_with (first | (go_at_call 97; refine (HD2.out _).mono ?_; rintro e w1 ⟨rfl, hw⟩; subst w1) | go_in)
          refine ⟨⟨k + 1, v3, by omega, by go_num, rfl, trivial, by rw [HE.out.1]; exact HV.out, HE.out.2, by omega⟩, by simp [intOf]; omega⟩
    · obtain rfl : k = s.size := by omega
      have hki : ¬ (s.size : Int) < (s.size : Int) := by omega
      have he : s.data.toList.take s.size = s.data.toList := by rw [HL.out]; exact List.take_length
      have hI := HI.out
      rw [he] at hI
      obtain ⟨hn, hall, h6⟩ := hI
      clear he
      by_cases h0 : s.size = 0
      · have h0' : s.toList.isEmpty = true := by
          rw [Lib.toList_data, List.isEmpty_iff]
          exact List.length_eq_zero_iff.1 (by rw [← HL.out]; exact h0)
        have HZ2 : Hid (z = -1) := by
          show z = -1
          have h7 : numF s.data.toList = none := by
            unfold numF
            rw [if_pos (.inl (by rw [← HL.out]; exact h0))]
          rw [← HZ.out, nmb_no h7]
        obtain rfl := HZ2.out
        clear hn hall h6 h0
        go_wp2
        go_ret
        exact ⟨rfl, rfl⟩
      · have h0' : s.toList.isEmpty = false := by
          rw [Lib.toList_data, List.isEmpty_eq_false_iff]
          intro e
          have := HL.out
          rw [e] at this
          exact h0 this
        have hpos : 0 < s.size := by omega
        obtain ⟨c, hc⟩ : ∃ c, s[0]'hpos = c := ⟨_, rfl⟩
        have hhd : s.data.toList.head? = some c := by
          rw [List.head?_eq_getElem?, HG.out 0 (by omega), hc]
        obtain ⟨c0, hc0⟩ : ∃ c0 : Nat, c0 = c.toNat := ⟨_, rfl⟩
        have hg' : (s[0]'hpos).toNat = c0 := by rw [hc, hc0]
        by_cases h2 : 1 < s.size ∧ c0 = 48
        · have HZ2 : Hid (z = -1) := by
            show z = -1
            have h7 : numF s.data.toList = none := by
              unfold numF
              rw [if_pos (.inr (.inr ⟨by rw [← HL.out]; exact h2.1, by rw [hhd]; exact congrArg some (UInt8.toNat_inj.1 (by rw [← hc0, h2.2]; rfl))⟩))]
            rw [← HZ.out, nmb_no h7]
          obtain rfl := HZ2.out
          have h2i : (1 : Int) < (s.size : Int) := by omega
          have h3i : ((c0 : Int) == 48) = true := by simp; omega
          clear hn hall h6 h0 hc hhd hc0 h2
          go_wp2
          go_ret
          exact ⟨rfl, rfl⟩
        · have HNF : Hid (numF s.data.toList = some n) := by
            show numF s.data.toList = some n
            unfold numF
            rw [if_neg, if_pos hall, hn]
            rintro (h | h | h)
            · exact h0 (by rw [HL.out]; exact h)
            · have := HL.out; omega
            · refine h2 ⟨by rw [HL.out]; exact h.1, ?_⟩
              rw [hhd] at h
              rw [hc0, Option.some.inj h.2]
              rfl
          have HZ2 : Hid (z = if (n : Int) ≤ (m : Int) then (n : Int) else -1) := by
            show z = _
            rw [← HZ.out]
            unfold nmbF
            rw [HNF.out]
          have hlead : ((c0 : Int) == 48) = false ∨ (((c0 : Int) == 48) = true ∧ ((1 : Int) < (s.size : Int)) = false) := by
            by_cases h : c0 = 48
            · exact .inr ⟨by simp [h], by simp; omega⟩
            · exact .inl (by simp; omega)
          clear hn hall h6 h0 hc hhd hc0 h2
          by_cases hnm : (n : Int) ≤ (m : Int)
          · rw [if_pos hnm] at HZ2
            obtain rfl := HZ2.out
            have hnm' : ¬ (m : Int) < (n : Int) := by omega
            clear hnm
            rcases hlead with hl | ⟨hl, hl'⟩
            all_goals
              go_wp2
              go_ret
              exact ⟨rfl, rfl⟩
          · rw [if_neg hnm] at HZ2
            obtain rfl := HZ2.out
            have hnm' : (m : Int) < (n : Int) := by omega
            clear hnm
            rcases hlead with hl | ⟨hl, hl'⟩
            all_goals
              go_wp2
              go_ret
              exact ⟨rfl, rfl⟩
end Go.Proofs.YtapiedeekbfpnaaGreatDoor
